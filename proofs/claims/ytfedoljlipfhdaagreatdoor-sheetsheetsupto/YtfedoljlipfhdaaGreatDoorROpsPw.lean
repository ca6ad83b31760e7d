/- RPar9, RDepth, RQuo, RNmP, RNmQ, RNmB, RNmC, RNmD, RNmN, RWord, RRun, RNamed, ROne, RNum, RErr, ROps. -/
import Derived.Test.YtfedoljlipfhdaaGreatDoorRPar3Pw
set_option linter.unusedVariables false
set_option linter.unusedSimpArgs false
set_option maxHeartbeats 16000000
set_option maxRecDepth 100000
open Bool renaming false->U,true->O
open Go.Proofs.Tryz renaming prog->J
open Go.RowKit renaming Hid->M,Below->θ
open Go renaming bodyPost_ret->I,World->α,Calls->β,heap_alloc_new->ι,Value->π,run_storeAt_new->χ,Ending->Θ
open List renaming length_append->γ,length_cons->δ,takeWhile_sublist->μ,append_assoc->ν,length->ξ,take_of_length_le->τ,length_take->φ,nil_append->ψ,length_nil->ω,isPrefixOf->Γ,append_nil->Δ
open Nat renaming le_refl->ε,zero_le->κ
open Go.Instr renaming storeAt->ζ,index->ο,loadAt->ρ,build->υ
open Go.RowKit.Below renaming refl->η
open Option.some renaming inj->σ
namespace Go.Proofs.YtfedoljlipfhdaaGreatDoor
open Go.RowKit Go.Fm
abbrev w1P (w:α):α:=w.alloc (.cells nd0 67)
theorem aJ1 {W w:α} {b:Nat} (X:QR W b [] w):β J 201 #[pt b] w (RO W b w none):=by
 have hb:=X.lt;have X1:=X.alloc (.cells nd0 67);obtain⟨v,hv,hs⟩:=X1.blk;obtain⟨a,c,rfl⟩:=hs.slice;obtain⟨c0,c1,_⟩:=bX hv;have FA:β J 244 #[pt b] (w1P w) fun e w3=>∃es,e=.returned (.agg es)/\M ((ζ 67 (pt w.heap.size) (.agg es)).run J w3=.ok () (w3.setRow w.heap.size es))/\M (w3.heap[w.heap.size]? =some (.cells nd0 67))/\M (es.size=18)/\M (NA es)/\M (RA W b w none es (w3.setRow w.heap.size es)):=(mM X1.b).mono (by
  rintro e w3 ⟨rfl,h3⟩;obtain⟨a1,a2,a3,a4⟩:=RA.fin (o:=none) hb NA.zero h3;exact⟨nd0,rfl,a1,a2,a3,NA.zero,a4⟩)
 clear X X1 hv hs;go_enter Tryz.func201,Tryz.ntmps201;go_wp2_with (first|(go_at_call 244;refine FA.mono ?_;rintro e w3 ⟨es,rfl,RS,HG,HZ,HNA,HF⟩)|(refine aA rfl 67 _ _ rfl _ _ _ rfl rfl RS.out ?_;clear RS))
 exact I (aZ HG.out HZ.out rfl rfl) rfl ⟨_,rfl,HNA.out,HF.out⟩
theorem iL {W w:α} {b:Nat} {t:Tk.Tok} {q:List Tk.Tok} (X:QR W b (t:: q) w):∃g o c A w3,(w1P w).cell? ⟨b,0,none⟩=some (.slice (some ⟨g,o,none⟩) (q.length+1) c)/\(w1P w).cell? ⟨b,1,none⟩=some (.bool U)/\q.length+1<=c/\(if c=1 then some (⟨g,o,none⟩:Addr) else some ⟨g,o+9,none⟩)=A/\
  M ((ρ 188 (.pointer (some ⟨g,o,none⟩))).run J (w1P w)=.ok (.agg (tk t).cs) (w1P w))/\M ((ζ 188 (.pointer (some ⟨w.heap.size+1,0,none⟩)) (.agg (tk t).cs)).run J ((w1P w).alloc (.cells tk0 188))=.ok () ((w1P w).alloc (.cells (tk t).cs 188)))/\
  ((w1P w).alloc (.cells (tk t).cs 188)).cell? ⟨b,0,none⟩=some (.slice (some ⟨g,o,none⟩) (q.length+1) c)/\((w1P w).alloc (.cells (tk t).cs 188)).frozen? ⟨b,0,none⟩=U/\((w1P w).alloc (.cells (tk t).cs 188)).setCell ⟨b,0,none⟩ (.slice A q.length (c - 1))=w3/\
  M (Sq W b q (w1P w) w3)/\M (w3.heap[w.heap.size]? =some (.cells nd0 67))/\M (w3.heap[w.heap.size+1]? =some (.cells (tk t).cs 188))/\w3.cell? ⟨w.heap.size+1,0,none⟩=some (.int .i64 (tk t).k)/\w3.cell? ⟨w.heap.size+1,1,none⟩=some (.int .i64 (tk t).n)/\w3.cell? ⟨w.heap.size+1,2,none⟩=some (.string (tk t).s):=by
 have hb:=X.lt;have X1:=X.alloc (.cells nd0 67);have hz1:(w1P w).heap.size=w.heap.size+1:=by simp
 obtain⟨g,o,c,hv,hlc,hcc,hts⟩:=X1.first;have B2:θ (w1P w).heap.size (w1P w) ((w1P w).alloc (.cells (tk t).cs 188)):=aC (η _ _) _;have hv2:=(B2.block _ (bA hv)).trans hv;have G3:=Lib.grownBy_setCell ((w1P w).alloc (.cells (tk t).cs 188)) b 0 (.slice (if c=1 then some ⟨g,o,none⟩ else some ⟨g,o+9,none⟩) q.length (c - 1));have e0:((w1P w).alloc (.cells (tk t).cs 188)).heap[w.heap.size]? =some (.cells nd0 67):=(Below.heap_alloc _ _ _ (by simp)).trans (ι w _);have e1:((w1P w).alloc (.cells (tk t).cs 188)).heap[w.heap.size+1]? =some (.cells (tk t).cs 188):=by have:=ι (w1P w) (.cells (tk t).cs 188);rw [hz1] at this;exact this
 have k0:=(G3.block _ (bA e0) (by intro e;have:=σ e;omega)).trans e0;have k1:=(G3.block _ (bA e1) (by intro e;have:=σ e;omega)).trans e1;have RS:=χ (P:=J) (w1P w) 188 tk0 (tk t).cs uM rfl (oU _ _ _ _ _ _ _ _ _);rw [hz1] at RS;exact⟨g,o,c,_,_,(bX hv).1,(bX hv).2.1,hlc,rfl,run_loadAt_mid (P:=J) _ g o 188 (tk t).cl _ (fun j x hx=>hcc j x hx) Tryz.underlying188 rfl uM,RS,(bX hv2).1,(bX hv2).2.2.1,rfl,X1.rest B2 hts,k0,k1,aDj k1 0 _ rfl,aDj k1 1 _ rfl,aDj k1 2 _ rfl⟩
theorem aJ2 (u:α) (n:Int):(υ 62 #[(0,.int .i64 1),(1,.int .i64 n)]).run J u=.ok (.agg #[.int .i64 1,.int .i64 n,.string noB]) u:=by kernel_rfl
theorem aJ3 (u:α) (s:ByteArray):(υ 62 #[(0,.int .i64 2),(2,.string s)]).run J u=.ok (.agg #[.int .i64 2,.int .i64 0,.string s]) u:=by kernel_rfl
theorem aJ4 (u:α) (n:Int):(υ 62 #[(0,.int .i64 4),(1,.int .i64 n)]).run J u=.ok (.agg #[.int .i64 4,.int .i64 n,.string noB]) u:=by kernel_rfl
section
variable {W w:α} {b:Nat} {t:Tk.Tok} {q:List Tk.Tok}
theorem aJ5 {u:α} (hb:b < w.heap.size) (a:Lab) (h:Sq W b q (w1P w) u):M ((ζ 67 (pt w.heap.size) (.agg (lcs a (.slice none 0 0)))).run J u=.ok () (u.setRow w.heap.size (lcs a (.slice none 0 0))))/\M (RO W b w (some (tree a [],q)) (.returned (.agg (lcs a (.slice none 0 0)))) (u.setRow w.heap.size (lcs a (.slice none 0 0)))):=by obtain⟨a1,a2,a3,a4⟩:=RA.fin hb (pK a) (RA.leaf a h);exact⟨a1,_,rfl,pK a,a4.out⟩
theorem aJ6 (X:QR W b (t:: q) w) (hq:q.length<=255) (hk:(tk t).k=1):β J 201 #[pt b] w (RO W b w (some (tree (fQ 1 (tk t).n nb) [],q))):=by
 have hb:=X.lt;obtain⟨g,o,c,A,w3,c0,c1,hlc,hA,RL,RS0,d0,f0,hw3,HS,HG,HB,k0,k1,k2⟩:=iL X;obtain⟨RS,HF⟩:=aJ5 hb (fQ 1 (tk t).n nb) HS.out;have B1:M _:=aJ2 w3 (tk t).n;have B2:M _:=mJ w3 1 (tk t).n noB;have hl:(((q.length:Int)+1)==0)=U:=by simp;omega
 have hz:M ((lcs (fQ 1 (tk t).n nb) (.slice none 0 0)).size=18):=fE _ _;rw [hk] at k0;clear X HS HB;generalize lcs (fQ 1 (tk t).n nb) (.slice none 0 0)=es at *;generalize (tk t).cs=cs at *;generalize (tk t).n=n at *;generalize (tk t).s=s at *;generalize q.length=m at *;go_enter Tryz.func201,Tryz.ntmps201;go_wp2_with (first|(refine aB rfl 188 _ rfl _ _ rfl RL.out ?_;clear RL)|(refine aA rfl 188 _ _ rfl _ _ _ rfl rfl RS0.out ?_;clear RS0)|(refine aL rfl 62 _ rfl _ _ (by go_simp) B1.out ?_;clear B1)|(refine aL rfl 67 _ rfl _ _ (by go_simp) B2.out ?_;clear B2)|(refine aA rfl 67 _ _ rfl _ _ _ rfl rfl RS.out ?_;clear RS))
 exact I (aZ HG.out hz.out rfl rfl) rfl HF.out
theorem aJ7 (X:QR W b (t:: q) w) (hq:q.length<=255) (hk:(tk t).k=2):β J 201 #[pt b] w (RO W b w (some (tree (fQ 2 0 (tk t).s) [],q))):=by
 have hb:=X.lt;obtain⟨g,o,c,A,w3,c0,c1,hlc,hA,RL,RS0,d0,f0,hw3,HS,HG,HB,k0,k1,k2⟩:=iL X;obtain⟨RS,HF⟩:=aJ5 hb (fQ 2 0 (tk t).s) HS.out;have B1:M _:=aJ3 w3 (tk t).s;have B2:M _:=mJ w3 2 0 (tk t).s;have hl:(((q.length:Int)+1)==0)=U:=by simp;omega
 have hz:M ((lcs (fQ 2 0 (tk t).s) (.slice none 0 0)).size=18):=fE _ _;rw [hk] at k0;clear X HS HB;generalize lcs (fQ 2 0 (tk t).s) (.slice none 0 0)=es at *;generalize (tk t).cs=cs at *;generalize (tk t).n=n at *;generalize (tk t).s=s at *;generalize q.length=m at *;go_enter Tryz.func201,Tryz.ntmps201;go_wp2_with (first|(refine aB rfl 188 _ rfl _ _ rfl RL.out ?_;clear RL)|(refine aA rfl 188 _ _ rfl _ _ _ rfl rfl RS0.out ?_;clear RS0)|(refine aL rfl 62 _ rfl _ _ (by go_simp) B1.out ?_;clear B1)|(refine aL rfl 67 _ rfl _ _ (by go_simp) B2.out ?_;clear B2)|(refine aA rfl 67 _ _ rfl _ _ _ rfl rfl RS.out ?_;clear RS))
 exact I (aZ HG.out hz.out rfl rfl) rfl HF.out
theorem aJ8 (X:QR W b (t:: q) w) (hq:q.length<=255) (hk:(tk t).k=6):β J 201 #[pt b] w (RO W b w (some (tree (fQ 4 (tk t).n nb) [],q))):=by
 have hb:=X.lt;obtain⟨g,o,c,A,w3,c0,c1,hlc,hA,RL,RS0,d0,f0,hw3,HS,HG,HB,k0,k1,k2⟩:=iL X;obtain⟨RS,HF⟩:=aJ5 hb (fQ 4 (tk t).n nb) HS.out;have B1:M _:=aJ4 w3 (tk t).n;have B2:M _:=mJ w3 4 (tk t).n noB;have hl:(((q.length:Int)+1)==0)=U:=by simp;omega
 have hz:M ((lcs (fQ 4 (tk t).n nb) (.slice none 0 0)).size=18):=fE _ _;rw [hk] at k0;clear X HS HB;generalize lcs (fQ 4 (tk t).n nb) (.slice none 0 0)=es at *;generalize (tk t).cs=cs at *;generalize (tk t).n=n at *;generalize (tk t).s=s at *;generalize q.length=m at *;go_enter Tryz.func201,Tryz.ntmps201;go_wp2_with (first|(refine aB rfl 188 _ rfl _ _ rfl RL.out ?_;clear RL)|(refine aA rfl 188 _ _ rfl _ _ _ rfl rfl RS0.out ?_;clear RS0)|(refine aL rfl 62 _ rfl _ _ (by go_simp) B1.out ?_;clear B1)|(refine aL rfl 67 _ rfl _ _ (by go_simp) B2.out ?_;clear B2)|(refine aA rfl 67 _ _ rfl _ _ _ rfl rfl RS.out ?_;clear RS))
 exact I (aZ HG.out hz.out rfl rfl) rfl HF.out
theorem aMM {u:α} {f:Nat} {cs:Array π} {o:Option (T × List Tk.Tok)} (hb:b < w.heap.size) (h:Sq W b q (w1P w) u) (C:β J f #[pt b,.agg cs] u (RO W b u o)):
  β J f #[pt b,.agg cs] u fun e w3=>∃es,e=.returned (.agg es)/\M ((ζ 67 (pt w.heap.size) (.agg es)).run J w3=.ok () (w3.setRow w.heap.size es))/\M (w3.heap[w.heap.size]? =some (.cells nd0 67))/\M (es.size=18)/\M (RO W b w o (.returned (.agg es)) (w3.setRow w.heap.size es)):=C.mono (by
 rintro e w3 ⟨es,rfl,hn,h3⟩;obtain⟨a1,a2,a3,a4⟩:=RA.fin hb hn (h3.from h.2);exact⟨es,rfl,a1,a2,a3,es,rfl,hn,a4.out⟩)
theorem aMN {u:α} {g:Nat} (h:u.heap[g]? =some (.cells (tk t).cs 188)):(ρ 188 (pt g)).run J u=.ok (.agg (tk t).cs) u:=lod (z:=(0,0)) h rfl Tryz.underlying188 uM
theorem aJ9 (X:QR W b (t:: q) w) (hq:q.length<=255) (hk:(tk t).k=3) {o':Option (T × List Tk.Tok)} (C:∀u,QR W b q u->β J 245 #[pt b,.agg (tk t).cs] u (RO W b u o')):β J 201 #[pt b] w (RO W b w o'):=by
 have hb:=X.lt;obtain⟨g,o,c,A,w3,c0,c1,hlc,hA,RL,RS0,d0,f0,hw3,HS,HG,HB,k0,k1,k2⟩:=iL X;have C1:=aMM hb HS.out (C _ HS.out.1);have RL3:M _:=aMN HB.out;have hl:(((q.length:Int)+1)==0)=U:=by simp;omega
 rw [hk] at k0;clear X HS HB C HG;generalize (tk t).cs=cs at *;generalize (tk t).n=n at *;generalize (tk t).s=s at *;generalize q.length=m at *;go_enter Tryz.func201,Tryz.ntmps201;go_wp2_with (first|(refine aB rfl 188 _ rfl _ _ rfl RL.out ?_;clear RL)|(refine aA rfl 188 _ _ rfl _ _ _ rfl rfl RS0.out ?_;clear RS0)|(refine aB rfl 188 _ rfl _ _ rfl RL3.out ?_;clear RL3)|(go_at_call 245;refine C1.mono ?_;rintro e w4 ⟨es,rfl,RS,HG,HZ,HF⟩)|(refine aA rfl 67 _ _ rfl _ _ _ rfl rfl RS.out ?_;clear RS))
 exact I (aZ HG.out HZ.out rfl rfl) rfl HF.out
theorem aG5 (X:QR W b (t:: q) w) (hq:q.length<=255) (hk:(tk t).k=4) {o':Option (T × List Tk.Tok)} (C:∀u,QR W b q u->β J 246 #[pt b,.agg (tk t).cs] u (RO W b u o')):β J 201 #[pt b] w (RO W b w o'):=by
 have hb:=X.lt;obtain⟨g,o,c,A,w3,c0,c1,hlc,hA,RL,RS0,d0,f0,hw3,HS,HG,HB,k0,k1,k2⟩:=iL X;have C1:=aMM hb HS.out (C _ HS.out.1);have RL3:M _:=aMN HB.out;have hl:(((q.length:Int)+1)==0)=U:=by simp;omega
 rw [hk] at k0;clear X HS HB C HG;generalize (tk t).cs=cs at *;generalize (tk t).n=n at *;generalize (tk t).s=s at *;generalize q.length=m at *;go_enter Tryz.func201,Tryz.ntmps201;go_wp2_with (first|(refine aB rfl 188 _ rfl _ _ rfl RL.out ?_;clear RL)|(refine aA rfl 188 _ _ rfl _ _ _ rfl rfl RS0.out ?_;clear RS0)|(refine aB rfl 188 _ rfl _ _ rfl RL3.out ?_;clear RL3)|(go_at_call 246;refine C1.mono ?_;rintro e w4 ⟨es,rfl,RS,HG,HZ,HF⟩)|(refine aA rfl 67 _ _ rfl _ _ _ rfl rfl RS.out ?_;clear RS))
 exact I (aZ HG.out HZ.out rfl rfl) rfl HF.out
theorem aMe (X:QR W b (t:: q) w) (hq:q.length<=255) (hk:(tk t).k=5) (hs:((tk t).s.toList==[40])=U):β J 201 #[pt b] w (RO W b w none):=by
 have hb:=X.lt;obtain⟨g,o,c,A,w3,c0,c1,hlc,hA,RL,RS0,d0,f0,hw3,HS,HG,HB,k0,k1,k2⟩:=iL X;have FA:β J 244 #[pt b] w3 fun e w4=>∃es,e=.returned (.agg es)/\M ((ζ 67 (pt w.heap.size) (.agg es)).run J w4=.ok () (w4.setRow w.heap.size es))/\M (w4.heap[w.heap.size]? =some (.cells nd0 67))/\M (es.size=18)/\M (RO W b w none (.returned (.agg es)) (w4.setRow w.heap.size es)):=(mM HS.out.1.b).mono (by
  rintro e w4 ⟨rfl,h3⟩;obtain⟨a1,a2,a3,a4⟩:=RA.fin (o:=none) hb NA.zero (HS.out.bad h3);exact⟨nd0,rfl,a1,a2,a3,nd0,rfl,NA.zero,a4.out⟩)
 have hl:(((q.length:Int)+1)==0)=U:=by simp;omega
 rw [hk] at k0;clear X HS HB HG;generalize (tk t).cs=cs at *;generalize (tk t).n=n at *;generalize (tk t).s=s at *;generalize q.length=m at *;go_enter Tryz.func201,Tryz.ntmps201;go_wp2_with (first|(refine aB rfl 188 _ rfl _ _ rfl RL.out ?_;clear RL)|(refine aA rfl 188 _ _ rfl _ _ _ rfl rfl RS0.out ?_;clear RS0)|(go_at_call 244;refine FA.mono ?_;rintro e w4 ⟨es,rfl,RS,HG,HZ,HF⟩)|(refine aA rfl 67 _ _ rfl _ _ _ rfl rfl RS.out ?_;clear RS))
 exact I (aZ HG.out HZ.out rfl rfl) rfl HF.out
def yY (o:Option (T × List Tk.Tok)):Option (T × List Tk.Tok):=o.bind fun p=>if aU p.2=[41] then some (p.1,p.2.tail) else none
abbrev InO (W:α) (b:Nat) (w:α) (o:Option (T × List Tk.Tok)) (es:Array π) (w4:α):Prop:=M ((ζ 67 (pt w4.heap.size) (.agg es)).run J (w4.alloc (.cells nd0 67))=.ok () (w4.alloc (.cells es 67)))/\     M (β J 157 #[pt b,.string ⟨#[41]⟩] (w4.alloc (.cells es 67)) fun e w5=>e=.returned (.tuple #[])/\M ((ρ 67 (pt w4.heap.size)).run J w5=.ok (.agg es) w5)/\M ((ζ 67 (pt w.heap.size) (.agg es)).run J w5=.ok () (w5.setRow w.heap.size es))/\M (w5.heap[w.heap.size]? =some (.cells nd0 67))/\M (es.size=18)/\M (RO W b w (yY o) (.returned (.agg es)) (w5.setRow w.heap.size es)))
theorem inP {u w4:α} {es:Array π} {o:Option (T × List Tk.Tok)} (hb:b < w.heap.size) (h:Sq W b q (w1P w) u) (hn:NA es) (h4:RA W b u o es w4) (hl:∀p,o=some p->p.2.length<=256):
  InO W b w o es w4:=by
 have hlt:b < u.heap.size:=h.1.lt;have hs4:=h4.grow.size;refine ⟨χ w4 67 nd0 _ (by rw [hn.size];exact iO) (by rw [hn.size];rfl) hn.one, ?_⟩;have main:∀(o2:Option (T × List Tk.Tok)) (w5:α),(w4.alloc (.cells es 67)).grownBy w5 (some b)->RA W b (w1P w) o2 es w5->M ((ρ 67 (pt w4.heap.size)).run J w5=.ok (.agg es) w5)/\M ((ζ 67 (pt w.heap.size) (.agg es)).run J w5=.ok () (w5.setRow w.heap.size es))/\M (w5.heap[w.heap.size]? =some (.cells nd0 67))/\M (es.size=18)/\M (RO W b w o2 (.returned (.agg es)) (w5.setRow w.heap.size es)):=fun o2 w5 hg h5=>by obtain⟨a1,a2,a3,a4⟩:=RA.fin hb hn h5;exact⟨hn.lod ((hg.block _ (by simp) (by intro e;have:=σ e;omega)).trans (ι _ _)),a1,a2,a3,es,rfl,hn,a4.out⟩
 cases o with
 | none=>
  have h4':Sw W b u w4:=h4;refine (aAL (s:=[41]) (h4'.alloc (.cells es 67)).1 (by decide)).mono ?_;rintro e w5 ⟨rfl,h5⟩;exact⟨rfl,main none w5 h5.2 (h.bad ((h4'.alloc (.cells es 67)).step h5))⟩
 | some p=>
  obtain⟨n,r⟩:=p;obtain⟨h41,h42⟩:=h4;have hr:r.length<=256:=hl _ rfl;have hS5:=h42.alloc (.cells es 67);by_cases hq:aU r=[41]
  ·refine (eT (s:=[41]) hS5.1 hr (by decide) hq).mono ?_;rintro e w5 ⟨rfl,h5⟩;have e2:yY (some (n,r))=some (n,r.tail):=by unfold yY;rw [Option.bind_some,if_pos hq]
   rw [e2];refine ⟨rfl,main (some (n,r.tail)) w5 h5.2 ⟨?_,h.step (hS5.step h5)⟩⟩;have hlow:=h.2.size;exact((h41.below (aC (η _ _) (.cells es 67))).grown h5.2 (fun g e hk=>by cases e;have hk':u.heap.size<=b:=hk;omega)).mono (fun i hi _=>Nat.le_trans hlow hi)
  ·refine (aDf (s:=[41]) hS5.1 hr hq).mono ?_;rintro e w5 ⟨rfl,h5⟩;have e2:yY (some (n,r))=none:=by unfold yY;rw [Option.bind_some,if_neg hq]
   rw [e2];exact⟨rfl,main none w5 h5.2 (h.bad (hS5.bad h5))⟩
theorem aG6 (X:QR W b (t:: q) w) (hq:q.length<=255) (hk:(tk t).k=5) (hs:((tk t).s.toList==[40])=O) (C:∀u,QR W b q u->β J 109 #[pt b,.int .i64 1] u (RO W b u (PP 1 q))):β J 201 #[pt b] w (RO W b w (yY (PP 1 q))):=by
 have hb:=X.lt;obtain⟨g,o,c,A,w3,c0,c1,hlc,hA,RL,RS0,d0,f0,hw3,HS,HG,HB,k0,k1,k2⟩:=iL X;have hlen:∀p,PP 1 q=some p->p.2.length<=256:=fun p hp=>by have:=jC upF trF (by omega) _ p.1 p.2 hp;omega
 have C1:β J 109 #[pt b,.int .i64 1] w3 fun e w4=>∃es,e=.returned (.agg es)/\InO W b w (PP 1 q) es w4:=(C _ HS.out.1).mono (by
  rintro e w4 ⟨es,rfl,hn,h4⟩;exact⟨es,rfl,inP hb HS.out hn h4 hlen⟩)
 have hl:(((q.length:Int)+1)==0)=U:=by simp;omega
 rw [hk] at k0;clear X HS HB HG C hlen;generalize (tk t).cs=cs at *;generalize (tk t).n=n at *;generalize (tk t).s=s at *;generalize q.length=m at *;go_enter Tryz.func201,Tryz.ntmps201;go_wp2_with (first|(refine aB rfl 188 _ rfl _ _ rfl RL.out ?_;clear RL)|(refine aA rfl 188 _ _ rfl _ _ _ rfl rfl RS0.out ?_;clear RS0)|(go_at_call 109;refine C1.mono ?_;rintro e w4 ⟨es,rfl,RS4,TK⟩)|(refine aA rfl 67 _ _ rfl _ _ _ rfl rfl RS4.out ?_;clear RS4)|(go_at_call 157;refine TK.out.mono ?_;rintro e w5 ⟨rfl,RL5,RS,HG,HZ,HF⟩)|(refine aB rfl 67 _ rfl _ _ rfl RL5.out ?_;clear RL5)|(refine aA rfl 67 _ _ rfl _ _ _ rfl rfl RS.out ?_;clear RS))
 exact I (aZ HG.out HZ.out rfl rfl) rfl HF.out
end
theorem aKa {W w:α} {b:Nat} {ts:List Tk.Tok} (hn:ts.length<=256) (X:QR W b ts w) (C:∀ts' u,ts'.length < ts.length->QR W b ts' u->β J 109 #[pt b,.int .i64 1] u (RO W b u (PP 1 ts'))):
  β J 201 #[pt b] w (RO W b w (PP 8 ts)):=by
 have e:PP 8 ts=jB upF trF (PP 1) ts:=aI8 upF trF ts;rw [e];cases ts with
 | nil=>exact aJ1 X
 | cons t q=>
  have hok:=X.ok t (by simp);have hq:q.length<=255:=by simp at hn;omega
  cases t using Tk.Tok.cs with
  | num n=>exact aJ6 X hq rfl
  | str s=>exact aJ7 X hq rfl
  | bad n=>exact aJ8 X hq rfl
  | ref x=>exact aJ9 X hq rfl (fun u hu=>aJV x (by omega) hu)
  | word bk s=>
   have e2:jB upF trF (PP 1) (Tk.Tok.word bk s:: q)=vS bk s q:=by
    simp only [jB,vS];rw [aFI];split
    ·rfl
    ·cases trF s <;> rfl
   rw [e2];refine aG5 X hq rfl (fun u hu=>aG4 (by omega) (aAG hok.1).2 hu (fun ts' u' h1 h2=>C ts' u' ?_ h2));rw [List.length_tail] at h1;simp;omega
  | op s=>
   by_cases hs:s=[40]
   ·have e2:jB upF trF (PP 1) (Tk.Tok.op s:: q)=yY (PP 1 q):=by simp only [jB];rw [if_pos hs];rfl
    rw [e2];exact aG6 X hq rfl (by show ((ba s).toList==[40])=O;rw [hs,ByteArray.toList_eq];rfl) (fun u hu=>C q u (by simp) hu)
   ·have e2:jB upF trF (PP 1) (Tk.Tok.op s:: q)=none:=by simp only [jB];rw [if_neg hs]
    rw [e2];exact aMe X hq rfl (bP hs)
theorem aFR:∀(n:Nat),n<=256->∀(W:α) (b:Nat),(∀lv,1<=lv->lv<=6->∀ts:List Tk.Tok,ts.length<=n->∀w,QR W b ts w->β J 109 #[pt b,.int .i64 ((lv:Nat):Int)] w (RO W b w (PP lv ts)))/\(∀ts:List Tk.Tok,ts.length<=n->∀w,QR W b ts w->β J 155 #[pt b] w (RO W b w (PP 6 ts)))
 | n,hn,W,b=>by
  have IH:∀ts':List Tk.Tok,ts'.length < n->(∀lv,1<=lv->lv<=6->∀w,QR W b ts' w->β J 109 #[pt b,.int .i64 ((lv:Nat):Int)] w (RO W b w (PP lv ts')))/\(∀w,QR W b ts' w->β J 155 #[pt b] w (RO W b w (PP 6 ts'))):=fun ts' hlt=>by
   cases n with
   | zero=>exact absurd hlt (Nat.not_lt_zero _)
   | succ m=>
    have:=aFR m (by omega) W b;exact⟨fun lv h1 h6=>this.1 lv h1 h6 ts' (by omega),this.2 ts' (by omega)⟩
  have H89:∀ts:List Tk.Tok,ts.length<=n->∀w,QR W b ts w->β J 201 #[pt b] w (RO W b w (PP 8 ts)):=fun ts hl w X=>aKa (by omega) X (fun ts' u h1 h2=>(IH ts' (by omega)).1 1 (by omega) (by omega) u h2);have H45:∀ts:List Tk.Tok,ts.length<=n->∀w,QR W b ts w->β J 155 #[pt b] w (RO W b w (PP 6 ts)):=fun ts hl w X=>aL7 (by omega) (fun u h hu=>(IH ts.tail (by have:=(bB (ts:=ts) h (by decide)).1;omega)).2 u hu) (H89 ts hl) X;have H6:∀ts:List Tk.Tok,ts.length<=n->∀w,QR W b ts w->β J 109 #[pt b,.int .i64 ((6:Nat):Int)] w (RO W b w (PP 6 ts)):=fun ts hl w X=>aJP X.lt (H45 ts hl _ (X.alloc _));have step:∀lv,1<=lv->lv<=5->(∀ts:List Tk.Tok,ts.length<=n->∀w,QR W b ts w->β J 109 #[pt b,.int .i64 ((lv+1:Nat):Int)] w (RO W b w (PP (lv+1) ts)))->∀ts:List Tk.Tok,ts.length<=n->∀w,QR W b ts w->β J 109 #[pt b,.int .i64 ((lv:Nat):Int)] w (RO W b w (PP lv ts)):=fun lv h1 h5 hc ts hl w X=>
   aJZ h1 h5 (by omega) (fun ts' u hl' hu=>hc ts' (by omega) u hu) X
  have H5:=step 5 (by omega) (by omega) H6;have H4:=step 4 (by omega) (by omega) H5;have H3:=step 3 (by omega) (by omega) H4;have H2:=step 2 (by omega) (by omega) H3;have H1:=step 1 (by omega) (by omega) H2;refine ⟨fun lv h1 h6=> ?_,H45⟩;have hc:lv=1\/lv=2\/lv=3\/lv=4\/lv=5\/lv=6:=by omega
  rcases hc with rfl | rfl | rfl | rfl | rfl | rfl
  ·exact H1
  ·exact H2
  ·exact H3
  ·exact H4
  ·exact H5
  ·exact H6
theorem oI {W w:α} {b:Nat} {ts:List Tk.Tok} (hn:ts.length<=256) (X:QR W b ts w):β J 109 #[pt b,.int .i64 1] w (RO W b w (PP 1 ts)):=
 (aFR 256 (ε _) W b).1 1 (by omega) (by omega) ts hn w X
theorem aEG:∀t:T,zT t<=1000000->∀(w:α) (es:Array π),NT w es t->CR 45 #[.agg es] w (.int .i64 (dT t:Nat)):=by
 refine ind ?_;intro t ih hz w es h;obtain⟨p,n,c,rfl,hs⟩:=h;have HK:M (∀s ∈ kids t.2,∀(w:α) (es:Array π),NT w es s->CR 45 #[.agg es] w (.int .i64 (dT s:Nat))):=fun s hs=>ih s hs (by have:=aBk hs;omega);have HD:M (∀s ∈ kids t.2,dT s<=1000000):=fun s hs=>by have:=aFz s;have:=aBk hs;omega
 clear ih;have hd1:dT t<=1000000:=by have:=aFz t;omega
 have hdd:dT t=depth t.2+1:=rfl;have h17:=qU (u:=w.alloc (.cells (lcs t.1 (.slice p n c)) 67)) (ι w _);have HB0:M (θ w.heap.size w (w.alloc (.cells (lcs t.1 (.slice p n c)) 67))):=aC (η _ _) _;have HS:M (SF w p n t.2):=hs;have hn:n<=1000000:=by
  have e:=hs.1;have:(kids t.2).length<=size t.2:=by
   rw [<-aFw,aCQ];have:∀l:List T,l.length<=(l.flatMap aI3).length:=by
    intro l;induction l with
    | nil=>exact κ _
    | cons a l ih=>rw [List.flatMap_cons,γ,δ,aI3,δ];omega
   exact this _
  unfold zT at hz;omega
 have HN:M (n=(kids t.2).length):=hs.1;clear hs hz;generalize lcs t.1 (.slice p n c)=bx at *;go_enter Tryz.func45,Tryz.ntmps45;go_wp2;go_loopw [3,10] (fun d i wr=>∃k:Nat,k<=n/\i=.int .i64 (k:Nat)/\d=.int .i64 (dpK t.2 k:Nat)/\M (θ w.heap.size w wr)) (fun _ i _=>n - (intOf i).toNat)
 case atStart=>exact⟨0,κ _,rfl,rfl,HB0⟩
 case round=>
  obtain⟨k,hk,rfl,rfl,HB⟩:=hrel;have hle:=aJa t.2 k;by_cases hlt:k < n
  ·have hki:(k:Int) < n:=by omega
   obtain⟨a',es,s,rfl,RL,HI,RS,RL2,HNT,HM⟩:=HS.out.step HB.out hlt;have C:=HK.out s HM.out _ _ HNT.out;have HDP:M (dpK t.2 (k+1)=max (dpK t.2 k) (dT s)):=aCT HI.out;have hds:=HD.out s HM.out;generalize dpK t.2 k=D0 at *;generalize dT s=E at *;by_cases hgt:D0 < E
   ·have hgi:(D0:Int) < (E:Int):=by omega
    have HX:M (dpK t.2 (k+1)=E):=by show _=_;rw [HDP.out];omega
    go_wp2_with (first|(refine aB rfl 67 _ rfl _ _ rfl RL.out ?_;clear RL)|(refine aA rfl 67 _ _ rfl _ _ _ rfl rfl RS.out ?_;clear RS)|(refine aB rfl 67 _ rfl _ _ rfl RL2.out ?_;clear RL2)|(go_at_call 45;refine C.mono ?_;rintro e w2 ⟨rfl,hs⟩;have HU2:M (θ w.heap.size w w2):=aD (aC HB.out _) hs;clear hs))
    go_roundw
    case rel=>exact⟨k+1,by omega,by go_num,by rw [HX.out],HU2⟩
    case measure=>simp [intOf];omega
   ·have hgi:¬(D0:Int) < (E:Int):=by omega
    have HX:M (dpK t.2 (k+1)=D0):=by show _=_;rw [HDP.out];omega
    go_wp2_with (first|(refine aB rfl 67 _ rfl _ _ rfl RL.out ?_;clear RL)|(refine aA rfl 67 _ _ rfl _ _ _ rfl rfl RS.out ?_;clear RS)|(refine aB rfl 67 _ rfl _ _ rfl RL2.out ?_;clear RL2)|(go_at_call 45;refine C.mono ?_;rintro e w2 ⟨rfl,hs⟩;have HU2:M (θ w.heap.size w w2):=aD (aC HB.out _) hs;clear hs))
    go_roundw
    case rel=>exact⟨k+1,by omega,by go_num,by rw [HX.out],HU2⟩
    case measure=>simp [intOf];omega
  ·have hki:¬(k:Int) < n:=by omega
   have HE:M (dpK t.2 k=depth t.2):=aFA _ (by have:=HN.out;omega);go_wp2;go_ret;exact⟨by rw [HE.out];rfl,HB.out⟩
end Go.Proofs.YtfedoljlipfhdaaGreatDoor
namespace Go.Proofs.YtfedoljlipfhdaaGreatDoor
open Go.RowKit
abbrev tkR:Obj:=.cells tk0 188
def fK (w:α) (l:List UInt8) (o:Option (Tk.Tok × List UInt8)) (e:Θ) (w':α):Prop:=
 θ w.heap.size w w'/\match o with
  | some (t,m)=>e=.returned (.tuple #[.agg (tk t).cs,.int .i64 ((l.length - m.length:Nat):Int)])
  | none=>e=.returned (.tuple #[.agg tk0,.int .i64 0])
structure RZ (w u:α):Prop where
 bel:θ w.heap.size w u
 z:u.heap[w.heap.size]? =some tkR
theorem RZ.begin (w:α):RZ w (w.alloc tkR):=⟨aC (η _ _) _,ι w _⟩
theorem RZ.below {w u u1:α} (h:RZ w u) (hb:θ u.heap.size u u1):RZ w u1:=⟨aD h.bel hb,(hb.block _ (bA h.z)).trans h.z⟩
theorem RZ.alloc {w u:α} (h:RZ w u) (o:Obj):RZ w (u.alloc o):=h.below (aC (η _ _) o)
theorem RZ.put {w u:α} (h:RZ w u) (k n:Int) (s b' h':ByteArray) (r c:Int) (fr fc:Bool):
  M ((ζ 188 (pt w.heap.size) (.agg (tcs k n s b' h' r c fr fc))).run J u=.ok () (u.setRow w.heap.size (tcs k n s b' h' r c fr fc))):=
 sto h.z uM rfl (oU k n s b' h' r c fr fc)
theorem RZ.ans {w u:α} (h:RZ w u) (es:Array π) (he:es.size=9) {fn:Func} {p q:Tmp} (hr:fn.results=#[.cell p 188,.tmp q]) {tmps:Array π} {v2:π}
  (hp:tmps.getD p undef=pt w.heap.size) (hv:tmps.getD q undef=v2):(results fn tmps).run J (u.setRow w.heap.size es)=.ok (.tuple #[.agg es,v2]) (u.setRow w.heap.size es):=
 kJ hr hp (setRow_heap _ _ _ es _ _ h.z) rfl Tryz.underlying188 (by rw [he];exact uM) hv
theorem RZ.fin {w u:α} (h:RZ w u) (es:Array π):θ w.heap.size w (u.setRow w.heap.size es):=
 h.bel.grown (aK _ _ _) h.bel.size (fun k hk=>by cases hk;exact ε _)
theorem tK {w:α} (es:Array π) (he:es.size=9) {fn:Func} {p q:Tmp} (hr:fn.results=#[.cell p 188,.tmp q]) {tmps:Array π} {v2:π}
  (hp:tmps.getD p undef=pt w.heap.size) (hv:tmps.getD q undef=v2):(results fn tmps).run J (w.alloc (.cells es 188))=.ok (.tuple #[.agg es,v2]) (w.alloc (.cells es 188)):=
 kJ hr hp (ι w _) rfl Tryz.underlying188 (by rw [he];exact uM) hv
theorem drop_at (l:List UInt8) (k:Nat) (h:k < l.length):l.drop k=l[k]:: l.drop (k+1):=List.drop_eq_getElem_cons h
theorem aKb (l:List UInt8) (k:Nat) (h:k < l.length):(ba l).extract k (k+1)=ba [l[k]]:=by apply ByteArray.ext;simp [ba];have:=drop_at l k h;rw [this];rfl
theorem aKc (a b:List UInt8):ba a++ba b=ba (a++b):=nO a b
theorem aDk (l:List UInt8) (S:ByteArray) (hs:S.size=l.length) (HG:M (∀k (h:k < l.length) (h2:k < S.size),S[k]=l[k])) (HE:M (∀k (h:k < l.length),S.extract k (k+1)=ba [l[k]]))
  (hl:l.length<=255) (h1:1<=l.length) (w:α):β J 199 #[.string S] w (fK w l ((Tk.cZ (l.drop 1)).map fun p=>(.str p.1,p.2))):=by
 generalize ho:(Tk.cZ (l.drop 1)).map (fun p=>((.str p.1,p.2):Tk.Tok × List UInt8))=o;have HO:M ((Tk.cZ (l.drop 1)).map (fun p=>((.str p.1,p.2):Tk.Tok × List UInt8))=o):=ho;clear ho;go_enter Tryz.func199,Tryz.ntmps199;go_wp2;go_loop [4,5] (fun t i=>∃(k:Nat) (acc:List UInt8),1<=k/\k<=l.length/\i=.int .i64 (k:Nat)/\t=.string (ba acc)/\acc.length<=k/\M (Tk.cZ (l.drop 1)=(Tk.cZ (l.drop k)).map fun p=>(acc++p.1,p.2))) (fun _ i=>l.length - (intOf i).toNat)
 case atStart=>exact⟨1,[],ε _,h1,rfl,rfl,κ _,by show _=_;cases Tk.cZ (l.drop 1) <;> rfl⟩
 case round=>
  obtain⟨k,acc,hk1,hk,rfl,rfl,hacc,HQ⟩:=hrel;have hsa:(ba acc).size=acc.length:=size_mk acc;by_cases hlt:k < l.length
  ·have hki:(k:Int) < l.length:=by omega
   have hks:k < S.size:=by rw [hs];exact hlt
   have hg:=HG.out k hlt hks;have hd:=drop_at l k hlt;rcases eY S[k] 34 with ⟨h3,h4⟩ | ⟨h3,h4⟩
   ·rw [hg] at h3;rw [h3] at hd;have h4':((S[k].toNat:Int) !=34)=U:=by show (!((S[k].toNat:Int)==34))=U;rw [show ((S[k].toNat:Int)==34)=O from h4];rfl
    by_cases h5:k+1 < l.length
    ·have h5i:(k:Int)+1 < l.length:=by omega
     have h5s:k+1 < S.size:=by rw [hs];exact h5
     have hg2:=HG.out (k+1) h5 h5s;have hd2:=drop_at l (k+1) h5;rcases eY S[k+1] 34 with ⟨h6,h7⟩ | ⟨h6,h7⟩
     ·rw [hg2] at h6;rw [h6] at hd2;have HN:M (Tk.cZ (l.drop 1)=(Tk.cZ (l.drop (k+2))).map fun p=>((acc++ [34])++p.1,p.2)):=by show _=_;rw [HQ.out,hd,hd2,aCY];cases Tk.cZ (l.drop (k+1+1)) <;> simp
      have hcc:ba acc++(⟨#[34]⟩:ByteArray)=ba (acc++ [34]):=aKc acc [34];have hno:¬9223372036854775807 < acc.length+1:=by omega
      have h7':((S[k+1].toNat:Int)==34)=O:=h7;have hl2:(acc++ [34]).length<=k+2:=by simp;omega
      clear h3 h4 h6 h7 hg hg2 hd hd2 HQ HO HG HE;obtain⟨C,hC⟩:∃C,C=ba (acc++ [34]):=⟨_,rfl⟩
      rw [<-hC] at hcc;have HC:M (C=ba (acc++ [34])):=hC;clear hC;generalize ba acc=B at *;go_wp2;go_round
      case rel=>exact⟨k+2,acc++ [34],by omega,by omega,by go_num,by rw [HC.out],hl2,HN⟩
      case measure=>simp [intOf];omega
     ·have HN:M (o=some (.str acc,l.drop (k+1))):=by show _=_;rw [hg2] at h6;rw [<-HO.out,HQ.out,hd,hd2,aBl (fun r e=>h6 (List.cons.inj e).1)];simp
      have h7':((S[k+1].toNat:Int)==34)=U:=h7;have HL:M (((l.length - (l.drop (k+1)).length:Nat):Int)=(k:Int)+1):=by show _=_;simp;omega
      clear h3 h4 h6 h7 hg hg2 hd hd2 HQ HO HG HE;obtain⟨B,hB⟩:∃B,B=ba acc:=⟨_,rfl⟩
      rw [<-hB] at hsa ⊢;have HB:M (B=ba acc):=hB;clear hB;go_wp2;refine I (v:=.tuple #[.agg (tcs 2 0 B noB noB 0 0 U U),.int .i64 ((k:Int)+1)]) (tK (tcs 2 0 B noB noB 0 0 U U) rfl rfl rfl rfl) rfl ?_;rw [HN.out];exact⟨aC (η _ _) _,by show _=_;rw [HL.out,HB.out];rfl⟩
    ·have h5i:¬(k:Int)+1 < l.length:=by omega
     have hnil:l.drop (k+1)=[]:=List.drop_eq_nil_of_le (by omega);have HN:M (o=some (.str acc,l.drop (k+1))):=by show _=_;rw [<-HO.out,HQ.out,hd,hnil,aBl (fun r e=>by cases e)];simp
     have HL:M (((l.length - (l.drop (k+1)).length:Nat):Int)=(k:Int)+1):=by show _=_;simp;omega
     clear h3 h4 hg hd HQ HO HG HE hnil;obtain⟨B,hB⟩:∃B,B=ba acc:=⟨_,rfl⟩
     rw [<-hB] at hsa ⊢;have HB:M (B=ba acc):=hB;clear hB;go_wp2;refine I (v:=.tuple #[.agg (tcs 2 0 B noB noB 0 0 U U),.int .i64 ((k:Int)+1)]) (tK (tcs 2 0 B noB noB 0 0 U U) rfl rfl rfl rfl) rfl ?_;rw [HN.out];exact⟨aC (η _ _) _,by show _=_;rw [HL.out,HB.out];rfl⟩
   ·have h4':((S[k].toNat:Int) !=34)=O:=by show (!((S[k].toNat:Int)==34))=O;rw [show ((S[k].toNat:Int)==34)=U from h4];rfl
    rw [hg] at h3;have hx:=HE.out k hlt;have aOE:(k:Int)+1<=l.length:=by omega
    have aQd:(k:Int)<=(k:Int)+1:=by omega
    have hq:=oZ [l[k]] (l.drop (k+1)) (fun x hx=>by
     simp only [List.mem_singleton] at hx;subst hx;simpa [nq] using h3)
    have HN:M (Tk.cZ (l.drop 1)=(Tk.cZ (l.drop (k+1))).map fun p=>((acc++ [l[k]])++p.1,p.2)):=by show _=_;rw [HQ.out,hd,show l[k]:: l.drop (k+1)=[l[k]]++l.drop (k+1) from rfl,hq];cases Tk.cZ (l.drop (k+1)) <;> simp
    have hno:¬9223372036854775807 < acc.length+1:=by omega
    have hl2:(acc++ [l[k]]).length<=k+1:=by simp;omega
    obtain⟨C,hC⟩:∃C,C=ba (acc++ [l[k]]):=⟨_,rfl⟩
    have hcc:ba acc++ba [l[k]]=C:=by rw [hC];exact aKc acc [l[k]]
    have HC:M (C=ba (acc++ [l[k]])):=hC;have hD:(ba [l[k]]).size=1:=size_mk _;clear h3 h4 hg hd HQ HO HG HE hC hq;generalize ba [l[k]]=D at *;obtain⟨B,hB⟩:∃B,B=ba acc:=⟨_,rfl⟩
    rw [<-hB] at hsa hcc ⊢;clear hB;go_wp2;go_round
    case rel=>exact⟨k+1,acc++ [l[k]],by omega,by omega,by go_num,by rw [HC.out],hl2,HN⟩
    case measure=>simp [intOf];omega
  ·have hki:¬(k:Int) < l.length:=by omega
   have HN:M (o=none):=by show _=_;rw [<-HO.out,HQ.out,List.drop_eq_nil_of_le (by omega)];rfl
   clear HQ HO HG HE;go_wp2;refine I (v:=.tuple #[.agg tk0,.int .i64 0]) (tK tk0 rfl rfl rfl rfl) rfl ?_;rw [HN.out];exact⟨aC (η _ _) _,rfl⟩
theorem aEH (r:List UInt8) (hl:(34:: r).length<=255) (w:α):β J 199 #[.string (ba (34:: r))] w (fK w (34:: r) ((Tk.cZ r).map fun p=>(.str p.1,p.2))):=
 aDk (34:: r) (ba (34:: r)) (size_mk _) (fun k h h2=>mW _ k h h2) (fun k h=>aKb _ k h) hl (by simp) w
section
variable {w:α} {n p q1 n1 q2 n2:Nat} {S A1 A2 D Wd K B H:ByteArray} {r c:Int} {fr fc:Bool}
theorem aBx (hs:S.size=n)
  (hn:n<=255)
  (h0:0 < S.size)
  (h91:((S[0].toNat:Int)==91)=U)
  (hA1:S.extract 0 n=S)
  (RN1:∀u,CW 240 #[.string S] u (.int .i64 (n1:Nat)))
  (hle:n1<=n)
  (hlt:n1 < S.size)
  (h33:((S[n1].toNat:Int)==33)=O)
  (hA2:S.extract (n1+1) n=A2)
  (RN2:∀u,CW 240 #[.string A2] u (.int .i64 (q2:Nat)))
  (hn2:(n1:Int)+(1+(q2:Int))=(n2:Nat))
  (aNI:n2<=n)
  (hD:S.extract 0 n2=D)
  (PR:∀u,CR 241 #[.string D] u (.tuple #[dL B H r c fr fc,.bool U])):
  CR 200 #[.string S] w (.tuple #[.agg (tk0),.int .i64 0]):=by
 have HZ0:M (RZ w (w.alloc tkR)):=RZ.begin w;have i0:(n1:Int)<=n:=by omega
 have i1:(n1:Int) < n:=by omega
 have i2:(n1:Int)+1<=n:=by omega
 have i3:(n2:Int)<=n:=by omega
 go_enter Tryz.func200,Tryz.ntmps200;go_wp2_with (first|(go_at_call 240;refine mw (RN1 _) ?_;clear RN1)|(go_at_call 240;refine mw (RN2 _) ?_;clear RN2)|(go_at_call 241;refine (PR _).mono ?_;rintro e w5 ⟨rfl,hs5⟩;have HZ6:M (RZ w (w5.alloc (dV B H r c fr fc))):=(HZ0.out.below hs5).alloc _;have RR:=HZ6.out.put 0 0 noB noB noB 0 0 U U;clear hs5 HZ0)|(refine aA rfl 188 _ _ rfl _ _ _ rfl rfl RR.out ?_))
 exact I (v:=.tuple #[.agg (tk0),.int .i64 0]) (HZ6.out.ans (tk0) rfl rfl rfl rfl) rfl ⟨rfl,HZ6.out.fin _⟩
theorem zR (hs:S.size=n)
  (hn:n<=255)
  (h0:0 < S.size)
  (h91:((S[0].toNat:Int)==91)=U)
  (hA1:S.extract 0 n=S)
  (RN1:∀u,CW 240 #[.string S] u (.int .i64 (n1:Nat)))
  (hle:n1<=n)
  (hlt:n1 < S.size)
  (h33:((S[n1].toNat:Int)==33)=O)
  (hA2:S.extract (n1+1) n=A2)
  (RN2:∀u,CW 240 #[.string A2] u (.int .i64 (q2:Nat)))
  (hn2:(n1:Int)+(1+(q2:Int))=(n2:Nat))
  (aNI:n2<=n)
  (hD:S.extract 0 n2=D)
  (PR:∀u,CR 241 #[.string D] u (.tuple #[dL B H r c fr fc,.bool O])):
  CR 200 #[.string S] w (.tuple #[.agg (tcs 3 0 noB B H r c fr fc),.int .i64 (n2:Int)]):=by
 have HZ0:M (RZ w (w.alloc tkR)):=RZ.begin w;have i0:(n1:Int)<=n:=by omega
 have i1:(n1:Int) < n:=by omega
 have i2:(n1:Int)+1<=n:=by omega
 have i3:(n2:Int)<=n:=by omega
 go_enter Tryz.func200,Tryz.ntmps200;go_wp2_with (first|(go_at_call 240;refine mw (RN1 _) ?_;clear RN1)|(go_at_call 240;refine mw (RN2 _) ?_;clear RN2)|(go_at_call 241;refine (PR _).mono ?_;rintro e w5 ⟨rfl,hs5⟩;have HZ6:M (RZ w (w5.alloc (dV B H r c fr fc))):=(HZ0.out.below hs5).alloc _;have RR:=HZ6.out.put 3 0 noB B H r c fr fc;clear hs5 HZ0)|(refine aA rfl 188 _ _ rfl _ _ _ rfl rfl RR.out ?_))
 exact I (v:=.tuple #[.agg (tcs 3 0 noB B H r c fr fc),.int .i64 (n2:Int)]) (HZ6.out.ans (tcs 3 0 noB B H r c fr fc) rfl rfl rfl rfl) rfl ⟨rfl,HZ6.out.fin _⟩
theorem aBy (hs:S.size=n)
  (hn:n<=255)
  (h0:0 < S.size)
  (h91:((S[0].toNat:Int)==91)=U)
  (hA1:S.extract 0 n=S)
  (RN1:∀u,CW 240 #[.string S] u (.int .i64 (n1:Nat)))
  (hle:n1<=n)
  (hlt:¬n1 < n)
  (hW:S.extract 0 n1=Wd)
  (CE:∀u,CR 242 #[.string Wd] u (.tuple #[dL B H r c fr fc,.bool O])):
  CR 200 #[.string S] w (.tuple #[.agg (tcs 3 0 noB B H r c fr fc),.int .i64 (n1:Int)]):=by
 have HZ0:M (RZ w (w.alloc tkR)):=RZ.begin w;have i0:(n1:Int)<=n:=by omega
 have i1:¬(n1:Int) < n:=by omega
 go_enter Tryz.func200,Tryz.ntmps200;go_wp2_with (first|(go_at_call 240;refine mw (RN1 _) ?_;clear RN1)|(go_at_call 242;refine (CE _).mono ?_;rintro e w5 ⟨rfl,hs5⟩;have HZ6:M (RZ w (w5.alloc (dV B H r c fr fc))):=(HZ0.out.below hs5).alloc _;have RR:=HZ6.out.put 3 0 noB B H r c fr fc;clear hs5 HZ0)|(refine aA rfl 188 _ _ rfl _ _ _ rfl rfl RR.out ?_))
 exact I (v:=.tuple #[.agg (tcs 3 0 noB B H r c fr fc),.int .i64 (n1:Int)]) (HZ6.out.ans (tcs 3 0 noB B H r c fr fc) rfl rfl rfl rfl) rfl ⟨rfl,HZ6.out.fin _⟩
theorem zS (hs:S.size=n)
  (hn:n<=255)
  (h0:0 < S.size)
  (h91:((S[0].toNat:Int)==91)=U)
  (hA1:S.extract 0 n=S)
  (RN1:∀u,CW 240 #[.string S] u (.int .i64 (n1:Nat)))
  (hle:n1<=n)
  (hlt:n1 < S.size)
  (h33:((S[n1].toNat:Int)==33)=U)
  (hW:S.extract 0 n1=Wd)
  (CE:∀u,CR 242 #[.string Wd] u (.tuple #[dL B H r c fr fc,.bool O])):
  CR 200 #[.string S] w (.tuple #[.agg (tcs 3 0 noB B H r c fr fc),.int .i64 (n1:Int)]):=by
 have HZ0:M (RZ w (w.alloc tkR)):=RZ.begin w;have i0:(n1:Int)<=n:=by omega
 have i1:(n1:Int) < n:=by omega
 go_enter Tryz.func200,Tryz.ntmps200;go_wp2_with (first|(go_at_call 240;refine mw (RN1 _) ?_;clear RN1)|(go_at_call 242;refine (CE _).mono ?_;rintro e w5 ⟨rfl,hs5⟩;have HZ6:M (RZ w (w5.alloc (dV B H r c fr fc))):=(HZ0.out.below hs5).alloc _;have RR:=HZ6.out.put 3 0 noB B H r c fr fc;clear hs5 HZ0)|(refine aA rfl 188 _ _ rfl _ _ _ rfl rfl RR.out ?_))
 exact I (v:=.tuple #[.agg (tcs 3 0 noB B H r c fr fc),.int .i64 (n1:Int)]) (HZ6.out.ans (tcs 3 0 noB B H r c fr fc) rfl rfl rfl rfl) rfl ⟨rfl,HZ6.out.fin _⟩
end
section
variable {w:α} {n p q1 n1 q2 n2:Nat} {S A1 A2 D Wd K B H:ByteArray} {r c:Int} {fr fc:Bool}
theorem vY (hs:S.size=n)
  (hn:n<=255)
  (h0:0 < S.size)
  (h91:((S[0].toNat:Int)==91)=U)
  (hA1:S.extract 0 n=S)
  (RN1:∀u,CW 240 #[.string S] u (.int .i64 (n1:Nat)))
  (hle:n1<=n)
  (hlt:¬n1 < n)
  (hW:S.extract 0 n1=Wd)
  (CE:∀u,CR 242 #[.string Wd] u (.tuple #[dL B H r c fr fc,.bool U]))
  (WD:∀u,CR 243 #[.string Wd,.bool U] u (.bool U)):
  CR 200 #[.string S] w (.tuple #[.agg (tk0),.int .i64 0]):=by
 have HZ0:M (RZ w (w.alloc tkR)):=RZ.begin w;have i0:(n1:Int)<=n:=by omega
 have i1:¬(n1:Int) < n:=by omega
 go_enter Tryz.func200,Tryz.ntmps200;go_wp2_with (first|(go_at_call 240;refine mw (RN1 _) ?_;clear RN1)|(go_at_call 242;refine (CE _).mono ?_;rintro e w5 ⟨rfl,hs5⟩;have HZ6:M (RZ w (w5.alloc (dV B H r c fr fc))):=(HZ0.out.below hs5).alloc _;clear hs5 HZ0)|(go_at_call 243;refine (WD _).mono ?_;rintro e w7 ⟨rfl,hs7⟩;have HZ7:M (RZ w w7):=HZ6.out.below hs7;have RR:=HZ7.out.put 0 0 noB noB noB 0 0 U U;clear hs7 HZ6)|(refine aA rfl 188 _ _ rfl _ _ _ rfl rfl RR.out ?_))
 exact I (v:=.tuple #[.agg (tk0),.int .i64 0]) (HZ7.out.ans (tk0) rfl rfl rfl rfl) rfl ⟨rfl,HZ7.out.fin _⟩
theorem vB (hs:S.size=n)
  (hn:n<=255)
  (h0:0 < S.size)
  (h91:((S[0].toNat:Int)==91)=U)
  (hA1:S.extract 0 n=S)
  (RN1:∀u,CW 240 #[.string S] u (.int .i64 (n1:Nat)))
  (hle:n1<=n)
  (hlt:n1 < S.size)
  (h33:((S[n1].toNat:Int)==33)=U)
  (hW:S.extract 0 n1=Wd)
  (CE:∀u,CR 242 #[.string Wd] u (.tuple #[dL B H r c fr fc,.bool U]))
  (WD:∀u,CR 243 #[.string Wd,.bool U] u (.bool U)):
  CR 200 #[.string S] w (.tuple #[.agg (tk0),.int .i64 0]):=by
 have HZ0:M (RZ w (w.alloc tkR)):=RZ.begin w;have i0:(n1:Int)<=n:=by omega
 have i1:(n1:Int) < n:=by omega
 go_enter Tryz.func200,Tryz.ntmps200;go_wp2_with (first|(go_at_call 240;refine mw (RN1 _) ?_;clear RN1)|(go_at_call 242;refine (CE _).mono ?_;rintro e w5 ⟨rfl,hs5⟩;have HZ6:M (RZ w (w5.alloc (dV B H r c fr fc))):=(HZ0.out.below hs5).alloc _;clear hs5 HZ0)|(go_at_call 243;refine (WD _).mono ?_;rintro e w7 ⟨rfl,hs7⟩;have HZ7:M (RZ w w7):=HZ6.out.below hs7;have RR:=HZ7.out.put 0 0 noB noB noB 0 0 U U;clear hs7 HZ6)|(refine aA rfl 188 _ _ rfl _ _ _ rfl rfl RR.out ?_))
 exact I (v:=.tuple #[.agg (tk0),.int .i64 0]) (HZ7.out.ans (tk0) rfl rfl rfl rfl) rfl ⟨rfl,HZ7.out.fin _⟩
theorem vC (hs:S.size=n)
  (hn:n<=255)
  (h0:0 < S.size)
  (h91:((S[0].toNat:Int)==91)=U)
  (hA1:S.extract 0 n=S)
  (RN1:∀u,CW 240 #[.string S] u (.int .i64 (n1:Nat)))
  (hle:n1<=n)
  (hlt:¬n1 < n)
  (hW:S.extract 0 n1=Wd)
  (CE:∀u,CR 242 #[.string Wd] u (.tuple #[dL B H r c fr fc,.bool U]))
  (WD:∀u,CR 243 #[.string Wd,.bool U] u (.bool O)):
  CR 200 #[.string S] w (.tuple #[.agg (tcs 4 0 Wd noB noB 0 0 U U),.int .i64 (n1:Int)]):=by
 have HZ0:M (RZ w (w.alloc tkR)):=RZ.begin w;have i0:(n1:Int)<=n:=by omega
 have i1:¬(n1:Int) < n:=by omega
 go_enter Tryz.func200,Tryz.ntmps200;go_wp2_with (first|(go_at_call 240;refine mw (RN1 _) ?_;clear RN1)|(go_at_call 242;refine (CE _).mono ?_;rintro e w5 ⟨rfl,hs5⟩;have HZ6:M (RZ w (w5.alloc (dV B H r c fr fc))):=(HZ0.out.below hs5).alloc _;clear hs5 HZ0)|(go_at_call 243;refine (WD _).mono ?_;rintro e w7 ⟨rfl,hs7⟩;have HZ7:M (RZ w w7):=HZ6.out.below hs7;have RR:=HZ7.out.put 4 0 Wd noB noB 0 0 U U;clear hs7 HZ6)|(refine aA rfl 188 _ _ rfl _ _ _ rfl rfl RR.out ?_))
 exact I (v:=.tuple #[.agg (tcs 4 0 Wd noB noB 0 0 U U),.int .i64 (n1:Int)]) (HZ7.out.ans (tcs 4 0 Wd noB noB 0 0 U U) rfl rfl rfl rfl) rfl ⟨rfl,HZ7.out.fin _⟩
theorem tL (hs:S.size=n)
  (hn:n<=255)
  (h0:0 < S.size)
  (h91:((S[0].toNat:Int)==91)=U)
  (hA1:S.extract 0 n=S)
  (RN1:∀u,CW 240 #[.string S] u (.int .i64 (n1:Nat)))
  (hle:n1<=n)
  (hlt:n1 < S.size)
  (h33:((S[n1].toNat:Int)==33)=U)
  (hW:S.extract 0 n1=Wd)
  (CE:∀u,CR 242 #[.string Wd] u (.tuple #[dL B H r c fr fc,.bool U]))
  (WD:∀u,CR 243 #[.string Wd,.bool U] u (.bool O)):
  CR 200 #[.string S] w (.tuple #[.agg (tcs 4 0 Wd noB noB 0 0 U U),.int .i64 (n1:Int)]):=by
 have HZ0:M (RZ w (w.alloc tkR)):=RZ.begin w;have i0:(n1:Int)<=n:=by omega
 have i1:(n1:Int) < n:=by omega
 go_enter Tryz.func200,Tryz.ntmps200;go_wp2_with (first|(go_at_call 240;refine mw (RN1 _) ?_;clear RN1)|(go_at_call 242;refine (CE _).mono ?_;rintro e w5 ⟨rfl,hs5⟩;have HZ6:M (RZ w (w5.alloc (dV B H r c fr fc))):=(HZ0.out.below hs5).alloc _;clear hs5 HZ0)|(go_at_call 243;refine (WD _).mono ?_;rintro e w7 ⟨rfl,hs7⟩;have HZ7:M (RZ w w7):=HZ6.out.below hs7;have RR:=HZ7.out.put 4 0 Wd noB noB 0 0 U U;clear hs7 HZ6)|(refine aA rfl 188 _ _ rfl _ _ _ rfl rfl RR.out ?_))
 exact I (v:=.tuple #[.agg (tcs 4 0 Wd noB noB 0 0 U U),.int .i64 (n1:Int)]) (HZ7.out.ans (tcs 4 0 Wd noB noB 0 0 U U) rfl rfl rfl rfl) rfl ⟨rfl,HZ7.out.fin _⟩
end
section
variable {w:α} {n p q1 n1 q2 n2:Nat} {S A1 A2 D Wd K B H:ByteArray} {r c:Int} {fr fc:Bool}
theorem aBz (hs:S.size=n)
  (hn:n<=255)
  (h0:0 < S.size)
  (h91:((S[0].toNat:Int)==91)=O)
  {k0:Nat}
  (k1:1<=k0)
  (k2:k0 < S.size)
  (hk:M (∀k,1<=k->k < k0->∀h:k < S.size,((S[k].toNat:Int) !=93)=O))
  (hk0:((S[k0].toNat:Int) !=93)=U)
  (hK:S.extract 1 k0=K)
  (hKe:(K.toList==[])=U)
  (RG:∀u,CR 48 #[.string K] u (.bool O))
  (hp:(k0:Int)+1=(p:Nat))
  (hpn:p<=n)
  (hA1:S.extract p n=A1)
  (RN1:∀u,CW 240 #[.string A1] u (.int .i64 (q1:Nat)))
  (hn1:(p:Int)+(q1:Int)=(n1:Nat))
  (hle:n1<=n)
  (hlt:n1 < S.size)
  (h33:((S[n1].toNat:Int)==33)=O)
  (hA2:S.extract (n1+1) n=A2)
  (RN2:∀u,CW 240 #[.string A2] u (.int .i64 (q2:Nat)))
  (hn2:(n1:Int)+(1+(q2:Int))=(n2:Nat))
  (aNI:n2<=n)
  (hD:S.extract 0 n2=D)
  (PR:∀u,CR 241 #[.string D] u (.tuple #[dL B H r c fr fc,.bool U])):
  CR 200 #[.string S] w (.tuple #[.agg (tk0),.int .i64 0]):=by
 have HZ0:M (RZ w (w.alloc tkR)):=RZ.begin w;have i0:(n1:Int)<=n:=by omega
 have i1:(n1:Int) < n:=by omega
 have i2:(n1:Int)+1<=n:=by omega
 have i3:(n2:Int)<=n:=by omega
 have i4:(p:Int)<=n:=by omega
 have j1:(k0:Int) < n:=by omega
 have j2:((k0:Int)==(n:Int))=U:=by simp;omega
 have j3:(1:Int)<=k0:=by omega
 have j4:(k0:Int)<=n:=by omega
 go_enter Tryz.func200,Tryz.ntmps200;go_wp2;go_loop [6] (fun i=>∃k:Nat,1<=k/\k<=k0/\i=.int .i64 (k:Nat)) (fun i=>k0 - (intOf i).toNat)
 case atStart=>exact⟨1,ε _,k1,rfl⟩
 case round=>
  obtain⟨k,hk1,hk2,rfl⟩:=hrel;by_cases hlk:k < k0
  ·have g1:(k:Int) < n:=by omega
   have g2:k < S.size:=by omega
   have g3:=hk.out k hk1 hlk g2;clear hk RN1 RG;go_wp2;go_round
   case rel=>exact⟨k+1,by omega,by omega,by go_num⟩
   case measure=>simp [intOf];omega
  ·obtain rfl:k=k0:=by omega
   clear hk hlk;go_wp2_with (first|(go_at_call 48;refine (RG _).mono ?_;rintro e w4 ⟨rfl,hs4⟩;have HZ4:M (RZ w w4):=HZ0.out.below hs4;clear hs4 HZ0 RG)|(go_at_call 240;refine mw (RN1 _) ?_;clear RN1)|(go_at_call 240;refine mw (RN2 _) ?_;clear RN2)|(go_at_call 241;refine (PR _).mono ?_;rintro e w5 ⟨rfl,hs5⟩;have HZ6:M (RZ w (w5.alloc (dV B H r c fr fc))):=(HZ4.out.below hs5).alloc _;have RR:=HZ6.out.put 0 0 noB noB noB 0 0 U U;clear hs5 HZ4)|(refine aA rfl 188 _ _ rfl _ _ _ rfl rfl RR.out ?_))
   exact I (v:=.tuple #[.agg (tk0),.int .i64 0]) (HZ6.out.ans (tk0) rfl rfl rfl rfl) rfl ⟨rfl,HZ6.out.fin _⟩
theorem zU (hs:S.size=n)
  (hn:n<=255)
  (h0:0 < S.size)
  (h91:((S[0].toNat:Int)==91)=O)
  {k0:Nat}
  (k1:1<=k0)
  (k2:k0 < S.size)
  (hk:M (∀k,1<=k->k < k0->∀h:k < S.size,((S[k].toNat:Int) !=93)=O))
  (hk0:((S[k0].toNat:Int) !=93)=U)
  (hK:S.extract 1 k0=K)
  (hKe:(K.toList==[])=U)
  (RG:∀u,CR 48 #[.string K] u (.bool O))
  (hp:(k0:Int)+1=(p:Nat))
  (hpn:p<=n)
  (hA1:S.extract p n=A1)
  (RN1:∀u,CW 240 #[.string A1] u (.int .i64 (q1:Nat)))
  (hn1:(p:Int)+(q1:Int)=(n1:Nat))
  (hle:n1<=n)
  (hlt:n1 < S.size)
  (h33:((S[n1].toNat:Int)==33)=O)
  (hA2:S.extract (n1+1) n=A2)
  (RN2:∀u,CW 240 #[.string A2] u (.int .i64 (q2:Nat)))
  (hn2:(n1:Int)+(1+(q2:Int))=(n2:Nat))
  (aNI:n2<=n)
  (hD:S.extract 0 n2=D)
  (PR:∀u,CR 241 #[.string D] u (.tuple #[dL B H r c fr fc,.bool O])):
  CR 200 #[.string S] w (.tuple #[.agg (tcs 3 0 noB B H r c fr fc),.int .i64 (n2:Int)]):=by
 have HZ0:M (RZ w (w.alloc tkR)):=RZ.begin w;have i0:(n1:Int)<=n:=by omega
 have i1:(n1:Int) < n:=by omega
 have i2:(n1:Int)+1<=n:=by omega
 have i3:(n2:Int)<=n:=by omega
 have i4:(p:Int)<=n:=by omega
 have j1:(k0:Int) < n:=by omega
 have j2:((k0:Int)==(n:Int))=U:=by simp;omega
 have j3:(1:Int)<=k0:=by omega
 have j4:(k0:Int)<=n:=by omega
 go_enter Tryz.func200,Tryz.ntmps200;go_wp2;go_loop [6] (fun i=>∃k:Nat,1<=k/\k<=k0/\i=.int .i64 (k:Nat)) (fun i=>k0 - (intOf i).toNat)
 case atStart=>exact⟨1,ε _,k1,rfl⟩
 case round=>
  obtain⟨k,hk1,hk2,rfl⟩:=hrel;by_cases hlk:k < k0
  ·have g1:(k:Int) < n:=by omega
   have g2:k < S.size:=by omega
   have g3:=hk.out k hk1 hlk g2;clear hk RN1 RG;go_wp2;go_round
   case rel=>exact⟨k+1,by omega,by omega,by go_num⟩
   case measure=>simp [intOf];omega
  ·obtain rfl:k=k0:=by omega
   clear hk hlk;go_wp2_with (first|(go_at_call 48;refine (RG _).mono ?_;rintro e w4 ⟨rfl,hs4⟩;have HZ4:M (RZ w w4):=HZ0.out.below hs4;clear hs4 HZ0 RG)|(go_at_call 240;refine mw (RN1 _) ?_;clear RN1)|(go_at_call 240;refine mw (RN2 _) ?_;clear RN2)|(go_at_call 241;refine (PR _).mono ?_;rintro e w5 ⟨rfl,hs5⟩;have HZ6:M (RZ w (w5.alloc (dV B H r c fr fc))):=(HZ4.out.below hs5).alloc _;have RR:=HZ6.out.put 3 0 noB B H r c fr fc;clear hs5 HZ4)|(refine aA rfl 188 _ _ rfl _ _ _ rfl rfl RR.out ?_))
   exact I (v:=.tuple #[.agg (tcs 3 0 noB B H r c fr fc),.int .i64 (n2:Int)]) (HZ6.out.ans (tcs 3 0 noB B H r c fr fc) rfl rfl rfl rfl) rfl ⟨rfl,HZ6.out.fin _⟩
end
section
variable {w:α} {n p q1 n1 q2 n2:Nat} {S A1 A2 D Wd K B H:ByteArray} {r c:Int} {fr fc:Bool}
theorem vZ (hs:S.size=n)
  (hn:n<=255)
  (h0:0 < S.size)
  (h91:((S[0].toNat:Int)==91)=O)
  {k0:Nat}
  (k1:1<=k0)
  (k2:k0 < S.size)
  (hk:M (∀k,1<=k->k < k0->∀h:k < S.size,((S[k].toNat:Int) !=93)=O))
  (hk0:((S[k0].toNat:Int) !=93)=U)
  (hK:S.extract 1 k0=K)
  (hKe:(K.toList==[])=U)
  (RG:∀u,CR 48 #[.string K] u (.bool O))
  (hp:(k0:Int)+1=(p:Nat))
  (hpn:p<=n)
  (hA1:S.extract p n=A1)
  (RN1:∀u,CW 240 #[.string A1] u (.int .i64 (q1:Nat)))
  (hn1:(p:Int)+(q1:Int)=(n1:Nat))
  (hle:n1<=n)
  (hlt:¬n1 < n)
  (aNJ:p<=n1)
  (hW:S.extract p n1=Wd)
  {ok:Bool}
  (CE:∀u,CR 242 #[.string Wd] u (.tuple #[dL B H r c fr fc,.bool ok]))
  (WD:∀u,CR 243 #[.string Wd,.bool O] u (.bool U)):
  CR 200 #[.string S] w (.tuple #[.agg (tk0),.int .i64 0]):=by
 have HZ0:M (RZ w (w.alloc tkR)):=RZ.begin w;have i0:(n1:Int)<=n:=by omega
 have i1:¬(n1:Int) < n:=by omega
 have i4:(p:Int)<=n:=by omega
 have i5:(p:Int)<=n1:=by omega
 have j1:(k0:Int) < n:=by omega
 have j2:((k0:Int)==(n:Int))=U:=by simp;omega
 have j3:(1:Int)<=k0:=by omega
 have j4:(k0:Int)<=n:=by omega
 go_enter Tryz.func200,Tryz.ntmps200;go_wp2;go_loop [6] (fun i=>∃k:Nat,1<=k/\k<=k0/\i=.int .i64 (k:Nat)) (fun i=>k0 - (intOf i).toNat)
 case atStart=>exact⟨1,ε _,k1,rfl⟩
 case round=>
  obtain⟨k,hk1,hk2,rfl⟩:=hrel;by_cases hlk:k < k0
  ·have g1:(k:Int) < n:=by omega
   have g2:k < S.size:=by omega
   have g3:=hk.out k hk1 hlk g2;clear hk RN1 RG;go_wp2;go_round
   case rel=>exact⟨k+1,by omega,by omega,by go_num⟩
   case measure=>simp [intOf];omega
  ·obtain rfl:k=k0:=by omega
   clear hk hlk;cases ok
   all_goals
    go_wp2_with (first|(go_at_call 48;refine (RG _).mono ?_;rintro e w4 ⟨rfl,hs4⟩;have HZ4:M (RZ w w4):=HZ0.out.below hs4;clear hs4 HZ0 RG)|(go_at_call 240;refine mw (RN1 _) ?_;clear RN1)|(go_at_call 242;refine (CE _).mono ?_;rintro e w5 ⟨rfl,hs5⟩;have HZ6:M (RZ w (w5.alloc (dV B H r c fr fc))):=(HZ4.out.below hs5).alloc _;clear hs5 HZ4)|(go_at_call 243;refine (WD _).mono ?_;rintro e w7 ⟨rfl,hs7⟩;have HZ7:M (RZ w w7):=HZ6.out.below hs7;have RR:=HZ7.out.put 0 0 noB noB noB 0 0 U U;clear hs7 HZ6)|(refine aA rfl 188 _ _ rfl _ _ _ rfl rfl RR.out ?_))
    exact I (v:=.tuple #[.agg (tk0),.int .i64 0]) (HZ7.out.ans (tk0) rfl rfl rfl rfl) rfl ⟨rfl,HZ7.out.fin _⟩
theorem vD (hs:S.size=n)
  (hn:n<=255)
  (h0:0 < S.size)
  (h91:((S[0].toNat:Int)==91)=O)
  {k0:Nat}
  (k1:1<=k0)
  (k2:k0 < S.size)
  (hk:M (∀k,1<=k->k < k0->∀h:k < S.size,((S[k].toNat:Int) !=93)=O))
  (hk0:((S[k0].toNat:Int) !=93)=U)
  (hK:S.extract 1 k0=K)
  (hKe:(K.toList==[])=U)
  (RG:∀u,CR 48 #[.string K] u (.bool O))
  (hp:(k0:Int)+1=(p:Nat))
  (hpn:p<=n)
  (hA1:S.extract p n=A1)
  (RN1:∀u,CW 240 #[.string A1] u (.int .i64 (q1:Nat)))
  (hn1:(p:Int)+(q1:Int)=(n1:Nat))
  (hle:n1<=n)
  (hlt:n1 < S.size)
  (h33:((S[n1].toNat:Int)==33)=U)
  (aNJ:p<=n1)
  (hW:S.extract p n1=Wd)
  {ok:Bool}
  (CE:∀u,CR 242 #[.string Wd] u (.tuple #[dL B H r c fr fc,.bool ok]))
  (WD:∀u,CR 243 #[.string Wd,.bool O] u (.bool U)):
  CR 200 #[.string S] w (.tuple #[.agg (tk0),.int .i64 0]):=by
 have HZ0:M (RZ w (w.alloc tkR)):=RZ.begin w;have i0:(n1:Int)<=n:=by omega
 have i1:(n1:Int) < n:=by omega
 have i4:(p:Int)<=n:=by omega
 have i5:(p:Int)<=n1:=by omega
 have j1:(k0:Int) < n:=by omega
 have j2:((k0:Int)==(n:Int))=U:=by simp;omega
 have j3:(1:Int)<=k0:=by omega
 have j4:(k0:Int)<=n:=by omega
 go_enter Tryz.func200,Tryz.ntmps200;go_wp2;go_loop [6] (fun i=>∃k:Nat,1<=k/\k<=k0/\i=.int .i64 (k:Nat)) (fun i=>k0 - (intOf i).toNat)
 case atStart=>exact⟨1,ε _,k1,rfl⟩
 case round=>
  obtain⟨k,hk1,hk2,rfl⟩:=hrel;by_cases hlk:k < k0
  ·have g1:(k:Int) < n:=by omega
   have g2:k < S.size:=by omega
   have g3:=hk.out k hk1 hlk g2;clear hk RN1 RG;go_wp2;go_round
   case rel=>exact⟨k+1,by omega,by omega,by go_num⟩
   case measure=>simp [intOf];omega
  ·obtain rfl:k=k0:=by omega
   clear hk hlk;cases ok
   all_goals
    go_wp2_with (first|(go_at_call 48;refine (RG _).mono ?_;rintro e w4 ⟨rfl,hs4⟩;have HZ4:M (RZ w w4):=HZ0.out.below hs4;clear hs4 HZ0 RG)|(go_at_call 240;refine mw (RN1 _) ?_;clear RN1)|(go_at_call 242;refine (CE _).mono ?_;rintro e w5 ⟨rfl,hs5⟩;have HZ6:M (RZ w (w5.alloc (dV B H r c fr fc))):=(HZ4.out.below hs5).alloc _;clear hs5 HZ4)|(go_at_call 243;refine (WD _).mono ?_;rintro e w7 ⟨rfl,hs7⟩;have HZ7:M (RZ w w7):=HZ6.out.below hs7;have RR:=HZ7.out.put 0 0 noB noB noB 0 0 U U;clear hs7 HZ6)|(refine aA rfl 188 _ _ rfl _ _ _ rfl rfl RR.out ?_))
    exact I (v:=.tuple #[.agg (tk0),.int .i64 0]) (HZ7.out.ans (tk0) rfl rfl rfl rfl) rfl ⟨rfl,HZ7.out.fin _⟩
end
section
variable {w:α} {n p q1 n1 q2 n2:Nat} {S A1 A2 D Wd K B H:ByteArray} {r c:Int} {fr fc:Bool}
theorem vE (hs:S.size=n)
  (hn:n<=255)
  (h0:0 < S.size)
  (h91:((S[0].toNat:Int)==91)=O)
  {k0:Nat}
  (k1:1<=k0)
  (k2:k0 < S.size)
  (hk:M (∀k,1<=k->k < k0->∀h:k < S.size,((S[k].toNat:Int) !=93)=O))
  (hk0:((S[k0].toNat:Int) !=93)=U)
  (hK:S.extract 1 k0=K)
  (hKe:(K.toList==[])=U)
  (RG:∀u,CR 48 #[.string K] u (.bool O))
  (hp:(k0:Int)+1=(p:Nat))
  (hpn:p<=n)
  (hA1:S.extract p n=A1)
  (RN1:∀u,CW 240 #[.string A1] u (.int .i64 (q1:Nat)))
  (hn1:(p:Int)+(q1:Int)=(n1:Nat))
  (hle:n1<=n)
  (hlt:¬n1 < n)
  (aNJ:p<=n1)
  (hW:S.extract p n1=Wd)
  {ok:Bool}
  (CE:∀u,CR 242 #[.string Wd] u (.tuple #[dL B H r c fr fc,.bool ok]))
  (WD:∀u,CR 243 #[.string Wd,.bool O] u (.bool O)):
  CR 200 #[.string S] w (.tuple #[.agg (tcs 4 0 Wd K noB 0 0 U U),.int .i64 (n1:Int)]):=by
 have HZ0:M (RZ w (w.alloc tkR)):=RZ.begin w;have i0:(n1:Int)<=n:=by omega
 have i1:¬(n1:Int) < n:=by omega
 have i4:(p:Int)<=n:=by omega
 have i5:(p:Int)<=n1:=by omega
 have j1:(k0:Int) < n:=by omega
 have j2:((k0:Int)==(n:Int))=U:=by simp;omega
 have j3:(1:Int)<=k0:=by omega
 have j4:(k0:Int)<=n:=by omega
 go_enter Tryz.func200,Tryz.ntmps200;go_wp2;go_loop [6] (fun i=>∃k:Nat,1<=k/\k<=k0/\i=.int .i64 (k:Nat)) (fun i=>k0 - (intOf i).toNat)
 case atStart=>exact⟨1,ε _,k1,rfl⟩
 case round=>
  obtain⟨k,hk1,hk2,rfl⟩:=hrel;by_cases hlk:k < k0
  ·have g1:(k:Int) < n:=by omega
   have g2:k < S.size:=by omega
   have g3:=hk.out k hk1 hlk g2;clear hk RN1 RG;go_wp2;go_round
   case rel=>exact⟨k+1,by omega,by omega,by go_num⟩
   case measure=>simp [intOf];omega
  ·obtain rfl:k=k0:=by omega
   clear hk hlk;cases ok
   all_goals
    go_wp2_with (first|(go_at_call 48;refine (RG _).mono ?_;rintro e w4 ⟨rfl,hs4⟩;have HZ4:M (RZ w w4):=HZ0.out.below hs4;clear hs4 HZ0 RG)|(go_at_call 240;refine mw (RN1 _) ?_;clear RN1)|(go_at_call 242;refine (CE _).mono ?_;rintro e w5 ⟨rfl,hs5⟩;have HZ6:M (RZ w (w5.alloc (dV B H r c fr fc))):=(HZ4.out.below hs5).alloc _;clear hs5 HZ4)|(go_at_call 243;refine (WD _).mono ?_;rintro e w7 ⟨rfl,hs7⟩;have HZ7:M (RZ w w7):=HZ6.out.below hs7;have RR:=HZ7.out.put 4 0 Wd K noB 0 0 U U;clear hs7 HZ6)|(refine aA rfl 188 _ _ rfl _ _ _ rfl rfl RR.out ?_))
    exact I (v:=.tuple #[.agg (tcs 4 0 Wd K noB 0 0 U U),.int .i64 (n1:Int)]) (HZ7.out.ans (tcs 4 0 Wd K noB 0 0 U U) rfl rfl rfl rfl) rfl ⟨rfl,HZ7.out.fin _⟩
theorem tN (hs:S.size=n)
  (hn:n<=255)
  (h0:0 < S.size)
  (h91:((S[0].toNat:Int)==91)=O)
  {k0:Nat}
  (k1:1<=k0)
  (k2:k0 < S.size)
  (hk:M (∀k,1<=k->k < k0->∀h:k < S.size,((S[k].toNat:Int) !=93)=O))
  (hk0:((S[k0].toNat:Int) !=93)=U)
  (hK:S.extract 1 k0=K)
  (hKe:(K.toList==[])=U)
  (RG:∀u,CR 48 #[.string K] u (.bool O))
  (hp:(k0:Int)+1=(p:Nat))
  (hpn:p<=n)
  (hA1:S.extract p n=A1)
  (RN1:∀u,CW 240 #[.string A1] u (.int .i64 (q1:Nat)))
  (hn1:(p:Int)+(q1:Int)=(n1:Nat))
  (hle:n1<=n)
  (hlt:n1 < S.size)
  (h33:((S[n1].toNat:Int)==33)=U)
  (aNJ:p<=n1)
  (hW:S.extract p n1=Wd)
  {ok:Bool}
  (CE:∀u,CR 242 #[.string Wd] u (.tuple #[dL B H r c fr fc,.bool ok]))
  (WD:∀u,CR 243 #[.string Wd,.bool O] u (.bool O)):
  CR 200 #[.string S] w (.tuple #[.agg (tcs 4 0 Wd K noB 0 0 U U),.int .i64 (n1:Int)]):=by
 have HZ0:M (RZ w (w.alloc tkR)):=RZ.begin w;have i0:(n1:Int)<=n:=by omega
 have i1:(n1:Int) < n:=by omega
 have i4:(p:Int)<=n:=by omega
 have i5:(p:Int)<=n1:=by omega
 have j1:(k0:Int) < n:=by omega
 have j2:((k0:Int)==(n:Int))=U:=by simp;omega
 have j3:(1:Int)<=k0:=by omega
 have j4:(k0:Int)<=n:=by omega
 go_enter Tryz.func200,Tryz.ntmps200;go_wp2;go_loop [6] (fun i=>∃k:Nat,1<=k/\k<=k0/\i=.int .i64 (k:Nat)) (fun i=>k0 - (intOf i).toNat)
 case atStart=>exact⟨1,ε _,k1,rfl⟩
 case round=>
  obtain⟨k,hk1,hk2,rfl⟩:=hrel;by_cases hlk:k < k0
  ·have g1:(k:Int) < n:=by omega
   have g2:k < S.size:=by omega
   have g3:=hk.out k hk1 hlk g2;clear hk RN1 RG;go_wp2;go_round
   case rel=>exact⟨k+1,by omega,by omega,by go_num⟩
   case measure=>simp [intOf];omega
  ·obtain rfl:k=k0:=by omega
   clear hk hlk;cases ok
   all_goals
    go_wp2_with (first|(go_at_call 48;refine (RG _).mono ?_;rintro e w4 ⟨rfl,hs4⟩;have HZ4:M (RZ w w4):=HZ0.out.below hs4;clear hs4 HZ0 RG)|(go_at_call 240;refine mw (RN1 _) ?_;clear RN1)|(go_at_call 242;refine (CE _).mono ?_;rintro e w5 ⟨rfl,hs5⟩;have HZ6:M (RZ w (w5.alloc (dV B H r c fr fc))):=(HZ4.out.below hs5).alloc _;clear hs5 HZ4)|(go_at_call 243;refine (WD _).mono ?_;rintro e w7 ⟨rfl,hs7⟩;have HZ7:M (RZ w w7):=HZ6.out.below hs7;have RR:=HZ7.out.put 4 0 Wd K noB 0 0 U U;clear hs7 HZ6)|(refine aA rfl 188 _ _ rfl _ _ _ rfl rfl RR.out ?_))
    exact I (v:=.tuple #[.agg (tcs 4 0 Wd K noB 0 0 U U),.int .i64 (n1:Int)]) (HZ7.out.ans (tcs 4 0 Wd K noB 0 0 U U) rfl rfl rfl rfl) rfl ⟨rfl,HZ7.out.fin _⟩
end
section
variable {w:α} {n p q1 n1 q2 n2:Nat} {S A1 A2 D Wd K B H:ByteArray} {r c:Int} {fr fc:Bool}
theorem aKd (hs:S.size=n) (hn:n<=255) (h0:0 < S.size) (h91:((S[0].toNat:Int)==91)=O) {k0:Nat} (k1:1<=k0) (k2:k0=n) (hk:M (∀k,1<=k->k < k0->∀h:k < S.size,((S[k].toNat:Int) !=93)=O)):
  CR 200 #[.string S] w (.tuple #[.agg tk0,.int .i64 0]):=by
 have HZ0:M (RZ w (w.alloc tkR)):=RZ.begin w;have j1:¬(k0:Int) < n:=by omega
 have j2:((k0:Int)==(n:Int))=O:=by simp;omega
 go_enter Tryz.func200,Tryz.ntmps200;go_wp2;go_loop [6] (fun i=>∃k:Nat,1<=k/\k<=k0/\i=.int .i64 (k:Nat)) (fun i=>k0 - (intOf i).toNat)
 case atStart=>exact⟨1,ε _,k1,rfl⟩
 case round=>
  obtain⟨k,hk1,hk2,rfl⟩:=hrel;by_cases hlk:k < k0
  ·have g1:(k:Int) < n:=by omega
   have g2:k < S.size:=by omega
   have g3:=hk.out k hk1 hlk g2;clear hk;go_wp2;go_round
   case rel=>exact⟨k+1,by omega,by omega,by go_num⟩
   case measure=>simp [intOf];omega
  ·obtain rfl:k=k0:=by omega
   clear hk hlk;go_wp2;exact I (v:=.tuple #[.agg tk0,.int .i64 0]) (tK tk0 rfl rfl rfl rfl) rfl ⟨rfl,aC (η _ _) _⟩
theorem aKe (hs:S.size=n) (hn:n<=255) (h0:0 < S.size) (h91:((S[0].toNat:Int)==91)=O) {k0:Nat} (k1:1<=k0) (k2:k0 < S.size) (hk0:((S[k0].toNat:Int) !=93)=U) (hK:S.extract 1 k0=K) (RG:∀u,CR 48 #[.string K] u (.bool U)) (hk:M (∀k,1<=k->k < k0->∀h:k < S.size,((S[k].toNat:Int) !=93)=O)):
  CR 200 #[.string S] w (.tuple #[.agg tk0,.int .i64 0]):=by
 have HZ0:M (RZ w (w.alloc tkR)):=RZ.begin w;have j1:(k0:Int) < n:=by omega
 have j2:((k0:Int)==(n:Int))=U:=by simp;omega
 have j3:(1:Int)<=k0:=by omega
 have j4:(k0:Int)<=n:=by omega
 go_enter Tryz.func200,Tryz.ntmps200;go_wp2;go_loop [6] (fun i=>∃k:Nat,1<=k/\k<=k0/\i=.int .i64 (k:Nat)) (fun i=>k0 - (intOf i).toNat)
 case atStart=>exact⟨1,ε _,k1,rfl⟩
 case round=>
  obtain⟨k,hk1,hk2,rfl⟩:=hrel;by_cases hlk:k < k0
  ·have g1:(k:Int) < n:=by omega
   have g2:k < S.size:=by omega
   have g3:=hk.out k hk1 hlk g2;clear hk RG;go_wp2;go_round
   case rel=>exact⟨k+1,by omega,by omega,by go_num⟩
   case measure=>simp [intOf];omega
  ·obtain rfl:k=k0:=by omega
   clear hk hlk;go_wp2_with (first|(go_at_call 48;refine (RG _).mono ?_;rintro e w4 ⟨rfl,hs4⟩;have HZ4:M (RZ w w4):=HZ0.out.below hs4;have RR:=HZ4.out.put 0 0 noB noB noB 0 0 U U;clear hs4 HZ0 RG)|(refine aA rfl 188 _ _ rfl _ _ _ rfl rfl RR.out ?_))
   exact I (v:=.tuple #[.agg tk0,.int .i64 0]) (HZ4.out.ans tk0 rfl rfl rfl rfl) rfl ⟨rfl,HZ4.out.fin _⟩
end
theorem aAN (l:List UInt8) (hl:l.length<=255) (b:Bool) (w:α):CR 243 #[.string (ba l),.bool b] w (.bool (gnF l || (!b && trB l))):=by
 have G:CR 48 #[.string (ba l)] w (.bool (gnF l)):=iD (ba l) (by rw [size_mk];omega) w;have R:=fun u=>qK (ba l) (by rw [size_mk];omega) u;have hw:=aCr (ba l);have ht:trB l=(jQ (ba l)).2:=rfl;rw [ht];generalize (jQ (ba l)).2=t at *;generalize qJ (szF 97 65 (ba l).data.toList)=n at *;generalize ba l=A at *;clear ht;generalize gnF l=g at *;cases g <;> cases b
 ·rcases hw with ⟨rfl,h⟩ | ⟨rfl,h⟩
  ·go_enter Tryz.func243,Tryz.ntmps243;go_wp2_with (first|(go_at_call 48;refine G.mono ?_;rintro e w1 ⟨rfl,hb⟩;have HB:M (θ w.heap.size w w1):=hb;clear hb) | (go_at_call 92;refine (R _).mono ?_;rintro e w2 ⟨rfl,hb⟩;have HB2:M (θ w.heap.size w w2):=aD HB.out hb;clear hb))
   go_ret;exact⟨rfl,HB2.out⟩
  ·have h':¬0<=n:=by omega
   go_enter Tryz.func243,Tryz.ntmps243;go_wp2_with (first|(go_at_call 48;refine G.mono ?_;rintro e w1 ⟨rfl,hb⟩;have HB:M (θ w.heap.size w w1):=hb;clear hb) | (go_at_call 92;refine (R _).mono ?_;rintro e w2 ⟨rfl,hb⟩;have HB2:M (θ w.heap.size w w2):=aD HB.out hb;clear hb))
   go_ret;refine ⟨eX ?_,HB2.out⟩;simpa using h
 all_goals
  clear hw R;go_enter Tryz.func243,Tryz.ntmps243;go_wp2_with (go_at_call 48;refine G.mono ?_;rintro e w1 ⟨rfl,hb⟩;have HB:M (θ w.heap.size w w1):=hb;clear hb)
  go_ret;exact⟨rfl,HB.out⟩
theorem aEI (c:UInt8) (w:α):CW 153 #[.int .u8 (c.toNat:Nat)] w (.bool (Tk.blank c)):=by rw [show Tk.blank c=(decide (c.toNat=32) || decide (c.toNat=9)) by unfold Tk.blank;rw [lF,lF];rfl];generalize c.toNat=n;go_enter Tryz.func153,Tryz.ntmps153;go_wp2;all_goals (go_ret;refine ⟨eX ?_,rfl⟩;rw [Bool.eq_iff_iff];simp;omega)
theorem aKf (c:UInt8):(Ad.isL c=O/\Tk.aQ c=O)\/(Ad.isL c=U/\Ad.isD c=O/\Tk.aQ c=O)\/
  (Ad.isL c=U/\Ad.isD c=U/\((c.toNat:Int)==95)=O/\Tk.aQ c=O)\/(Ad.isL c=U/\Ad.isD c=U/\((c.toNat:Int)==95)=U/\((c.toNat:Int)==36)=O/\Tk.aQ c=O)\/
  (Ad.isL c=U/\Ad.isD c=U/\((c.toNat:Int)==95)=U/\((c.toNat:Int)==36)=U/\Tk.aQ c=U):=by
 have e95:((c.toNat:Int)==95)=(c==95):=by
  rcases eY c 95 with ⟨h1,h2⟩ | ⟨h1,h2⟩
  ·subst h1;rfl
  ·rw [show ((c.toNat:Int)==95)=U from h2];exact(beq_eq_false_iff_ne.2 h1).symm
 have e36:((c.toNat:Int)==36)=(c==36):=by
  rcases eY c 36 with ⟨h1,h2⟩ | ⟨h1,h2⟩
  ·subst h1;rfl
  ·rw [show ((c.toNat:Int)==36)=U from h2];exact(beq_eq_false_iff_ne.2 h1).symm
 unfold Tk.aQ;rw [e95,e36];cases Ad.isL c <;> cases Ad.isD c <;> cases (c==95) <;> cases (c==36) <;> simp
theorem aG7 (l:List UInt8) (S:ByteArray) (hs:S.size=l.length) (HG:M (∀k (h:k < l.length) (h2:k < S.size),S[k]=l[k])) (hl:l.length<=255) (w:α):CW 240 #[.string S] w (.int .i64 ((l.takeWhile Tk.aQ).length:Nat)):=by
 generalize hr:(l.takeWhile Tk.aQ).length=r;have HR:M ((l.takeWhile Tk.aQ).length=r):=hr;clear hr;go_enter Tryz.func240,Tryz.ntmps240;go_wp2;go_loop [3] (fun i=>∃k:Nat,k<=l.length/\i=.int .i64 k/\M ((l.take k).all Tk.aQ=O)) (fun i=>l.length - (intOf i).toNat)
 case atStart=>exact⟨0,κ _,rfl,by simp [M]⟩
 case round=>
  obtain⟨k,hk,rfl,ha⟩:=hrel;by_cases hlt:k < l.length
  ·have hki:(k:Int) < l.length:=by omega
   have hks:k < S.size:=by rw [hs];exact hlt
   have hg:=HG.out k hlt hks;have L:=fun u=>jO l[k] u;have D:=fun u=>iH l[k] u;have HE:M (Tk.aQ l[k]=U->r=k):=fun h=>by rw [<-HR.out,(nU hlt ha.out h).1,φ];omega
   have HN:M (Tk.aQ l[k]=O->(l.take (k+1)).all Tk.aQ=O):=fun h=>sI l k 1 ha.out (fun j hj h2=>by
    obtain rfl:j=0:=by omega
    exact h)
   have hw:=aKf l[k];rw [<-hg] at L D HE HN hw;clear hg HR HG;rcases hw with ⟨h1,h2⟩ | ⟨h1,h2,h3⟩ | ⟨h1,h2,h3,h4⟩ | ⟨h1,h2,h3,h4,h5⟩ | ⟨h1,h2,h3,h4,h5⟩
   ·rw [h1] at L;have HN2:=HN.out h2;clear HE HN h1 h2;go_wp2_with (first|(go_at_call 91;refine mw (L _) ?_) | (go_at_call 93;refine mw (D _) ?_))
    go_round
    case rel=>exact⟨k+1,by omega,by go_num,HN2⟩
    case measure=>simp [intOf];omega
   ·rw [h1] at L;rw [h2] at D;have HN2:=HN.out h3;clear HE HN h1 h2 h3;go_wp2_with (first|(go_at_call 91;refine mw (L _) ?_) | (go_at_call 93;refine mw (D _) ?_))
    go_round
    case rel=>exact⟨k+1,by omega,by go_num,HN2⟩
    case measure=>simp [intOf];omega
   ·rw [h1] at L;rw [h2] at D;have HN2:=HN.out h4;clear HE HN h1 h2 h4;go_wp2_with (first|(go_at_call 91;refine mw (L _) ?_) | (go_at_call 93;refine mw (D _) ?_))
    go_round
    case rel=>exact⟨k+1,by omega,by go_num,HN2⟩
    case measure=>simp [intOf];omega
   ·rw [h1] at L;rw [h2] at D;have HN2:=HN.out h5;clear HE HN h1 h2 h5;go_wp2_with (first|(go_at_call 91;refine mw (L _) ?_) | (go_at_call 93;refine mw (D _) ?_))
    go_round
    case rel=>exact⟨k+1,by omega,by go_num,HN2⟩
    case measure=>simp [intOf];omega
   ·rw [h1] at L;rw [h2] at D;have HE2:M (r=k):=HE.out h5;clear HE HN h1 h2 h5;go_wp2_with (first|(go_at_call 91;refine mw (L _) ?_) | (go_at_call 93;refine mw (D _) ?_))
    go_ret;exact⟨by rw [HE2.out];rfl,rfl⟩
  ·have hki:¬(k:Int) < l.length:=by omega
   have HE:M (r=k):=by show _=_;have:=ha.out;rw [τ (by omega)] at this;rw [<-HR.out,(oQ this).1];omega
   clear HR HG;go_wp2;go_ret;exact⟨by rw [HE.out];rfl,rfl⟩
theorem tO (l:List UInt8) (hl:l.length<=255) (w:α):CW 240 #[.string (ba l)] w (.int .i64 ((l.takeWhile Tk.aQ).length:Nat)):=
 aG7 l (ba l) (size_mk l) (fun k h h2=>mW l k h h2) hl w
theorem kU {l X Y Z:List UInt8} (h:l=X++(Y++Z)) {i j:Nat} (hi:i=X.length) (hj:j=X.length+Y.length):(ba l).extract i j=ba Y:=by subst h hi hj;apply ByteArray.ext;simp [ba]
theorem tQ {l X Z:List UInt8} {x:UInt8} (h:l=X++x:: Z) {i:Nat} (hi:i=X.length) (h2:i < (ba l).size):(ba l)[i]=x:=by subst h hi;rw [mW _ _ (by simp) h2];simp
theorem int_ne {c d:UInt8} (h:c ≠ d):((c.toNat:Int)==(d.toNat:Int))=U:=by
 rcases eY c d with ⟨h1,_⟩ | ⟨_,h2⟩
 ·exact absurd h1 h
 ·exact h2
theorem fK.none {w:α} {l:List UInt8} {e:Θ} {w':α} (h:e=.returned (.tuple #[.agg tk0,.int .i64 0])/\θ w.heap.size w w'):fK w l none e w':=⟨h.2,h.1⟩
theorem fK.some {w:α} {l m:List UInt8} {t:Tk.Tok} {e:Θ} {w':α} {k:Nat} (hk:k=l.length - m.length) (h:e=.returned (.tuple #[.agg (tk t).cs,.int .i64 (k:Int)])/\θ w.heap.size w w'):fK w l (some (t,m)) e w':=⟨h.2,by show e=_;rw [<-hk];exact h.1⟩
theorem aDl {w:α} {c:UInt8} {r:List UInt8} (hc:c ≠ 91) (hl:(c:: r).length<=255):
  β J 200 #[.string (ba (c:: r))] w (fK w (c:: r) (Tk.gQ gnF trB [] [] (c:: r))):=by
 generalize hL:c:: r=l at *;have hz:0 < (ba l).size:=by rw [size_mk,<-hL];simp
 have h91:(((ba l)[0].toNat:Int)==91)=U:=by have h0e:(ba l)[0]=c:=tQ (X:=[]) (Z:=r) (x:=c) hL.symm rfl hz;rw [h0e];exact int_ne hc
 have hA1:(ba l).extract 0 l.length=ba l:=by rw [sJ,List.take_length]
 have hsp:=vR Tk.aQ l;have RN1:=fun u=>tO l hl u;have CE:=fun u=>gP (l.takeWhile Tk.aQ) (by have:=(μ (p:=Tk.aQ) (l:=l)).length_le;omega) u;have hlw:(l.takeWhile Tk.aQ).length<=255:=by have:=(μ (p:=Tk.aQ) (l:=l)).length_le;omega
 have WD:=fun u=>aAN (l.takeWhile Tk.aQ) hlw U u;have hlen:=congrArg ξ hsp;rw [γ] at hlen;have hW:(ba l).extract 0 (l.takeWhile Tk.aQ).length=ba (l.takeWhile Tk.aQ):=kU (X:=[]) (Z:=l.dropWhile Tk.aQ) (by rw [hsp];rfl) rfl (by simp);have rest:∀(hno:(¬(l.takeWhile Tk.aQ).length < l.length)\/∃hlt:(l.takeWhile Tk.aQ).length < (ba l).size,(((ba l)[(l.takeWhile Tk.aQ).length].toNat:Int)==33)=U),
   β J 200 #[.string (ba l)] w (fK w l (match Ad.cellP (l.takeWhile Tk.aQ) with
   | some c=>some (.ref ⟨[],[],c⟩,l.dropWhile Tk.aQ)
   | none=>if gnF (l.takeWhile Tk.aQ)=O\/trB (l.takeWhile Tk.aQ)=O then some (.word [] (l.takeWhile Tk.aQ),l.dropWhile Tk.aQ) else none)):=by
  intro hno;cases hcell:Ad.cellP (l.takeWhile Tk.aQ) with
  | some x=>
   rw [hcell] at CE;rcases hno with h | ⟨h1,h2⟩
   ·exact (aBy (size_mk l) hl hz h91 hA1 RN1 (by omega) h hW CE).mono fun e w' h=>fK.some (by omega) h
   ·exact (zS (size_mk l) hl hz h91 hA1 RN1 (by omega) h1 h2 hW CE).mono fun e w' h=>fK.some (by omega) h
  | none=>
   rw [hcell] at CE;simp only;by_cases hg:gnF (l.takeWhile Tk.aQ)=O\/trB (l.takeWhile Tk.aQ)=O
   ·rw [if_pos hg];have hwd:(gnF (l.takeWhile Tk.aQ) || (!false && trB (l.takeWhile Tk.aQ)))=O:=by rcases hg with h | h <;> simp [h]
    rw [hwd] at WD;rcases hno with h | ⟨h1,h2⟩
    ·exact (vC (size_mk l) hl hz h91 hA1 RN1 (by omega) h hW CE WD).mono fun e w' h=>fK.some (by omega) h
    ·exact (tL (size_mk l) hl hz h91 hA1 RN1 (by omega) h1 h2 hW CE WD).mono fun e w' h=>fK.some (by omega) h
   ·rw [if_neg hg];have hwd:(gnF (l.takeWhile Tk.aQ) || (!false && trB (l.takeWhile Tk.aQ)))=U:=by simp only [not_or,Bool.not_eq_true] at hg;simp [hg.1,hg.2]
    rw [hwd] at WD;rcases hno with h | ⟨h1,h2⟩
    ·exact (vY (size_mk l) hl hz h91 hA1 RN1 (by omega) h hW CE WD).mono fun e w' h=>fK.none h
    ·exact (vB (size_mk l) hl hz h91 hA1 RN1 (by omega) h1 h2 hW CE WD).mono fun e w' h=>fK.none h
 unfold Tk.gQ;cases hx:l.dropWhile Tk.aQ with
 | nil=>
  have:=rest (.inl (by rw [hx] at hlen;simp at hlen;omega));rw [hx] at this;exact this
 | cons x q=>
  rw [hx] at hlen hsp;simp only [δ] at hlen;have hlt:(l.takeWhile Tk.aQ).length < (ba l).size:=by rw [size_mk];omega
  have hel:=tQ (X:=l.takeWhile Tk.aQ) (Z:=q) (x:=x) hsp.symm rfl hlt;by_cases h33:x=33
  ·subst h33;clear rest;have hq:q.length<=255:=by omega
   have RN2:=fun u=>tO q hq u;have hsq:=vR Tk.aQ q;have hlq:=congrArg ξ hsq;rw [γ] at hlq;have hA2:(ba l).extract ((l.takeWhile Tk.aQ).length+1) l.length=ba q:=kU (X:=l.takeWhile Tk.aQ++ [33]) (Y:=q) (Z:=[]) (by rw [Δ,ν];exact hsp.symm) (by simp) (by simp;omega);have hall:l=[]++((l.takeWhile Tk.aQ++33:: q.takeWhile Tk.aQ)++q.dropWhile Tk.aQ):=by rw [ψ,ν,List.cons_append,hsq];exact hsp.symm
   have hD:(ba l).extract 0 ((l.takeWhile Tk.aQ).length+(1+(q.takeWhile Tk.aQ).length))=ba (l.takeWhile Tk.aQ++33:: q.takeWhile Tk.aQ):=kU hall rfl (by simp;omega);have hlD:(l.takeWhile Tk.aQ++33:: q.takeWhile Tk.aQ).length<=255:=by simp;omega
   have PR:=fun u=>pY (l.takeWhile Tk.aQ++33:: q.takeWhile Tk.aQ) (by omega) u;simp only [ψ];cases hp:Ad.lY gnF (l.takeWhile Tk.aQ++33:: q.takeWhile Tk.aQ) with
   | none=>
    rw [hp] at PR;exact(aBx (n2:=(l.takeWhile Tk.aQ).length+(1+(q.takeWhile Tk.aQ).length)) (size_mk l) hl hz h91 hA1 RN1 (by omega) hlt (by rw [hel];rfl) hA2 RN2 (by simp) (by omega) hD PR).mono fun e w' h=>fK.none h
   | some y=>
    rw [hp] at PR;exact(zR (n2:=(l.takeWhile Tk.aQ).length+(1+(q.takeWhile Tk.aQ).length)) (size_mk l) hl hz h91 hA1 RN1 (by omega) hlt (by rw [hel];rfl) hA2 RN2 (by simp) (by omega) hD PR).mono fun e w' h=>fK.some (by omega) h
  ·have:=rest (.inr ⟨hlt,by rw [hel];exact int_ne h33⟩);rw [hx] at this;split
   ·rename_i e;cases e;exact absurd rfl h33
   ·exact this
theorem aKg {c:UInt8}:∀{l a r:List UInt8},Ad.at_ c l=some (a,r)->∀x ∈ a,x ≠ c
 | [],a,r,h=>by cases h
 | y:: l,a,r,h=>by
  unfold Ad.at_ at h;split at h
  ·cases h;intro x hx;cases hx
  ·rename_i hy
   cases hq:Ad.at_ c l with
   | none=>rw [hq] at h;cases h
   | some p=>
    rw [hq] at h;cases h
    intro x hx;rcases List.mem_cons.1 hx with rfl | hx
    ·exact hy
    ·exact aKg (a:=p.1) (r:=p.2) hq x hx
theorem aDm {c:UInt8}:∀{l:List UInt8},Ad.at_ c l=none->∀x ∈ l,x ≠ c
 | [],_=>fun x hx=>by cases hx
 | y:: l,h=>by
  unfold Ad.at_ at h;split at h
  ·cases h
  ·rename_i hy
   cases hq:Ad.at_ c l with
   | some p=>rw [hq] at h;cases h
   | none=>
    intro x hx;rcases List.mem_cons.1 hx with rfl | hx
    ·exact hy
    ·exact aDm hq x hx
theorem aMf {c d:UInt8} (h:c ≠ d):((c.toNat:Int) !=(d.toNat:Int))=O:=by show (!((c.toNat:Int)==(d.toNat:Int)))=O;rw [int_ne h];rfl
theorem aNK {m a z:List UInt8} (hm:m=a++z) (ha:∀x ∈ a,x ≠ 93):M (∀k,1<=k->k < a.length+1->∀h:k < (ba (91:: m)).size,(((ba (91:: m))[k].toNat:Int) !=93)=O):=fun k h1 h2 h=>by
 have hk:k < (91:: m).length:=by rw [size_mk] at h;exact h
 have e:(91:: m)[k]=a[k - 1]'(by omega):=by subst hm;rw [List.getElem_cons,dif_neg (by omega),List.getElem_append_left (by omega)]
 rw [mW _ k hk h,e];exact aMf (ha _ (List.getElem_mem _))
theorem aEJ {w:α} {m a rr:List UInt8} (hl:(91:: m).length<=255) (ha:Ad.at_ 93 m=some (a,rr)) (hg:gnF a=O):
  β J 200 #[.string (ba (91:: m))] w (fK w (91:: m) (Tk.gQ gnF trB a (91:: (a++ [93])) rr)):=by
 have hm:=at_eq ha;have hnb:=aNK hm (aKg ha);have hml:=congrArg ξ hm;have hl2:=hl;simp only [γ,δ] at hml hl2;have aNL:a ≠ []:=fun e=>by rw [e] at hg;cases hg
 have hKe:((ba a).toList==[])=U:=by
  rw [wD];cases a with
  | nil=>exact absurd rfl aNL
  | cons _ _=>rfl
 generalize hL:91:: m=l at *;have hpre:l=(91:: (a++ [93]))++rr:=by rw [<-hL,hm];simp
 have aMO:l.length=a.length+2+rr.length:=by rw [hpre];simp;omega
 have hz:0 < (ba l).size:=by rw [size_mk];omega
 have h91:(((ba l)[0].toNat:Int)==91)=O:=by have h0e:(ba l)[0]=91:=tQ (X:=[]) (Z:=m) (x:=91) hL.symm rfl hz;rw [h0e];rfl
 have k2:a.length+1 < (ba l).size:=by rw [size_mk];omega
 have hk0:(((ba l)[a.length+1].toNat:Int) !=93)=U:=by have e:(ba l)[a.length+1]=93:=tQ (X:=91:: a) (Z:=rr) (x:=93) (by rw [hpre];simp) (by simp) k2;rw [e];rfl
 have hK:(ba l).extract 1 (a.length+1)=ba a:=kU (X:=[91]) (Y:=a) (Z:=93:: rr) (by rw [hpre];simp) rfl (by simp;omega);have RG:∀u,CR 48 #[.string (ba a)] u (.bool O):=fun u=>by have:=iD (ba a) (by rw [size_mk];omega) u;rw [show (ba a).data.toList=a from rfl,hg] at this;exact this
 have hA1:(ba l).extract (a.length+2) l.length=ba rr:=kU (X:=91:: (a++ [93])) (Y:=rr) (Z:=[]) (by rw [hpre];simp) (by simp) (by rw [aMO];simp only [γ,δ,ω] <;> omega);have hrr:rr.length<=255:=by omega
 have hsp:=vR Tk.aQ rr;have RN1:=fun u=>tO rr hrr u;have hlw:(rr.takeWhile Tk.aQ).length<=255:=by have:=(μ (p:=Tk.aQ) (l:=rr)).length_le;omega
 have CE:=fun u=>gP (rr.takeWhile Tk.aQ) (by omega) u;have WD:=fun u=>aAN (rr.takeWhile Tk.aQ) hlw O u;have hlen:=congrArg ξ hsp;rw [γ] at hlen;have hW:(ba l).extract (a.length+2) (a.length+2+(rr.takeWhile Tk.aQ).length)=ba (rr.takeWhile Tk.aQ):=kU (X:=91:: (a++ [93])) (Z:=rr.dropWhile Tk.aQ) (by rw [hsp];exact hpre) (by simp) (by simp);have hs:=size_mk l;have rest:∀(hno:(¬a.length+2+(rr.takeWhile Tk.aQ).length < l.length)\/∃hlt:a.length+2+(rr.takeWhile Tk.aQ).length < (ba l).size,(((ba l)[a.length+2+(rr.takeWhile Tk.aQ).length].toNat:Int)==33)=U),
   β J 200 #[.string (ba l)] w (fK w l (if gnF (rr.takeWhile Tk.aQ)=O then some (.word a (rr.takeWhile Tk.aQ),rr.dropWhile Tk.aQ) else none)):=by
  intro hno;have main:∀{B H:ByteArray} {r c:Int} {fr fc ok:Bool} (CE:∀u,CR 242 #[.string (ba (rr.takeWhile Tk.aQ))] u (.tuple #[dL B H r c fr fc,.bool ok])),
    β J 200 #[.string (ba l)] w (fK w l (if gnF (rr.takeWhile Tk.aQ)=O then some (.word a (rr.takeWhile Tk.aQ),rr.dropWhile Tk.aQ) else none)):=by
   intro B H r c fr fc ok CE;cases hgw:gnF (rr.takeWhile Tk.aQ) with
   | true=>
    rw [hgw] at WD;rw [if_pos rfl];rcases hno with h | ⟨h1,h2⟩
    ·exact (vE hs hl hz h91 (by omega) k2 hnb hk0 hK hKe RG (by simp;omega) (by omega) hA1 RN1 (by simp) (by omega) h (by omega) hW CE WD).mono fun e w' h=>fK.some (by omega) h
    ·exact (tN hs hl hz h91 (by omega) k2 hnb hk0 hK hKe RG (by simp;omega) (by omega) hA1 RN1 (by simp) (by omega) h1 h2 (by omega) hW CE WD).mono fun e w' h=>fK.some (by omega) h
   | false=>
    rw [hgw] at WD;rw [if_neg (by decide)];rcases hno with h | ⟨h1,h2⟩
    ·exact (vZ hs hl hz h91 (by omega) k2 hnb hk0 hK hKe RG (by simp;omega) (by omega) hA1 RN1 (by simp) (by omega) h (by omega) hW CE WD).mono fun e w' h=>fK.none h
    ·exact (vD hs hl hz h91 (by omega) k2 hnb hk0 hK hKe RG (by simp;omega) (by omega) hA1 RN1 (by simp) (by omega) h1 h2 (by omega) hW CE WD).mono fun e w' h=>fK.none h
  cases hcell:Ad.cellP (rr.takeWhile Tk.aQ) with
  | some x=>rw [hcell] at CE;exact main CE
  | none=>rw [hcell] at CE;exact main CE
 unfold Tk.gQ;cases hx:rr.dropWhile Tk.aQ with
 | nil=>
  have:=rest (.inl (by rw [hx] at hlen;simp at hlen;omega));rw [hx] at this;simp only [if_neg aNL];exact this
 | cons x q=>
  rw [hx] at hlen hsp;simp only [δ] at hlen;have hlt:a.length+2+(rr.takeWhile Tk.aQ).length < (ba l).size:=by rw [size_mk];omega
  have hel:(ba l)[a.length+2+(rr.takeWhile Tk.aQ).length]=x:=tQ (X:=91:: (a++ [93])++rr.takeWhile Tk.aQ) (Z:=q) (x:=x) (by rw [ν,hsp];exact hpre) (by simp;omega) hlt;by_cases h33:x=33
  ·subst h33;clear rest;have hq:q.length<=255:=by omega
   have RN2:=fun u=>tO q hq u;have hsq:=vR Tk.aQ q;have hlq:=congrArg ξ hsq;rw [γ] at hlq;have hA2:(ba l).extract (a.length+2+(rr.takeWhile Tk.aQ).length+1) l.length=ba q:=kU (X:=91:: (a++ [93])++rr.takeWhile Tk.aQ++ [33]) (Y:=q) (Z:=[]) (by rw [Δ,ν,ν];simp only [List.singleton_append];rw [hsp];exact hpre) (by simp;omega) (by rw [aMO];simp only [γ,δ,ω] <;> omega);have hall:l=[]++((91:: (a++ [93])++rr.takeWhile Tk.aQ++33:: q.takeWhile Tk.aQ)++q.dropWhile Tk.aQ):=by
    have e1:l=91:: (a++ [93])++(rr.takeWhile Tk.aQ++33:: q):=by rw [hsp];exact hpre
    rw [e1];simp
   have hD:(ba l).extract 0 (a.length+2+(rr.takeWhile Tk.aQ).length+(1+(q.takeWhile Tk.aQ).length))=ba (91:: (a++ [93])++rr.takeWhile Tk.aQ++33:: q.takeWhile Tk.aQ):=kU hall rfl (by simp;omega);have hlD:(91:: (a++ [93])++rr.takeWhile Tk.aQ++33:: q.takeWhile Tk.aQ).length<=255:=by simp;omega
   have PR:=fun u=>pY (91:: (a++ [93])++rr.takeWhile Tk.aQ++33:: q.takeWhile Tk.aQ) (by omega) u;simp only;cases hp:Ad.lY gnF (91:: (a++ [93])++rr.takeWhile Tk.aQ++33:: q.takeWhile Tk.aQ) with
   | none=>
    rw [hp] at PR;exact(aBz (n2:=a.length+2+(rr.takeWhile Tk.aQ).length+(1+(q.takeWhile Tk.aQ).length)) hs hl hz h91 (by omega) k2 hnb hk0 hK hKe RG (by simp;omega) (by omega) hA1 RN1 (by simp) (by omega) hlt (by rw [hel];rfl) hA2 RN2 (by simp) (by omega) hD PR).mono fun e w' h=>fK.none h
   | some y=>
    rw [hp] at PR;exact(zU (n2:=a.length+2+(rr.takeWhile Tk.aQ).length+(1+(q.takeWhile Tk.aQ).length)) hs hl hz h91 (by omega) k2 hnb hk0 hK hKe RG (by simp;omega) (by omega) hA1 RN1 (by simp) (by omega) hlt (by rw [hel];rfl) hA2 RN2 (by simp) (by omega) hD PR).mono fun e w' h=>fK.some (by omega) h
  ·have:=rest (.inr ⟨hlt,by rw [hel];exact int_ne h33⟩);rw [hx] at this;split
   ·rename_i e;cases e;exact absurd rfl h33
   ·rw [if_neg aNL];exact this
theorem aEK {w:α} {c:UInt8} {r:List UInt8} (hl:(c:: r).length<=255):β J 200 #[.string (ba (c:: r))] w (fK w (c:: r) (Tk.named gnF trB (c:: r))):=by
 by_cases hc:c=91
 ·subst hc;have hz:0 < (ba (91:: r)).size:=by rw [size_mk];simp
  have h91:(((ba (91:: r))[0].toNat:Int)==91)=O:=by have h0e:(ba (91:: r))[0]=91:=tQ (X:=[]) (Z:=r) (x:=91) rfl rfl hz;rw [h0e];rfl
  unfold Tk.named;simp only;cases ha:Ad.at_ 93 r with
  | none=>
   have:=aNK (m:=r) (a:=r) (z:=[]) (by simp) (aDm ha);exact(aKd (k0:=r.length+1) (size_mk _) hl hz h91 (by omega) (by simp) this).mono fun e w' h=>fK.none h
  | some p=>
   obtain⟨a,rr⟩:=p;simp only;cases hg:gnF a with
   | true=>rw [if_pos rfl];exact aEJ hl ha hg
   | false=>
    rw [if_neg (by decide)];have hm:=at_eq ha;have hml:=congrArg ξ hm;simp only [γ,δ] at hml hl;have k2:a.length+1 < (ba (91:: r)).size:=by rw [size_mk];simp;omega
    have hk0:(((ba (91:: r))[a.length+1].toNat:Int) !=93)=U:=by have e:(ba (91:: r))[a.length+1]=93:=tQ (X:=91:: a) (Z:=rr) (x:=93) (by rw [hm];simp) (by simp) k2;rw [e];rfl
    have hK:(ba (91:: r)).extract 1 (a.length+1)=ba a:=kU (X:=[91]) (Y:=a) (Z:=93:: rr) (by rw [hm];simp) rfl (by simp;omega);have RG:∀u,CR 48 #[.string (ba a)] u (.bool U):=fun u=>by have:=iD (ba a) (by rw [size_mk];omega) u;rw [show (ba a).data.toList=a from rfl,hg] at this;exact this
    exact(aKe (k0:=a.length+1) (size_mk _) (by simp;omega) hz h91 (by omega) k2 hk0 hK RG (aNK hm (aKg ha))).mono fun e w' h=>fK.none h
 ·have h:Tk.named gnF trB (c:: r)=Tk.gQ gnF trB [] [] (c:: r):=by
   unfold Tk.named;split
   ·rename_i e;cases e;exact absurd rfl hc
   ·rfl
  rw [h];exact aDl hc hl
def aNM (w:α) (l:List UInt8) (o:Option (Tk.Tok × List UInt8)) (e:Θ) (w':α):Prop:=
 ∃(t:TT) (n:Int),e=.returned (.tuple #[.agg (tcs t.k t.n t.s t.b t.h t.r t.c t.fr t.fc),.int .i64 n])/\θ w.heap.size w w'/\∀v v',θ v.heap.size v v'->fK v l o (.returned (.tuple #[.agg (tcs t.k t.n t.s t.b t.h t.r t.c t.fr t.fc),.int .i64 n])) v'
theorem fK.q {w:α} {l:List UInt8} {o:Option (Tk.Tok × List UInt8)} {e:Θ} {w':α} (h:fK w l o e w'):aNM w l o e w':=by
 rcases o with _ | ⟨t,m⟩
 ·obtain ⟨h1,rfl⟩:=h;exact⟨⟨0,0,noB,noB,noB,0,0,U,U⟩,0,rfl,h1,fun v v' hv=>⟨hv,rfl⟩⟩
 ·obtain ⟨h1,rfl⟩:=h;exact⟨tk t,_,rfl,h1,fun v v' hv=>⟨hv,rfl⟩⟩
section
variable {w:α} {S:ByteArray} {l:List UInt8} {o:Option (Tk.Tok × List UInt8)}
theorem aG8 (h0:0 < S.size) (DG:∀u,CW 93 #[.int .u8 (S[0].toNat:Nat)] u (.bool U)) (h34:((S[0].toNat:Int)==34)=O)
  (Q:M (β J 199 #[.string S] (w.alloc tkR) (aNM (w.alloc tkR) l o))):β J 154 #[.string S] w (fK w l o):=by
 have HZ0:M (RZ w (w.alloc tkR)):=RZ.begin w;go_enter Tryz.func154,Tryz.ntmps154;go_wp2_with (first|(go_at_call 93;refine mw (DG _) ?_)|(go_at_call 199;refine Calls.mono Q.out ?_;rintro e w2 ⟨t,n,rfl,hs,ha⟩;have HZ2:M (RZ w w2):=HZ0.out.below hs;have HF:M (∀v v',θ v.heap.size v v'->fK v l o (.returned (.tuple #[.agg (tcs t.k t.n t.s t.b t.h t.r t.c t.fr t.fc),.int .i64 n])) v'):=ha;have RR:=HZ2.out.put t.k t.n t.s t.b t.h t.r t.c t.fr t.fc;clear hs ha)|(refine aA rfl 188 _ _ rfl _ _ _ rfl rfl RR.out ?_))
 exact I (v:=.tuple #[.agg (tcs t.k t.n t.s t.b t.h t.r t.c t.fr t.fc),.int .i64 n]) (HZ2.out.ans (tcs t.k t.n t.s t.b t.h t.r t.c t.fr t.fc) rfl rfl rfl rfl) rfl (HF.out _ _ (HZ2.out.fin _))
theorem aAt (h0:0 < S.size) (DG:∀u,CW 93 #[.int .u8 (S[0].toNat:Nat)] u (.bool U)) (h34:((S[0].toNat:Int)==34)=U) (h35:((S[0].toNat:Int)==35)=U)
  (hn:((S[0].toNat:Int)==91)=O\/(((S[0].toNat:Int)==91)=U/\((S[0].toNat:Int)==36)=O)\/(((S[0].toNat:Int)==91)=U/\((S[0].toNat:Int)==36)=U/\∀u,CW 91 #[.int .u8 (S[0].toNat:Nat)] u (.bool O)))
  (Q:M (β J 200 #[.string S] (w.alloc tkR) (aNM (w.alloc tkR) l o))):β J 154 #[.string S] w (fK w l o):=by
 have HZ0:M (RZ w (w.alloc tkR)):=RZ.begin w;rcases hn with h91 | ⟨h91,h36⟩ | ⟨h91,h36,L⟩;all_goals
  go_enter Tryz.func154,Tryz.ntmps154;go_wp2_with (first|(go_at_call 93;refine mw (DG _) ?_)|(go_at_call 91;refine mw (L _) ?_)|(go_at_call 200;refine Calls.mono Q.out ?_;rintro e w2 ⟨t,n,rfl,hs,ha⟩;have HZ2:M (RZ w w2):=HZ0.out.below hs;have HF:M (∀v v',θ v.heap.size v v'->fK v l o (.returned (.tuple #[.agg (tcs t.k t.n t.s t.b t.h t.r t.c t.fr t.fc),.int .i64 n])) v'):=ha;have RR:=HZ2.out.put t.k t.n t.s t.b t.h t.r t.c t.fr t.fc;clear hs ha)|(refine aA rfl 188 _ _ rfl _ _ _ rfl rfl RR.out ?_))
  exact I (v:=.tuple #[.agg (tcs t.k t.n t.s t.b t.h t.r t.c t.fr t.fc),.int .i64 n]) (HZ2.out.ans (tcs t.k t.n t.s t.b t.h t.r t.c t.fr t.fc) rfl rfl rfl rfl) rfl (HF.out _ _ (HZ2.out.fin _))
end
theorem aKh (c:UInt8):(Ad.isD c=O/\Tk.dB c=O)\/(Ad.isD c=U/\((c.toNat:Int)==46)=O/\Tk.dB c=O)\/(Ad.isD c=U/\((c.toNat:Int)==46)=U/\Tk.dB c=U):=by
 have e46:((c.toNat:Int)==46)=(c==46):=by
  rcases eY c 46 with ⟨h1,h2⟩ | ⟨h1,h2⟩
  ·subst h1;rfl
  ·rw [show ((c.toNat:Int)==46)=U from h2];exact(beq_eq_false_iff_ne.2 h1).symm
 unfold Tk.dB;rw [e46];cases Ad.isD c <;> cases (c==46) <;> simp
theorem aKi (l:List UInt8) (S:ByteArray) (hs:S.size=l.length) (HG:M (∀k (h:k < l.length) (h2:k < S.size),S[k]=l[k])) (hl:l.length<=255) (h0:0 < S.size) (w:α)
  (DG:∀u,CW 93 #[.int .u8 (S[0].toNat:Nat)] u (.bool O))
  (hW:S.extract 0 (l.takeWhile Tk.dB).length=ba (l.takeWhile Tk.dB)) (hdl:(l.dropWhile Tk.dB).length=l.length - (l.takeWhile Tk.dB).length)
  (PA:∀u,CR 198 #[.string (ba (l.takeWhile Tk.dB))] u (.tuple #[.int .i64 (cK (l.takeWhile Tk.dB)).1,.bool (cK (l.takeWhile Tk.dB)).2])):
  β J 154 #[.string S] w (fK w l ((pnF (l.takeWhile Tk.dB)).map fun n=>(.num n,l.dropWhile Tk.dB))):=by
 have HZ0:M (RZ w (w.alloc tkR)):=RZ.begin w;have hle:=(μ (p:=Tk.dB) (l:=l)).length_le;generalize ho:(pnF (l.takeWhile Tk.dB)).map (fun n=>((.num n,l.dropWhile Tk.dB):Tk.Tok × List UInt8))=o;have HO:M (o=if (cK (l.takeWhile Tk.dB)).2=O then some (.num (cK (l.takeWhile Tk.dB)).1,l.dropWhile Tk.dB) else none):=by show _=_;rw [<-ho];unfold pnF;split <;> rfl
 have HDL:M ((l.dropWhile Tk.dB).length=l.length - (l.takeWhile Tk.dB).length):=hdl;clear ho hdl;generalize hN:(l.takeWhile Tk.dB).length=N at *;have HN:M ((l.takeWhile Tk.dB).length=N):=hN;clear hN;generalize ba (l.takeWhile Tk.dB)=A at *;generalize (cK (l.takeWhile Tk.dB)).1=v at *;generalize (cK (l.takeWhile Tk.dB)).2=ok at *;go_enter Tryz.func154,Tryz.ntmps154;go_wp2_with (go_at_call 93;refine mw (DG _) ?_)
 clear DG;go_loop [5] (fun i=>∃k:Nat,k<=l.length/\i=.int .i64 k/\M ((l.take k).all Tk.dB=O)) (fun i=>l.length - (intOf i).toNat)
 case atStart=>exact⟨0,κ _,rfl,by simp [M]⟩
 case round=>
  obtain⟨k,hk,rfl,ha⟩:=hrel;by_cases hlt:k < l.length
  ·have hki:(k:Int) < l.length:=by omega
   have hks:k < S.size:=by rw [hs];exact hlt
   have hg:=HG.out k hlt hks;have D:=fun u=>iH l[k] u;have HE:M (Tk.dB l[k]=U->k=N):=fun h=>by rw [<-HN.out,(nU hlt ha.out h).1,φ];omega
   have HM:M (Tk.dB l[k]=O->(l.take (k+1)).all Tk.dB=O):=fun h=>sI l k 1 ha.out (fun j hj h2=>by
    obtain rfl:j=0:=by omega
    exact h)
   have hw:=aKh l[k];rw [<-hg] at D HE HM hw;clear hg HG;rcases hw with ⟨h1,h2⟩ | ⟨h1,h2,h3⟩ | ⟨h1,h2,h3⟩
   ·rw [h1] at D;have HM2:=HM.out h2;clear HE HM h1 h2 hW PA HO;go_wp2_with (go_at_call 93;refine mw (D _) ?_)
    go_round
    case rel=>exact⟨k+1,by omega,by go_num,HM2⟩
    case measure=>simp [intOf];omega
   ·rw [h1] at D;have HM2:=HM.out h3;clear HE HM h1 h3 hW PA HO;go_wp2_with (go_at_call 93;refine mw (D _) ?_)
    go_round
    case rel=>exact⟨k+1,by omega,by go_num,HM2⟩
    case measure=>simp [intOf];omega
   ·rw [h1] at D;obtain rfl:=HE.out h3;clear HE HM h1 h3;cases ok
    ·go_wp2_with (first|(go_at_call 93;refine mw (D _) ?_)|(go_at_call 198;refine (PA _).mono ?_;rintro e w2 ⟨rfl,hb⟩;have HZ2:M (RZ w w2):=HZ0.out.below hb;have RR:=HZ2.out.put 0 0 noB noB noB 0 0 U U;clear hb)|(refine aA rfl 188 _ _ rfl _ _ _ rfl rfl RR.out ?_))
     refine I (v:=.tuple #[.agg tk0,.int .i64 0]) (HZ2.out.ans tk0 rfl rfl rfl rfl) rfl ?_;rw [HO.out];exact⟨HZ2.out.fin _,rfl⟩
    ·go_wp2_with (first|(go_at_call 93;refine mw (D _) ?_)|(go_at_call 198;refine (PA _).mono ?_;rintro e w2 ⟨rfl,hb⟩;have HZ2:M (RZ w w2):=HZ0.out.below hb;have RR:=HZ2.out.put 1 v noB noB noB 0 0 U U;clear hb)|(refine aA rfl 188 _ _ rfl _ _ _ rfl rfl RR.out ?_))
     refine I (v:=.tuple #[.agg (tcs 1 v noB noB noB 0 0 U U),.int .i64 (k:Int)]) (HZ2.out.ans (tcs 1 v noB noB noB 0 0 U U) rfl rfl rfl rfl) rfl ?_;rw [HO.out];refine ⟨HZ2.out.fin _, ?_⟩;show _=Ending.returned _;rw [HDL.out,show l.length - (l.length - k)=k by omega];rfl
  ·have hki:¬(k:Int) < l.length:=by omega
   obtain rfl:k=N:=by have:=ha.out;rw [τ (by omega)] at this;rw [<-HN.out,(oQ this).1];omega
   clear HG;cases ok
   ·go_wp2_with (first|(go_at_call 198;refine (PA _).mono ?_;rintro e w2 ⟨rfl,hb⟩;have HZ2:M (RZ w w2):=HZ0.out.below hb;have RR:=HZ2.out.put 0 0 noB noB noB 0 0 U U;clear hb)|(refine aA rfl 188 _ _ rfl _ _ _ rfl rfl RR.out ?_))
    refine I (v:=.tuple #[.agg tk0,.int .i64 0]) (HZ2.out.ans tk0 rfl rfl rfl rfl) rfl ?_;rw [HO.out];exact⟨HZ2.out.fin _,rfl⟩
   ·go_wp2_with (first|(go_at_call 198;refine (PA _).mono ?_;rintro e w2 ⟨rfl,hb⟩;have HZ2:M (RZ w w2):=HZ0.out.below hb;have RR:=HZ2.out.put 1 v noB noB noB 0 0 U U;clear hb)|(refine aA rfl 188 _ _ rfl _ _ _ rfl rfl RR.out ?_))
    refine I (v:=.tuple #[.agg (tcs 1 v noB noB noB 0 0 U U),.int .i64 (k:Int)]) (HZ2.out.ans (tcs 1 v noB noB noB 0 0 U U) rfl rfl rfl rfl) rfl ?_;rw [HO.out];refine ⟨HZ2.out.fin _, ?_⟩;show _=Ending.returned _;rw [HDL.out,show l.length - (l.length - k)=k by omega];rfl
theorem aDn (l p:List UInt8):(p.isPrefixOf l=O/\p.length<=l.length/\(((ba l).extract 0 p.length).toList==(ba p).toList)=O)\/
  (p.isPrefixOf l=U/\p.length<=l.length/\(((ba l).extract 0 p.length).toList==(ba p).toList)=U)\/(p.isPrefixOf l=U/\¬p.length<=l.length):=by
 have h:=Lib.hasPrefix_raw (ba l) (ba p);rw [show Lib.hasPrefix (ba l).data.toList (ba p).data.toList=p.isPrefixOf l from rfl,size_mk,size_mk] at h;by_cases hle:p.length<=l.length
 ·rw [decide_eq_true hle,Bool.true_and] at h;cases hp:p.isPrefixOf l
  ·exact .inr (.inl ⟨rfl,hle,by rw [h,hp]⟩)
  ·exact .inl ⟨rfl,hle,by rw [h,hp]⟩
 ·rw [decide_eq_false hle,Bool.false_and] at h;exact .inr (.inr ⟨h.symm,hle⟩)
theorem aMg (l:List UInt8) (S:ByteArray) (hS:S=ba l) (hs:S.size=l.length) (hl:l.length<=255) (h0:0 < S.size) (w:α)
  (DG:∀u,CW 93 #[.int .u8 (S[0].toNat:Nat)] u (.bool U)) (h34:((S[0].toNat:Int)==34)=U) (h35:((S[0].toNat:Int)==35)=O):
  β J 154 #[.string S] w (fK w l (Tk.pV l)):=by
 have HZ0:M (RZ w (w.alloc tkR)):=RZ.begin w;have NA:=fun u=>aGf u;have HI:M (∀(i:Nat) (h:i < 9) (W:α),(ο 200 (.agg iT) (.int .i64 (i:Int))).run J W=.ok (.string (fnm i)) W):=aCf;have HP:M (∀p:List UInt8,(p.isPrefixOf l=O/\p.length<=l.length/\((S.extract 0 p.length).toList==(ba p).toList)=O)\/
  (p.isPrefixOf l=U/\p.length<=l.length/\((S.extract 0 p.length).toList==(ba p).toList)=U)\/(p.isPrefixOf l=U/\¬p.length<=l.length)):=fun p=>by rw [hS];exact aDn l p
 generalize ho:Tk.pV l=o;have HO:M (Tk.pV l=o):=ho;clear ho hS;generalize iT=V at *;go_enter Tryz.func154,Tryz.ntmps154;go_wp2_with (first|(go_at_call 93;refine mw (DG _) ?_)|(go_at_call 183;refine (NA _).mono ?_;rintro e w2 ⟨rfl,hb⟩;have HZ2:M (RZ w w2):=HZ0.out.below hb;clear hb))
 clear DG NA HZ0;go_loop [8,9,61] (fun _ _ i=>∃k:Nat,k<=9/\i=.int .i64 k/\M (∀j,1<=j->j < k->(Tk.eP j).isPrefixOf l=U)) (fun _ _ i=>9 - (intOf i).toNat)
 case atStart=>exact⟨0,κ _,rfl,fun j h1 h2=>by omega⟩
 case round=>
  obtain⟨k,hk,rfl,HJ⟩:=hrel;by_cases hlt:k < 9
  ·have hki:(k:Int) < 9:=by omega
   have IX:=HI.out k hlt;by_cases hk0:k=0
   ·have hz:¬(0:Int) < (k:Int):=by omega
    have HN:M (∀j,1<=j->j < k+1->(Tk.eP j).isPrefixOf l=U):=fun j h1 h2=>by omega
    clear HJ HI HP HO hk0;generalize fnm k=F at *;go_wp2;go_round
    case rel=>exact⟨k+1,by omega,by go_num,HN⟩
    case measure=>simp [intOf];omega
   ·have hz:(0:Int) < (k:Int):=by omega
    rw [aFm k hlt] at IX;have hF:(ba (Tk.eP k)).size=(Tk.eP k).length:=size_mk _;have hp:=HP.out (Tk.eP k);have HH:M ((Tk.eP k).isPrefixOf l=O->o=some (.bad k,l.drop (Tk.eP k).length)):=fun h=>by rw [<-HO.out,aFo (by omega) (by omega) HJ.out h]
    have HN:M ((Tk.eP k).isPrefixOf l=U->∀j,1<=j->j < k+1->(Tk.eP j).isPrefixOf l=U):=fun h j h1 h2=>by
     by_cases e:j=k
     ·rw [e];exact h
     ·exact HJ.out j h1 (by omega)
    clear HJ HI HP HO;rcases hp with ⟨h1,h2,h3⟩ | ⟨h1,h2,h3⟩ | ⟨h1,h2⟩
    ·have HH2:M (o=some (.bad k,l.drop (Tk.eP k).length)):=HH.out h1;have HL:M (l.length - (l.drop (Tk.eP k).length).length=(Tk.eP k).length):=by show _=_;simp;omega
     have RR:=HZ2.out.put 6 (k:Nat) noB noB noB 0 0 U U;clear HH HN h1;generalize ba (Tk.eP k)=F at *;generalize (Tk.eP k).length=z at *;have h2i:(z:Int)<=l.length:=by omega
     go_wp2_with (refine aA rfl 188 _ _ rfl _ _ _ rfl rfl RR.out ?_)
     refine I (v:=.tuple #[.agg (tcs 6 (k:Nat) noB noB noB 0 0 U U),.int .i64 (z:Int)]) (HZ2.out.ans (tcs 6 (k:Nat) noB noB noB 0 0 U U) rfl rfl rfl rfl) rfl ?_;rw [HH2.out];refine ⟨HZ2.out.fin _, ?_⟩;show _=Ending.returned _;rw [HL.out];rfl
    ·have HN2:M (∀j,1<=j->j < k+1->(Tk.eP j).isPrefixOf l=U):=HN.out h1;clear HH HN h1;generalize ba (Tk.eP k)=F at *;generalize (Tk.eP k).length=z at *;have h2i:(z:Int)<=l.length:=by omega
     go_wp2;go_round
     case rel=>exact⟨k+1,by omega,by go_num,HN2⟩
     case measure=>simp [intOf];omega
    ·have HN2:M (∀j,1<=j->j < k+1->(Tk.eP j).isPrefixOf l=U):=HN.out h1;clear HH HN h1;generalize ba (Tk.eP k)=F at *;generalize (Tk.eP k).length=z at *;have h2i:¬(z:Int)<=l.length:=by omega
     go_wp2;go_round
     case rel=>exact⟨k+1,by omega,by go_num,HN2⟩
     case measure=>simp [intOf];omega
  ·have hki:¬(k:Int) < 9:=by omega
   have HH2:M (o=none):=by show _=_;rw [<-HO.out,aCI (fun j h1 h2=>HJ.out j h1 (by omega))]
   have RR:=HZ2.out.put 0 0 noB noB noB 0 0 U U;clear HJ HI HP HO;go_wp2_with (refine aA rfl 188 _ _ rfl _ _ _ rfl rfl RR.out ?_)
   refine I (v:=.tuple #[.agg tk0,.int .i64 0]) (HZ2.out.ans tk0 rfl rfl rfl rfl) rfl ?_;rw [HH2.out];exact⟨HZ2.out.fin _,rfl⟩
theorem aPI (W:α):(ο 211 (.agg #[.string ⟨#[60,62]⟩,.string ⟨#[60,61]⟩,.string ⟨#[62,61]⟩]) (.int .i64 0)).run J W=.ok (.string (ba [60,62])) W:=by kernel_rfl
theorem aPJ (W:α):(ο 211 (.agg #[.string ⟨#[60,62]⟩,.string ⟨#[60,61]⟩,.string ⟨#[62,61]⟩]) (.int .i64 1)).run J W=.ok (.string (ba [60,61])) W:=by kernel_rfl
theorem aPK (W:α):(ο 211 (.agg #[.string ⟨#[60,62]⟩,.string ⟨#[60,61]⟩,.string ⟨#[62,61]⟩]) (.int .i64 2)).run J W=.ok (.string (ba [62,61])) W:=by kernel_rfl
theorem aG9 (i:Nat) (h:i < 3) (W:α):(ο 211 (.agg #[.string ⟨#[60,62]⟩,.string ⟨#[60,61]⟩,.string ⟨#[62,61]⟩]) (.int .i64 (i:Int))).run J W=.ok (.string (ba (opn i))) W:=by
 have:i=0\/i=1\/i=2:=by omega
 rcases this with rfl | rfl | rfl
 ·exact aPI W
 ·exact aPJ W
 ·exact aPK W
theorem aBA (i:Nat) (h:i < 3):(opn i).length=2:=by
 have:i=0\/i=1\/i=2:=by omega
 rcases this with rfl | rfl | rfl <;> rfl
def onI (j:Nat):Int:=(((opn (j+3)).head?.getD 0).toNat:Nat)
abbrev onC:Array π:=#[.int .u8 43,.int .u8 45,.int .u8 42,.int .u8 47,.int .u8 94,.int .u8 38,.int .u8 61,.int .u8 60,.int .u8 62,.int .u8 37,.int .u8 40,.int .u8 41,.int .u8 44,.int .u8 58]
theorem aMh {u:α} {g:Nat} {z:Nat × Nat} (h:u.heap[g]? =some (.cells onC 5 z)) (j:Nat) (hj:j < 14):u.cell? ⟨g,j,none⟩=some (.int .u8 (onI j)):=by
 rw [cell_of_row u g j _ _ _ h];have:j=0\/j=1\/j=2\/j=3\/j=4\/j=5\/j=6\/j=7\/j=8\/j=9\/j=10\/j=11\/j=12\/j=13:=by omega
 rcases this with rfl | rfl | rfl | rfl | rfl | rfl | rfl | rfl | rfl | rfl | rfl | rfl | rfl | rfl <;> rfl
theorem aMi (c:UInt8) (t:List UInt8) (j:Nat) (hj:j < 14):(((c.toNat:Int)==onI j)=O/\(opn (j+3)).isPrefixOf (c:: t)=O/\opn (j+3)=[c])\/(((c.toNat:Int)==onI j)=U/\(opn (j+3)).isPrefixOf (c:: t)=U):=by
 have key:∀d:UInt8,opn (j+3)=[d]->onI j=(d.toNat:Int)->(((c.toNat:Int)==onI j)=O/\(opn (j+3)).isPrefixOf (c:: t)=O/\opn (j+3)=[c])\/(((c.toNat:Int)==onI j)=U/\(opn (j+3)).isPrefixOf (c:: t)=U):=by
  intro d h1 h2;rw [h1,h2];rcases eY c d with ⟨e,h⟩ | ⟨e,h⟩
  ·subst e;exact .inl ⟨h,by simp [Γ],rfl⟩
  ·exact .inr ⟨h,by simp [Γ,Ne.symm e]⟩
 have:j=0\/j=1\/j=2\/j=3\/j=4\/j=5\/j=6\/j=7\/j=8\/j=9\/j=10\/j=11\/j=12\/j=13:=by omega
 rcases this with rfl | rfl | rfl | rfl | rfl | rfl | rfl | rfl | rfl | rfl | rfl | rfl | rfl | rfl
 ·exact key 43 rfl rfl
 ·exact key 45 rfl rfl
 ·exact key 42 rfl rfl
 ·exact key 47 rfl rfl
 ·exact key 94 rfl rfl
 ·exact key 38 rfl rfl
 ·exact key 61 rfl rfl
 ·exact key 60 rfl rfl
 ·exact key 62 rfl rfl
 ·exact key 37 rfl rfl
 ·exact key 40 rfl rfl
 ·exact key 41 rfl rfl
 ·exact key 44 rfl rfl
 ·exact key 58 rfl rfl
theorem aMj (c:UInt8) (t l:List UInt8) (hlc:l=c:: t) (S:ByteArray) (hS:S=ba l) (hs:S.size=l.length) (hl:l.length<=255) (h0:0 < S.size) (w:α)
  (DG:∀u,CW 93 #[.int .u8 (S[0].toNat:Nat)] u (.bool U)) (h34:((S[0].toNat:Int)==34)=U) (h35:((S[0].toNat:Int)==35)=U)
  (h91:((S[0].toNat:Int)==91)=U) (h36:((S[0].toNat:Int)==36)=U) (LT:∀u,CW 91 #[.int .u8 (S[0].toNat:Nat)] u (.bool U)):
  β J 154 #[.string S] w (fK w l (Tk.opF l)):=by
 have HI:M (∀(i:Nat) (h:i < 3) (W:α),(ο 211 (.agg #[.string ⟨#[60,62]⟩,.string ⟨#[60,61]⟩,.string ⟨#[62,61]⟩]) (.int .i64 (i:Int))).run J W=.ok (.string (ba (opn i))) W):=aG9;have HP:M (∀p:List UInt8,(p.isPrefixOf l=O/\p.length<=l.length/\((S.extract 0 p.length).toList==(ba p).toList)=O)\/
  (p.isPrefixOf l=U/\p.length<=l.length/\((S.extract 0 p.length).toList==(ba p).toList)=U)\/(p.isPrefixOf l=U/\¬p.length<=l.length)):=fun p=>by rw [hS];exact aDn l p
 have HX1:M (S.extract 0 1=ba [c]):=by show _=_;rw [hS,hlc];exact aKb (c:: t) 0 (by simp)
 have HC0:M (S[0]=c):=by show _=_;subst hS;exact mW l 0 (by rw [hlc];simp) h0 |>.trans (by simp [hlc])
 generalize ho:Tk.opF l=o;have HO:M (Tk.opF l=o):=ho;have HLC:M (l=c:: t):=hlc;have CV:=Lib.run_convert_bytes_const (P:=J) (w.alloc tkR) 96 5 onC 14 14 Tryz.underlying96 Tryz.underlying5;rw [show (w.alloc tkR).heap.size=w.heap.size+1 by simp] at CV;obtain⟨w3,hw3⟩:∃w3,w3=(w.alloc tkR).alloc (.cells onC 5 (onC.size,onC.size+1)):=⟨_,rfl⟩
 rw [<-hw3] at CV;have HZ3:M (RZ w w3):=by show RZ _ _;rw [hw3];exact(RZ.begin w).alloc _
 have HON:M (∀j,j < 14->w3.cell? ⟨w.heap.size+1,j,none⟩=some (.int .u8 (onI j))):=fun j hj=>aMh (z:=(onC.size,onC.size+1)) (by
  have:=ι (w.alloc tkR) (.cells onC 5 (onC.size,onC.size+1));rw [show (w.alloc tkR).heap.size=w.heap.size+1 by simp] at this;rw [hw3];exact this) j hj
 clear ho hS hlc hw3;go_enter Tryz.func154,Tryz.ntmps154;go_wp2_with (first|(go_at_call 93;refine mw (DG _) ?_)|(go_at_call 91;refine mw (LT _) ?_))
 clear DG LT;go_loop [11,104] (fun _ i=>∃k:Nat,k<=3/\i=.int .i64 k/\M (∀j,j < k->(opn j).isPrefixOf l=U)) (fun _ i=>3 - (intOf i).toNat)
 case atStart=>exact⟨0,κ _,rfl,fun j h2=>by omega⟩
 case round=>
  obtain⟨k,hk,rfl,HJ⟩:=hrel;by_cases hlt:k < 3
  ·have hki:(k:Int) < 3:=by omega
   have IX:=HI.out k hlt;have hp:=HP.out (opn k);rw [aBA k hlt] at hp;have hF:(ba (opn k)).size=2:=by rw [size_mk,aBA k hlt]
   have HH:M ((opn k).isPrefixOf l=O->o=some (.op (opn k),l.drop 2)):=fun h=>by rw [<-HO.out,aEc (by omega) HJ.out h,aBA k hlt]
   have HN:M ((opn k).isPrefixOf l=U->∀j,j < k+1->(opn j).isPrefixOf l=U):=fun h j h2=>by
    by_cases e:j=k
    ·rw [e];exact h
    ·exact HJ.out j (by omega)
   clear HJ HI HP HO;rcases hp with ⟨h1,h2,h3⟩ | ⟨h1,h2,h3⟩ | ⟨h1,h2⟩
   ·have HH2:M (o=some (.op (opn k),l.drop 2)):=HH.out h1;have HL:M (l.length - (l.drop 2).length=2):=by show _=_;simp;omega
    clear HH HN h1;obtain⟨F,hF2⟩:∃F,F=ba (opn k):=⟨_,rfl⟩
    rw [<-hF2] at IX h3 hF;have HA:M (tcs 5 0 F noB noB 0 0 U U=(tk (.op (opn k))).cs):=by show _=_;rw [hF2];rfl
    clear hF2;have h2i:(2:Int)<=l.length:=by omega
    go_wp2;refine I (v:=.tuple #[.agg (tcs 5 0 F noB noB 0 0 U U),.int .i64 2]) (tK (tcs 5 0 F noB noB 0 0 U U) rfl rfl rfl rfl) rfl ?_;rw [HH2.out];refine ⟨aC (η _ _) _, ?_⟩;show _=Ending.returned _;rw [HL.out,<-HA.out];rfl
   ·have HN2:M (∀j,j < k+1->(opn j).isPrefixOf l=U):=HN.out h1;clear HH HN h1;generalize ba (opn k)=F at *;have h2i:(2:Int)<=l.length:=by omega
    go_wp2;go_round
    case rel=>exact⟨k+1,by omega,by go_num,HN2⟩
    case measure=>simp [intOf];omega
   ·have HN2:M (∀j,j < k+1->(opn j).isPrefixOf l=U):=HN.out h1;clear HH HN h1;generalize ba (opn k)=F at *;have h2i:¬(2:Int)<=l.length:=by omega
    go_wp2;go_round
    case rel=>exact⟨k+1,by omega,by go_num,HN2⟩
    case measure=>simp [intOf];omega
  ·have hki:¬(k:Int) < 3:=by omega
   have h3:∀j,j < 3->(opn j).isPrefixOf l=U:=fun j h=>HJ.out j (by omega);have H3:M (∀j,j < 3->(opn j).isPrefixOf l=U):=h3;clear HI HP HJ h3;go_wp2;clear CV;go_loop [13,122] (fun _ i=>∃k:Nat,k<=14/\i=.int .i64 k/\M (∀j,j < k+3->(opn j).isPrefixOf l=U)) (fun _ i=>14 - (intOf i).toNat)
   case atStart=>exact⟨0,κ _,rfl,H3⟩
   case round=>
    obtain⟨k2,hk2,rfl,HJ⟩:=hrel;by_cases hlt2:k2 < 14
    ·have aOE:(k2:Int) < 14:=by omega
     have ce:=HON.out k2 hlt2;have hw:=aMi c t k2 hlt2;rw [<-HLC.out,<-HC0.out] at hw;rcases hw with ⟨h1,h2,h3⟩ | ⟨h1,h2⟩
     ·have HH2:M (o=some (.op [c],l.drop 1)):=by show _=_;rw [<-HC0.out,<-HO.out,aEc (by omega) HJ.out h2,h3];rfl
      have HL:M (l.length - (l.drop 1).length=1):=by show _=_;simp;omega
      have hX:=HX1.out;have HA:M (tcs 5 0 (ba [c]) noB noB 0 0 U U=(tk (.op [c])).cs):=rfl;generalize ba [c]=F at *;have RR:=HZ3.out.put 5 0 F noB noB 0 0 U U;have h1i:(1:Int)<=l.length:=by omega
      clear HJ HON HO h2 h3 HX1;generalize onI k2=z at *;go_wp2_with (refine aA rfl 188 _ _ rfl _ _ _ rfl rfl RR.out ?_)
      refine I (v:=.tuple #[.agg (tcs 5 0 F noB noB 0 0 U U),.int .i64 1]) (HZ3.out.ans (tcs 5 0 F noB noB 0 0 U U) rfl rfl rfl rfl) rfl ?_;rw [HH2.out];refine ⟨HZ3.out.fin _, ?_⟩;show _=Ending.returned _;rw [HL.out,<-HA.out];rfl
     ·have HN2:M (∀j,j < k2+1+3->(opn j).isPrefixOf l=U):=fun j h=>by
       by_cases e:j=k2+3
       ·rw [e];exact h2
       ·exact HJ.out j (by omega)
      clear HJ HON HO h2 HX1;generalize onI k2=z at *;go_wp2;go_round
      case rel=>exact⟨k2+1,by omega,by go_num,HN2⟩
      case measure=>simp [intOf];omega
    ·have aOE:¬(k2:Int) < 14:=by omega
     have HH2:M (o=none):=by show _=_;rw [<-HO.out,aFq (fun j h=>HJ.out j (by omega))]
     have RR:=HZ3.out.put 0 0 noB noB noB 0 0 U U;clear HJ HON HO HX1;go_wp2_with (refine aA rfl 188 _ _ rfl _ _ _ rfl rfl RR.out ?_)
     refine I (v:=.tuple #[.agg tk0,.int .i64 0]) (HZ3.out.ans tk0 rfl rfl rfl rfl) rfl ?_;rw [HH2.out];exact⟨HZ3.out.fin _,rfl⟩
end Go.Proofs.YtfedoljlipfhdaaGreatDoor
