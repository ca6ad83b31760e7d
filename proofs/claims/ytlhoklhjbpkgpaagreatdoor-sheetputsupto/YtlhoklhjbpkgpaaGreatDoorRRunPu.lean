/- RPar3, RPar9, RDepth, RQuo, RNmP, RNmQ, RNmB, RNmC, RNmD, RNmN, RWord, RRun. -/
import Derived.Test.YtlhoklhjbpkgpaaGreatDoorRPar3aPu
set_option linter.unusedVariables false
set_option linter.unusedSimpArgs false
set_option maxHeartbeats 16000000
set_option maxRecDepth 100000
namespace Go.Proofs.YtlhoklhjbpkgpaaGreatDoor
open Go.RowKit Go.Fm
theorem wr1:IntKind.i64.wrap (((1:Nat):Int)+1)=((1+1:Nat):Int):=by kernel_rfl
theorem wr2:IntKind.i64.wrap (((2:Nat):Int)+1)=((2+1:Nat):Int):=by kernel_rfl
theorem wr3:IntKind.i64.wrap (((3:Nat):Int)+1)=((3+1:Nat):Int):=by kernel_rfl
theorem wr4:IntKind.i64.wrap (((4:Nat):Int)+1)=((4+1:Nat):Int):=by kernel_rfl
theorem wr5:IntKind.i64.wrap (((5:Nat):Int)+1)=((5+1:Nat):Int):=by kernel_rfl
theorem aJH {W:World} {b:Nat} {lv:Nat} (h1:1<=lv) (h5:lv<=5) {ts:List Tk.Tok} (hn:ts.length<=256)
  (C:∀ts' u,ts'.length<=ts.length->QR W b ts' u->Calls Tryz.prog 109 #[pt b,.int .i64 ((lv+1:Nat):Int)] u (RO W b u (PP (lv+1) ts'))) {w:World} (X:QR W b ts w):
  Calls Tryz.prog 109 #[pt b,.int .i64 ((lv:Nat):Int)] w (RO W b w (PP lv ts)):=by
 have hb:=X.lt;have e:PP lv ts=(PP (lv+1) ts).bind fun p=>dV (PP (lv+1)) lv p.2.length p.1 p.2:=aIJ upF trF h1 h5 ts;have hlen:∀p,PP (lv+1) ts=some p->p.2.length<=ts.length:=fun p hp=>Nat.le_of_lt (jB upF trF (by omega) _ p.1 p.2 hp);have C0:Calls Tryz.prog 109 #[pt b,.int .i64 ((lv+1:Nat):Int)] (w.alloc (.cells nd0 67)) fun e w1=>∃es,e=.returned (.agg es)/\Hid ((Instr.storeAt 67 (pt w1.heap.size) (.agg es)).run Tryz.prog (w1.alloc (.cells nd0 67))=.ok () (w1.alloc (.cells es 67)))/\Hid (BI W b w w1.heap.size (PP (lv+1) ts) es (w1.alloc (.cells es 67)))/\Hid (w.heap.size < w1.heap.size):=(C ts _ (Nat.le_refl _) (X.alloc _)).mono (by
  rintro e w1 ⟨es,rfl,hn,h⟩;exact⟨es,rfl,BI.begin hb hn h⟩)
 generalize PP lv ts=o at e ⊢;have HO:Hid (((PP (lv+1) ts).bind fun p=>dV (PP (lv+1)) lv p.2.length p.1 p.2)=o):=e.symm;have HC:Hid (∀ts' u,ts'.length<=ts.length->QR W b ts' u->Calls Tryz.prog 109 #[pt b,.int .i64 ((lv+1:Nat):Int)] u (RO W b u (PP (lv+1) ts'))):=C;have HLE:Hid (∀p,PP (lv+1) ts=some p->p.2.length<=ts.length):=hlen;have hi5:¬(5:Int) < ((lv:Nat):Int):=by omega
 have hw1:IntKind.i64.wrap (((lv:Nat):Int)+1)=((lv+1:Nat):Int):=by
  have:lv=1\/lv=2\/lv=3\/lv=4\/lv=5:=by omega
  rcases this with rfl | rfl | rfl | rfl | rfl
  ·exact wr1
  ·exact wr2
  ·exact wr3
  ·exact wr4
  ·exact wr5
 have HLV:Hid (1<=lv):=h1;have aJI:Hid (ts.length<=256):=hn;clear e C hlen X h5;generalize PP (lv+1) ts=o1 at C0 HO HLE;obtain⟨l1,hl1⟩:∃l1:Int,((lv+1:Nat):Int)=l1:=⟨_,rfl⟩
 rw [hl1] at C0 HC hw1;clear hl1;obtain⟨N,hN⟩:∃N,ts.length=N:=⟨_,rfl⟩
 rw [hN] at HC HLE aJI;clear hN hn h1;go_enter Tryz.func109,Tryz.ntmps109;go_wp2_with (first|(go_at_call 109;refine C0.mono ?_;rintro e w1 ⟨es0,rfl,RS0,HB0,HLT⟩)|(refine aB rfl 67 _ _ rfl _ _ _ rfl rfl RS0.out ?_;clear RS0))
 clear C0;try simp only [Act.put,List.setIfInBounds_toArray,List.set_cons_zero,List.set_cons_succ]
 generalize hg7:w1.heap.size=g7 at *;clear hg7;go_loopw [6] (fun _ wr=>∃(cur:Option (T × List Tk.Tok)) (es:Array Value),Hid ((cur.bind fun p=>dV (PP (lv+1)) lv p.2.length p.1 p.2)=o)/\Hid (BI W b w g7 cur es wr)/\Hid (∀p,cur=some p->p.2.length<=N)) (fun _ wr=>nS b wr)
 case atStart=>exact⟨o1,es0,HO,HB0,HLE⟩
 case round=>
  obtain⟨cur,es,HL,HB,HR⟩:=hrel;clear HO HB0 HLE;cases cur with
  | none=>
   obtain⟨RL,RS,HZ,HF⟩:=HB.out.fin hb;have hyes:wr.cell? ⟨b,1,none⟩=some (.bool true):=(show Sw W b w wr from HB.out.st).1.yes;have HQ:Hid (none=o):=HL.out;have HNA:Hid (NA es):=HB.out.na;have HG:Hid (wr.heap[w.heap.size]? =some (.cells nd0 67)):=HB.out.res;clear HL HB HR;go_wp2_with (first|(refine aC rfl 67 _ rfl _ _ rfl RL.out ?_;clear RL)|(refine aB rfl 67 _ _ rfl _ _ _ rfl rfl RS.out ?_;clear RS))
   refine bodyPost_ret (aY HG.out HZ.out rfl rfl) rfl ?_;rw [<-HQ.out];exact⟨es,rfl,HNA.out,HF.out⟩
  | some p=>
   obtain⟨n,r⟩:=p;have hr:r.length<=N:=HR.out _ rfl;have hS:Sq W b r w wr:=(HB.out.st).2;have hnot:wr.cell? ⟨b,1,none⟩=some (.bool false):=hS.1.not;have OP:=fG hS.1 (by have:=aJI.out;omega);have ST:=fun u=>aAf (aV r) u;have hleft:=hS.1.left;by_cases hq:mJ (aV r)=lv
   ·have hlv:=HLV.out;have hne:=nG (s:=aV r) (by omega);obtain⟨hrt,hrc⟩:=bA (ts:=r) rfl hne;have HQ:Hid (o=(PP (lv+1) r.tail).bind fun p=>dV (PP (lv+1)) lv p.2.length (yQ (aV r) n p.1) p.2):=by show _=_;rw [<-HL.out];exact aCQ hlv hq
    have TK:Calls Tryz.prog 157 #[pt b,.string (ba (aV r))] wr fun e w'=>e=.returned (.tuple #[])/\Sq W b r.tail wr w':=eD hS.1 (by have:=aJI.out;omega) hne rfl;have hqi:(((mJ (aV r):Nat):Int)==((lv:Nat):Int))=true:=by simp [hq]
    have aPf:r.tail.length < r.length:=by omega
    have HPL:Hid (∀p,PP (lv+1) r.tail=some p->p.2.length < r.tail.length):=fun p hp=>jB upF trF (by omega) _ p.1 p.2 hp;have C1:Hid (∀u2,Sq W b r.tail wr u2->Calls Tryz.prog 109 #[pt b,.int .i64 l1] u2 fun e w3=>∃es2,e=.returned (.agg es2)/\NA es2/\RA W b u2 (PP (lv+1) r.tail) es2 w3):=fun u2 h2=>HC.out r.tail u2 (by omega) h2.1;clear HL hq hrc HC hS;generalize hrr:r.tail=r' at *;generalize mJ (aV r)=sv at *;generalize hss:aV r=sg at *;clear hrr hss;go_wp2_with (first|(go_at_call 156;refine mw OP ?_)|(go_at_call 141;refine mw (ST _) ?_)|(go_at_call 157;refine TK.mono ?_;rintro e w2 ⟨rfl,hw⟩;have HS2:Hid (Sq W b r' wr w2):=hw;clear hw TK)|(go_at_call 109;refine (C1.out _ HS2.out).mono ?_;rintro e w3 ⟨es2,rfl,hn2,h3⟩;obtain⟨R1,R2,R3,w5,R4,R5,R6,HB6⟩:=BI.two (sg:=sg) HB.out hb HLT.out HS2.out hn2 h3;clear hn2 h3)|(refine aB rfl 67 _ _ rfl _ _ _ rfl rfl R1.out ?_;clear R1)|(refine aC rfl 67 _ rfl _ _ rfl R2.out ?_;clear R2)|(refine aC rfl 67 _ rfl _ _ rfl R3.out ?_;clear R3)|(refine dL rfl 65 2 _ rfl _ _ _ (by go_simp) R4.out ?_;clear R4)|(refine aM rfl 67 _ rfl _ _ (by go_simp) R5.out ?_;clear R5)|(refine aB rfl 67 _ _ rfl _ _ _ rfl rfl R6.out ?_;clear R6))
    try simp only [Act.put,List.setIfInBounds_toArray,List.set_cons_zero,List.set_cons_succ]
    go_roundw
    case rel=>
     refine ⟨_,_, ?_,HB6, ?_⟩
     ·show _=_;rw [HQ.out];cases PP (lv+1) r' <;> rfl
     ·show ∀p,_->_;intro p hp;cases hP:PP (lv+1) r' with
      | none=>rw [hP] at hp;cases hp
      | some q=>
       rw [hP] at hp;cases hp
       have:=HPL.out _ hP;show q.2.length<=N;omega
    case measure=>
     have hst:=HB6.out.st;cases hP:PP (lv+1) r' with
     | none=>
      rw [hP] at hst;rw [(show Sw W b w _ from hst).1.left,hleft];omega
     | some q=>
      rw [hP] at hst;have:=HPL.out _ hP;rw [(show _/\Sq W b q.2 w _ from hst).2.1.left,hleft];omega
   ·have HQ:Hid (o=some (n,r)):=by show _=_;rw [<-HL.out];exact aFp hq _
    have hqi:(((mJ (aV r):Nat):Int)==((lv:Nat):Int))=false:=by simp;omega
    obtain⟨RL,RS,HZ,HF⟩:=HB.out.fin hb;have HNA:Hid (NA es):=HB.out.na;have HG:Hid (wr.heap[w.heap.size]? =some (.cells nd0 67)):=HB.out.res;generalize mJ (aV r)=sv at *;generalize ba (aV r)=A at *;clear hq HL hleft HB hS HC;go_wp2_with (first|(go_at_call 156;refine mw OP ?_)|(go_at_call 141;refine mw (ST _) ?_)|(refine aC rfl 67 _ rfl _ _ rfl RL.out ?_;clear RL)|(refine aB rfl 67 _ _ rfl _ _ _ rfl rfl RS.out ?_;clear RS))
    refine bodyPost_ret (aY HG.out HZ.out rfl rfl) rfl ?_;rw [HQ.out];exact⟨es,rfl,HNA.out,HF.out⟩
abbrev w1P (w:World):World:=w.alloc (.cells nd0 67)
theorem aJJ {W w:World} {b:Nat} (X:QR W b [] w):Calls Tryz.prog 201 #[pt b] w (RO W b w none):=by
 have hb:=X.lt;have X1:=X.alloc (.cells nd0 67);obtain⟨v,hv,hs⟩:=X1.blk;obtain⟨a,c,rfl⟩:=hs.slice;obtain⟨c0,c1,_⟩:=bM hv;have FA:Calls Tryz.prog 244 #[pt b] (w1P w) fun e w3=>∃es,e=.returned (.agg es)/\Hid ((Instr.storeAt 67 (pt w.heap.size) (.agg es)).run Tryz.prog w3=.ok () (w3.setRow w.heap.size es))/\Hid (w3.heap[w.heap.size]? =some (.cells nd0 67))/\Hid (es.size=18)/\Hid (NA es)/\Hid (RA W b w none es (w3.setRow w.heap.size es)):=(mR X1.b).mono (by
  rintro e w3 ⟨rfl,h3⟩;obtain⟨a1,a2,a3,a4⟩:=RA.fin (o:=none) hb NA.zero h3;exact⟨nd0,rfl,a1,a2,a3,NA.zero,a4⟩)
 clear X X1 hv hs;go_enter Tryz.func201,Tryz.ntmps201;go_wp2_with (first|(go_at_call 244;refine FA.mono ?_;rintro e w3 ⟨es,rfl,RS,HG,HZ,HNA,HF⟩)|(refine aB rfl 67 _ _ rfl _ _ _ rfl rfl RS.out ?_;clear RS))
 exact bodyPost_ret (aY HG.out HZ.out rfl rfl) rfl ⟨_,rfl,HNA.out,HF.out⟩
theorem iE {W w:World} {b:Nat} {t:Tk.Tok} {q:List Tk.Tok} (X:QR W b (t:: q) w):∃g o c A w3,(w1P w).cell? ⟨b,0,none⟩=some (.slice (some ⟨g,o,none⟩) (q.length+1) c)/\(w1P w).cell? ⟨b,1,none⟩=some (.bool false)/\q.length+1<=c/\(if c=1 then some (⟨g,o,none⟩:Addr) else some ⟨g,o+9,none⟩)=A/\
  Hid ((Instr.loadAt 188 (.pointer (some ⟨g,o,none⟩))).run Tryz.prog (w1P w)=.ok (.agg (tk t).cs) (w1P w))/\Hid ((Instr.storeAt 188 (.pointer (some ⟨w.heap.size+1,0,none⟩)) (.agg (tk t).cs)).run Tryz.prog ((w1P w).alloc (.cells tk0 188))=.ok () ((w1P w).alloc (.cells (tk t).cs 188)))/\
  ((w1P w).alloc (.cells (tk t).cs 188)).cell? ⟨b,0,none⟩=some (.slice (some ⟨g,o,none⟩) (q.length+1) c)/\((w1P w).alloc (.cells (tk t).cs 188)).frozen? ⟨b,0,none⟩=false/\((w1P w).alloc (.cells (tk t).cs 188)).setCell ⟨b,0,none⟩ (.slice A q.length (c - 1))=w3/\
  Hid (Sq W b q (w1P w) w3)/\Hid (w3.heap[w.heap.size]? =some (.cells nd0 67))/\Hid (w3.heap[w.heap.size+1]? =some (.cells (tk t).cs 188))/\w3.cell? ⟨w.heap.size+1,0,none⟩=some (.int .i64 (tk t).k)/\w3.cell? ⟨w.heap.size+1,1,none⟩=some (.int .i64 (tk t).n)/\w3.cell? ⟨w.heap.size+1,2,none⟩=some (.string (tk t).s):=by
 have hb:=X.lt;have X1:=X.alloc (.cells nd0 67);have hz1:(w1P w).heap.size=w.heap.size+1:=by simp
 obtain⟨g,o,c,hv,hlc,hcc,hts⟩:=X1.first;have B2:Below (w1P w).heap.size (w1P w) ((w1P w).alloc (.cells (tk t).cs 188)):=aD (Below.refl _ _) _;have hv2:=(B2.block _ (aZ hv)).trans hv;have G3:=Lib.grownBy_setCell ((w1P w).alloc (.cells (tk t).cs 188)) b 0 (.slice (if c=1 then some ⟨g,o,none⟩ else some ⟨g,o+9,none⟩) q.length (c - 1));have e0:((w1P w).alloc (.cells (tk t).cs 188)).heap[w.heap.size]? =some (.cells nd0 67):=(Below.heap_alloc _ _ _ (by simp)).trans (heap_alloc_new w _);have e1:((w1P w).alloc (.cells (tk t).cs 188)).heap[w.heap.size+1]? =some (.cells (tk t).cs 188):=by have:=heap_alloc_new (w1P w) (.cells (tk t).cs 188);rw [hz1] at this;exact this
 have k0:=(G3.block _ (aZ e0) (by intro e;have:=Option.some.inj e;omega)).trans e0;have k1:=(G3.block _ (aZ e1) (by intro e;have:=Option.some.inj e;omega)).trans e1;have RS:=run_storeAt_new (P:=Tryz.prog) (w1P w) 188 tk0 (tk t).cs uP rfl (oZ _ _ _ _ _ _ _ _ _);rw [hz1] at RS;exact⟨g,o,c,_,_,(bM hv).1,(bM hv).2.1,hlc,rfl,run_loadAt_mid (P:=Tryz.prog) _ g o 188 (tk t).cl _ (fun j x hx=>hcc j x hx) Tryz.underlying188 rfl uP,RS,(bM hv2).1,(bM hv2).2.2.1,rfl,X1.rest B2 hts,k0,k1,aDd k1 0 _ rfl,aDd k1 1 _ rfl,aDd k1 2 _ rfl⟩
theorem aJK (u:World) (n:Int):(Instr.build 62 #[(0,.int .i64 1),(1,.int .i64 n)]).run Tryz.prog u=.ok (.agg #[.int .i64 1,.int .i64 n,.string noB]) u:=by kernel_rfl
theorem aJL (u:World) (s:ByteArray):(Instr.build 62 #[(0,.int .i64 2),(2,.string s)]).run Tryz.prog u=.ok (.agg #[.int .i64 2,.int .i64 0,.string s]) u:=by kernel_rfl
theorem aJM (u:World) (n:Int):(Instr.build 62 #[(0,.int .i64 4),(1,.int .i64 n)]).run Tryz.prog u=.ok (.agg #[.int .i64 4,.int .i64 n,.string noB]) u:=by kernel_rfl
section
variable {W w:World} {b:Nat} {t:Tk.Tok} {q:List Tk.Tok}
theorem aJN {u:World} (hb:b < w.heap.size) (a:Lab) (h:Sq W b q (w1P w) u):Hid ((Instr.storeAt 67 (pt w.heap.size) (.agg (lcs a (.slice none 0 0)))).run Tryz.prog u=.ok () (u.setRow w.heap.size (lcs a (.slice none 0 0))))/\Hid (RO W b w (some (tree a [],q)) (.returned (.agg (lcs a (.slice none 0 0)))) (u.setRow w.heap.size (lcs a (.slice none 0 0)))):=by obtain⟨a1,a2,a3,a4⟩:=RA.fin hb (pV a) (RA.leaf a h);exact⟨a1,_,rfl,pV a,a4.out⟩
theorem aJO (X:QR W b (t:: q) w) (hq:q.length<=255) (hk:(tk t).k=1):Calls Tryz.prog 201 #[pt b] w (RO W b w (some (tree (fM 1 (tk t).n nb) [],q))):=by
 have hb:=X.lt;obtain⟨g,o,c,A,w3,c0,c1,hlc,hA,RL,RS0,d0,f0,hw3,HS,HG,HB,k0,k1,k2⟩:=iE X;obtain⟨RS,HF⟩:=aJN hb (fM 1 (tk t).n nb) HS.out;have B1:Hid _:=aJK w3 (tk t).n;have B2:Hid _:=mO w3 1 (tk t).n noB;have hl:(((q.length:Int)+1)==0)=false:=by simp;omega
 have hz:Hid ((lcs (fM 1 (tk t).n nb) (.slice none 0 0)).size=18):=fB _ _;rw [hk] at k0;clear X HS HB;generalize lcs (fM 1 (tk t).n nb) (.slice none 0 0)=es at *;generalize (tk t).cs=cs at *;generalize (tk t).n=n at *;generalize (tk t).s=s at *;generalize q.length=m at *;go_enter Tryz.func201,Tryz.ntmps201;go_wp2_with (first|(refine aC rfl 188 _ rfl _ _ rfl RL.out ?_;clear RL)|(refine aB rfl 188 _ _ rfl _ _ _ rfl rfl RS0.out ?_;clear RS0)|(refine aM rfl 62 _ rfl _ _ (by go_simp) B1.out ?_;clear B1)|(refine aM rfl 67 _ rfl _ _ (by go_simp) B2.out ?_;clear B2)|(refine aB rfl 67 _ _ rfl _ _ _ rfl rfl RS.out ?_;clear RS))
 exact bodyPost_ret (aY HG.out hz.out rfl rfl) rfl HF.out
theorem aJP (X:QR W b (t:: q) w) (hq:q.length<=255) (hk:(tk t).k=2):Calls Tryz.prog 201 #[pt b] w (RO W b w (some (tree (fM 2 0 (tk t).s) [],q))):=by
 have hb:=X.lt;obtain⟨g,o,c,A,w3,c0,c1,hlc,hA,RL,RS0,d0,f0,hw3,HS,HG,HB,k0,k1,k2⟩:=iE X;obtain⟨RS,HF⟩:=aJN hb (fM 2 0 (tk t).s) HS.out;have B1:Hid _:=aJL w3 (tk t).s;have B2:Hid _:=mO w3 2 0 (tk t).s;have hl:(((q.length:Int)+1)==0)=false:=by simp;omega
 have hz:Hid ((lcs (fM 2 0 (tk t).s) (.slice none 0 0)).size=18):=fB _ _;rw [hk] at k0;clear X HS HB;generalize lcs (fM 2 0 (tk t).s) (.slice none 0 0)=es at *;generalize (tk t).cs=cs at *;generalize (tk t).n=n at *;generalize (tk t).s=s at *;generalize q.length=m at *;go_enter Tryz.func201,Tryz.ntmps201;go_wp2_with (first|(refine aC rfl 188 _ rfl _ _ rfl RL.out ?_;clear RL)|(refine aB rfl 188 _ _ rfl _ _ _ rfl rfl RS0.out ?_;clear RS0)|(refine aM rfl 62 _ rfl _ _ (by go_simp) B1.out ?_;clear B1)|(refine aM rfl 67 _ rfl _ _ (by go_simp) B2.out ?_;clear B2)|(refine aB rfl 67 _ _ rfl _ _ _ rfl rfl RS.out ?_;clear RS))
 exact bodyPost_ret (aY HG.out hz.out rfl rfl) rfl HF.out
theorem aJQ (X:QR W b (t:: q) w) (hq:q.length<=255) (hk:(tk t).k=6):Calls Tryz.prog 201 #[pt b] w (RO W b w (some (tree (fM 4 (tk t).n nb) [],q))):=by
 have hb:=X.lt;obtain⟨g,o,c,A,w3,c0,c1,hlc,hA,RL,RS0,d0,f0,hw3,HS,HG,HB,k0,k1,k2⟩:=iE X;obtain⟨RS,HF⟩:=aJN hb (fM 4 (tk t).n nb) HS.out;have B1:Hid _:=aJM w3 (tk t).n;have B2:Hid _:=mO w3 4 (tk t).n noB;have hl:(((q.length:Int)+1)==0)=false:=by simp;omega
 have hz:Hid ((lcs (fM 4 (tk t).n nb) (.slice none 0 0)).size=18):=fB _ _;rw [hk] at k0;clear X HS HB;generalize lcs (fM 4 (tk t).n nb) (.slice none 0 0)=es at *;generalize (tk t).cs=cs at *;generalize (tk t).n=n at *;generalize (tk t).s=s at *;generalize q.length=m at *;go_enter Tryz.func201,Tryz.ntmps201;go_wp2_with (first|(refine aC rfl 188 _ rfl _ _ rfl RL.out ?_;clear RL)|(refine aB rfl 188 _ _ rfl _ _ _ rfl rfl RS0.out ?_;clear RS0)|(refine aM rfl 62 _ rfl _ _ (by go_simp) B1.out ?_;clear B1)|(refine aM rfl 67 _ rfl _ _ (by go_simp) B2.out ?_;clear B2)|(refine aB rfl 67 _ _ rfl _ _ _ rfl rfl RS.out ?_;clear RS))
 exact bodyPost_ret (aY HG.out hz.out rfl rfl) rfl HF.out
theorem aMA {u:World} {f:Nat} {cs:Array Value} {o:Option (T × List Tk.Tok)} (hb:b < w.heap.size) (h:Sq W b q (w1P w) u) (C:Calls Tryz.prog f #[pt b,.agg cs] u (RO W b u o)):
  Calls Tryz.prog f #[pt b,.agg cs] u fun e w3=>∃es,e=.returned (.agg es)/\Hid ((Instr.storeAt 67 (pt w.heap.size) (.agg es)).run Tryz.prog w3=.ok () (w3.setRow w.heap.size es))/\Hid (w3.heap[w.heap.size]? =some (.cells nd0 67))/\Hid (es.size=18)/\Hid (RO W b w o (.returned (.agg es)) (w3.setRow w.heap.size es)):=C.mono (by
 rintro e w3 ⟨es,rfl,hn,h3⟩;obtain⟨a1,a2,a3,a4⟩:=RA.fin hb hn (h3.from h.2);exact⟨es,rfl,a1,a2,a3,es,rfl,hn,a4.out⟩)
theorem aMB {u:World} {g:Nat} (h:u.heap[g]? =some (.cells (tk t).cs 188)):(Instr.loadAt 188 (pt g)).run Tryz.prog u=.ok (.agg (tk t).cs) u:=lod (z:=(0,0)) h rfl Tryz.underlying188 uP
theorem aJR (X:QR W b (t:: q) w) (hq:q.length<=255) (hk:(tk t).k=3) {o':Option (T × List Tk.Tok)} (C:∀u,QR W b q u->Calls Tryz.prog 245 #[pt b,.agg (tk t).cs] u (RO W b u o')):Calls Tryz.prog 201 #[pt b] w (RO W b w o'):=by
 have hb:=X.lt;obtain⟨g,o,c,A,w3,c0,c1,hlc,hA,RL,RS0,d0,f0,hw3,HS,HG,HB,k0,k1,k2⟩:=iE X;have C1:=aMA hb HS.out (C _ HS.out.1);have RL3:Hid _:=aMB HB.out;have hl:(((q.length:Int)+1)==0)=false:=by simp;omega
 rw [hk] at k0;clear X HS HB C HG;generalize (tk t).cs=cs at *;generalize (tk t).n=n at *;generalize (tk t).s=s at *;generalize q.length=m at *;go_enter Tryz.func201,Tryz.ntmps201;go_wp2_with (first|(refine aC rfl 188 _ rfl _ _ rfl RL.out ?_;clear RL)|(refine aB rfl 188 _ _ rfl _ _ _ rfl rfl RS0.out ?_;clear RS0)|(refine aC rfl 188 _ rfl _ _ rfl RL3.out ?_;clear RL3)|(go_at_call 245;refine C1.mono ?_;rintro e w4 ⟨es,rfl,RS,HG,HZ,HF⟩)|(refine aB rfl 67 _ _ rfl _ _ _ rfl rfl RS.out ?_;clear RS))
 exact bodyPost_ret (aY HG.out HZ.out rfl rfl) rfl HF.out
theorem aGQ (X:QR W b (t:: q) w) (hq:q.length<=255) (hk:(tk t).k=4) {o':Option (T × List Tk.Tok)} (C:∀u,QR W b q u->Calls Tryz.prog 246 #[pt b,.agg (tk t).cs] u (RO W b u o')):Calls Tryz.prog 201 #[pt b] w (RO W b w o'):=by
 have hb:=X.lt;obtain⟨g,o,c,A,w3,c0,c1,hlc,hA,RL,RS0,d0,f0,hw3,HS,HG,HB,k0,k1,k2⟩:=iE X;have C1:=aMA hb HS.out (C _ HS.out.1);have RL3:Hid _:=aMB HB.out;have hl:(((q.length:Int)+1)==0)=false:=by simp;omega
 rw [hk] at k0;clear X HS HB C HG;generalize (tk t).cs=cs at *;generalize (tk t).n=n at *;generalize (tk t).s=s at *;generalize q.length=m at *;go_enter Tryz.func201,Tryz.ntmps201;go_wp2_with (first|(refine aC rfl 188 _ rfl _ _ rfl RL.out ?_;clear RL)|(refine aB rfl 188 _ _ rfl _ _ _ rfl rfl RS0.out ?_;clear RS0)|(refine aC rfl 188 _ rfl _ _ rfl RL3.out ?_;clear RL3)|(go_at_call 246;refine C1.mono ?_;rintro e w4 ⟨es,rfl,RS,HG,HZ,HF⟩)|(refine aB rfl 67 _ _ rfl _ _ _ rfl rfl RS.out ?_;clear RS))
 exact bodyPost_ret (aY HG.out HZ.out rfl rfl) rfl HF.out
theorem aLZ (X:QR W b (t:: q) w) (hq:q.length<=255) (hk:(tk t).k=5) (hs:((tk t).s.toList==[40])=false):Calls Tryz.prog 201 #[pt b] w (RO W b w none):=by
 have hb:=X.lt;obtain⟨g,o,c,A,w3,c0,c1,hlc,hA,RL,RS0,d0,f0,hw3,HS,HG,HB,k0,k1,k2⟩:=iE X;have FA:Calls Tryz.prog 244 #[pt b] w3 fun e w4=>∃es,e=.returned (.agg es)/\Hid ((Instr.storeAt 67 (pt w.heap.size) (.agg es)).run Tryz.prog w4=.ok () (w4.setRow w.heap.size es))/\Hid (w4.heap[w.heap.size]? =some (.cells nd0 67))/\Hid (es.size=18)/\Hid (RO W b w none (.returned (.agg es)) (w4.setRow w.heap.size es)):=(mR HS.out.1.b).mono (by
  rintro e w4 ⟨rfl,h3⟩;obtain⟨a1,a2,a3,a4⟩:=RA.fin (o:=none) hb NA.zero (HS.out.bad h3);exact⟨nd0,rfl,a1,a2,a3,nd0,rfl,NA.zero,a4.out⟩)
 have hl:(((q.length:Int)+1)==0)=false:=by simp;omega
 rw [hk] at k0;clear X HS HB HG;generalize (tk t).cs=cs at *;generalize (tk t).n=n at *;generalize (tk t).s=s at *;generalize q.length=m at *;go_enter Tryz.func201,Tryz.ntmps201;go_wp2_with (first|(refine aC rfl 188 _ rfl _ _ rfl RL.out ?_;clear RL)|(refine aB rfl 188 _ _ rfl _ _ _ rfl rfl RS0.out ?_;clear RS0)|(go_at_call 244;refine FA.mono ?_;rintro e w4 ⟨es,rfl,RS,HG,HZ,HF⟩)|(refine aB rfl 67 _ _ rfl _ _ _ rfl rfl RS.out ?_;clear RS))
 exact bodyPost_ret (aY HG.out HZ.out rfl rfl) rfl HF.out
def zQ (o:Option (T × List Tk.Tok)):Option (T × List Tk.Tok):=o.bind fun p=>if aV p.2=[41] then some (p.1,p.2.tail) else none
abbrev InO (W:World) (b:Nat) (w:World) (o:Option (T × List Tk.Tok)) (es:Array Value) (w4:World):Prop:=Hid ((Instr.storeAt 67 (pt w4.heap.size) (.agg es)).run Tryz.prog (w4.alloc (.cells nd0 67))=.ok () (w4.alloc (.cells es 67)))/\     Hid (Calls Tryz.prog 157 #[pt b,.string ⟨#[41]⟩] (w4.alloc (.cells es 67)) fun e w5=>e=.returned (.tuple #[])/\Hid ((Instr.loadAt 67 (pt w4.heap.size)).run Tryz.prog w5=.ok (.agg es) w5)/\Hid ((Instr.storeAt 67 (pt w.heap.size) (.agg es)).run Tryz.prog w5=.ok () (w5.setRow w.heap.size es))/\Hid (w5.heap[w.heap.size]? =some (.cells nd0 67))/\Hid (es.size=18)/\Hid (RO W b w (zQ o) (.returned (.agg es)) (w5.setRow w.heap.size es)))
theorem inP {u w4:World} {es:Array Value} {o:Option (T × List Tk.Tok)} (hb:b < w.heap.size) (h:Sq W b q (w1P w) u) (hn:NA es) (h4:RA W b u o es w4) (hl:∀p,o=some p->p.2.length<=256):
  InO W b w o es w4:=by
 have hlt:b < u.heap.size:=h.1.lt;have hs4:=h4.grow.size;refine ⟨run_storeAt_new w4 67 nd0 _ (by rw [hn.size];exact iG) (by rw [hn.size];rfl) hn.one, ?_⟩;have main:∀(o2:Option (T × List Tk.Tok)) (w5:World),(w4.alloc (.cells es 67)).grownBy w5 (some b)->RA W b (w1P w) o2 es w5->Hid ((Instr.loadAt 67 (pt w4.heap.size)).run Tryz.prog w5=.ok (.agg es) w5)/\Hid ((Instr.storeAt 67 (pt w.heap.size) (.agg es)).run Tryz.prog w5=.ok () (w5.setRow w.heap.size es))/\Hid (w5.heap[w.heap.size]? =some (.cells nd0 67))/\Hid (es.size=18)/\Hid (RO W b w o2 (.returned (.agg es)) (w5.setRow w.heap.size es)):=fun o2 w5 hg h5=>by obtain⟨a1,a2,a3,a4⟩:=RA.fin hb hn h5;exact⟨hn.lod ((hg.block _ (by simp) (by intro e;have:=Option.some.inj e;omega)).trans (heap_alloc_new _ _)),a1,a2,a3,es,rfl,hn,a4.out⟩
 cases o with
 | none=>
  have h4':Sw W b u w4:=h4;refine (aAP (s:=[41]) (h4'.alloc (.cells es 67)).1 (by decide)).mono ?_;rintro e w5 ⟨rfl,h5⟩;exact⟨rfl,main none w5 h5.2 (h.bad ((h4'.alloc (.cells es 67)).step h5))⟩
 | some p=>
  obtain⟨n,r⟩:=p;obtain⟨h41,h42⟩:=h4;have hr:r.length<=256:=hl _ rfl;have hS5:=h42.alloc (.cells es 67);by_cases hq:aV r=[41]
  ·refine (eD (s:=[41]) hS5.1 hr (by decide) hq).mono ?_;rintro e w5 ⟨rfl,h5⟩;have e2:zQ (some (n,r))=some (n,r.tail):=by unfold zQ;rw [Option.bind_some,if_pos hq]
   rw [e2];refine ⟨rfl,main (some (n,r.tail)) w5 h5.2 ⟨?_,h.step (hS5.step h5)⟩⟩;have hlow:=h.2.size;exact((h41.below (aD (Below.refl _ _) (.cells es 67))).grown h5.2 (fun g e hk=>by cases e;have hk':u.heap.size<=b:=hk;omega)).mono (fun i hi _=>Nat.le_trans hlow hi)
  ·refine (aC9 (s:=[41]) hS5.1 hr hq).mono ?_;rintro e w5 ⟨rfl,h5⟩;have e2:zQ (some (n,r))=none:=by unfold zQ;rw [Option.bind_some,if_neg hq]
   rw [e2];exact⟨rfl,main none w5 h5.2 (h.bad (hS5.bad h5))⟩
theorem aGR (X:QR W b (t:: q) w) (hq:q.length<=255) (hk:(tk t).k=5) (hs:((tk t).s.toList==[40])=true) (C:∀u,QR W b q u->Calls Tryz.prog 109 #[pt b,.int .i64 1] u (RO W b u (PP 1 q))):Calls Tryz.prog 201 #[pt b] w (RO W b w (zQ (PP 1 q))):=by
 have hb:=X.lt;obtain⟨g,o,c,A,w3,c0,c1,hlc,hA,RL,RS0,d0,f0,hw3,HS,HG,HB,k0,k1,k2⟩:=iE X;have hlen:∀p,PP 1 q=some p->p.2.length<=256:=fun p hp=>by have:=jB upF trF (by omega) _ p.1 p.2 hp;omega
 have C1:Calls Tryz.prog 109 #[pt b,.int .i64 1] w3 fun e w4=>∃es,e=.returned (.agg es)/\InO W b w (PP 1 q) es w4:=(C _ HS.out.1).mono (by
  rintro e w4 ⟨es,rfl,hn,h4⟩;exact⟨es,rfl,inP hb HS.out hn h4 hlen⟩)
 have hl:(((q.length:Int)+1)==0)=false:=by simp;omega
 rw [hk] at k0;clear X HS HB HG C hlen;generalize (tk t).cs=cs at *;generalize (tk t).n=n at *;generalize (tk t).s=s at *;generalize q.length=m at *;go_enter Tryz.func201,Tryz.ntmps201;go_wp2_with (first|(refine aC rfl 188 _ rfl _ _ rfl RL.out ?_;clear RL)|(refine aB rfl 188 _ _ rfl _ _ _ rfl rfl RS0.out ?_;clear RS0)|(go_at_call 109;refine C1.mono ?_;rintro e w4 ⟨es,rfl,RS4,TK⟩)|(refine aB rfl 67 _ _ rfl _ _ _ rfl rfl RS4.out ?_;clear RS4)|(go_at_call 157;refine TK.out.mono ?_;rintro e w5 ⟨rfl,RL5,RS,HG,HZ,HF⟩)|(refine aC rfl 67 _ rfl _ _ rfl RL5.out ?_;clear RL5)|(refine aB rfl 67 _ _ rfl _ _ _ rfl rfl RS.out ?_;clear RS))
 exact bodyPost_ret (aY HG.out HZ.out rfl rfl) rfl HF.out
end
theorem aJS {W w:World} {b:Nat} {ts:List Tk.Tok} (hn:ts.length<=256) (X:QR W b ts w) (C:∀ts' u,ts'.length < ts.length->QR W b ts' u->Calls Tryz.prog 109 #[pt b,.int .i64 1] u (RO W b u (PP 1 ts'))):
  Calls Tryz.prog 201 #[pt b] w (RO W b w (PP 8 ts)):=by
 have e:PP 8 ts=jA upF trF (PP 1) ts:=aIM upF trF ts;rw [e];cases ts with
 | nil=>exact aJJ X
 | cons t q=>
  have hok:=X.ok t (by simp);have hq:q.length<=255:=by simp at hn;omega
  cases t using Tk.Tok.cs with
  | num n=>exact aJO X hq rfl
  | str s=>exact aJP X hq rfl
  | bad n=>exact aJQ X hq rfl
  | ref x=>exact aJR X hq rfl (fun u hu=>aJD x (by omega) hu)
  | word bk s=>
   have e2:jA upF trF (PP 1) (Tk.Tok.word bk s:: q)=vY bk s q:=by
    simp only [jA,vY];rw [aFq];split
    ·rfl
    ·cases trF s <;> rfl
   rw [e2];refine aGQ X hq rfl (fun u hu=>aGP (by omega) (aAG hok.1).2 hu (fun ts' u' h1 h2=>C ts' u' ?_ h2));rw [List.length_tail] at h1;simp;omega
  | op s=>
   by_cases hs:s=[40]
   ·have e2:jA upF trF (PP 1) (Tk.Tok.op s:: q)=zQ (PP 1 q):=by simp only [jA];rw [if_pos hs];rfl
    rw [e2];exact aGR X hq rfl (by show ((ba s).toList==[40])=true;rw [hs,ByteArray.toList_eq];rfl) (fun u hu=>C q u (by simp) hu)
   ·have e2:jA upF trF (PP 1) (Tk.Tok.op s:: q)=none:=by simp only [jA];rw [if_neg hs]
    rw [e2];exact aLZ X hq rfl (bI hs)
theorem aFA:∀(n:Nat),n<=256->∀(W:World) (b:Nat),(∀lv,1<=lv->lv<=6->∀ts:List Tk.Tok,ts.length<=n->∀w,QR W b ts w->Calls Tryz.prog 109 #[pt b,.int .i64 ((lv:Nat):Int)] w (RO W b w (PP lv ts)))/\(∀ts:List Tk.Tok,ts.length<=n->∀w,QR W b ts w->Calls Tryz.prog 155 #[pt b] w (RO W b w (PP 6 ts)))
 | n,hn,W,b=>by
  have IH:∀ts':List Tk.Tok,ts'.length < n->(∀lv,1<=lv->lv<=6->∀w,QR W b ts' w->Calls Tryz.prog 109 #[pt b,.int .i64 ((lv:Nat):Int)] w (RO W b w (PP lv ts')))/\(∀w,QR W b ts' w->Calls Tryz.prog 155 #[pt b] w (RO W b w (PP 6 ts'))):=fun ts' hlt=>by
   cases n with
   | zero=>exact absurd hlt (Nat.not_lt_zero _)
   | succ m=>
    have:=aFA m (by omega) W b;exact⟨fun lv h1 h6=>this.1 lv h1 h6 ts' (by omega),this.2 ts' (by omega)⟩
  have H89:∀ts:List Tk.Tok,ts.length<=n->∀w,QR W b ts w->Calls Tryz.prog 201 #[pt b] w (RO W b w (PP 8 ts)):=fun ts hl w X=>aJS (by omega) X (fun ts' u h1 h2=>(IH ts' (by omega)).1 1 (by omega) (by omega) u h2);have H45:∀ts:List Tk.Tok,ts.length<=n->∀w,QR W b ts w->Calls Tryz.prog 155 #[pt b] w (RO W b w (PP 6 ts)):=fun ts hl w X=>aLS (by omega) (fun u h hu=>(IH ts.tail (by have:=(bA (ts:=ts) h (by decide)).1;omega)).2 u hu) (H89 ts hl) X;have H6:∀ts:List Tk.Tok,ts.length<=n->∀w,QR W b ts w->Calls Tryz.prog 109 #[pt b,.int .i64 ((6:Nat):Int)] w (RO W b w (PP 6 ts)):=fun ts hl w X=>aJx X.lt (H45 ts hl _ (X.alloc _));have step:∀lv,1<=lv->lv<=5->(∀ts:List Tk.Tok,ts.length<=n->∀w,QR W b ts w->Calls Tryz.prog 109 #[pt b,.int .i64 ((lv+1:Nat):Int)] w (RO W b w (PP (lv+1) ts)))->∀ts:List Tk.Tok,ts.length<=n->∀w,QR W b ts w->Calls Tryz.prog 109 #[pt b,.int .i64 ((lv:Nat):Int)] w (RO W b w (PP lv ts)):=fun lv h1 h5 hc ts hl w X=>
   aJH h1 h5 (by omega) (fun ts' u hl' hu=>hc ts' (by omega) u hu) X
  have H5:=step 5 (by omega) (by omega) H6;have H4:=step 4 (by omega) (by omega) H5;have H3:=step 3 (by omega) (by omega) H4;have H2:=step 2 (by omega) (by omega) H3;have H1:=step 1 (by omega) (by omega) H2;refine ⟨fun lv h1 h6=> ?_,H45⟩;have hc:lv=1\/lv=2\/lv=3\/lv=4\/lv=5\/lv=6:=by omega
  rcases hc with rfl | rfl | rfl | rfl | rfl | rfl
  ·exact H1
  ·exact H2
  ·exact H3
  ·exact H4
  ·exact H5
  ·exact H6
theorem oN {W w:World} {b:Nat} {ts:List Tk.Tok} (hn:ts.length<=256) (X:QR W b ts w):Calls Tryz.prog 109 #[pt b,.int .i64 1] w (RO W b w (PP 1 ts)):=
 (aFA 256 (Nat.le_refl _) W b).1 1 (by omega) (by omega) ts hn w X
theorem aEw:∀t:T,zT t<=1000000->∀(w:World) (es:Array Value),NT w es t->CR 45 #[.agg es] w (.int .i64 (dT t:Nat)):=by
 refine ind ?_;intro t ih hz w es h;obtain⟨p,n,c,rfl,hs⟩:=h;have HK:Hid (∀s ∈ kids t.2,∀(w:World) (es:Array Value),NT w es s->CR 45 #[.agg es] w (.int .i64 (dT s:Nat))):=fun s hs=>ih s hs (by have:=aBl hs;omega);have HD:Hid (∀s ∈ kids t.2,dT s<=1000000):=fun s hs=>by have:=aFg s;have:=aBl hs;omega
 clear ih;have hd1:dT t<=1000000:=by have:=aFg t;omega
 have hdd:dT t=depth t.2+1:=rfl;have h17:=qW (u:=w.alloc (.cells (lcs t.1 (.slice p n c)) 67)) (heap_alloc_new w _);have HB0:Hid (Below w.heap.size w (w.alloc (.cells (lcs t.1 (.slice p n c)) 67))):=aD (Below.refl _ _) _;have HS:Hid (SF w p n t.2):=hs;have hn:n<=1000000:=by
  have e:=hs.1;have:(kids t.2).length<=size t.2:=by
   rw [<-aFd,aCC];have:∀l:List T,l.length<=(l.flatMap aIH).length:=by
    intro l;induction l with
    | nil=>exact Nat.zero_le _
    | cons a l ih=>rw [List.flatMap_cons,List.length_append,List.length_cons,aIH,List.length_cons];omega
   exact this _
  unfold zT at hz;omega
 have HN:Hid (n=(kids t.2).length):=hs.1;clear hs hz;generalize lcs t.1 (.slice p n c)=bx at *;go_enter Tryz.func45,Tryz.ntmps45;go_wp2;go_loopw [3,10] (fun d i wr=>∃k:Nat,k<=n/\i=.int .i64 (k:Nat)/\d=.int .i64 (dpK t.2 k:Nat)/\Hid (Below w.heap.size w wr)) (fun _ i _=>n - (intOf i).toNat)
 case atStart=>exact⟨0,Nat.zero_le _,rfl,rfl,HB0⟩
 case round=>
  obtain⟨k,hk,rfl,rfl,HB⟩:=hrel;have hle:=aIO t.2 k;by_cases hlt:k < n
  ·have hki:(k:Int) < n:=by omega
   obtain⟨a',es,s,rfl,RL,HI,RS,RL2,HNT,HM⟩:=HS.out.step HB.out hlt;have C:=HK.out s HM.out _ _ HNT.out;have HDP:Hid (dpK t.2 (k+1)=max (dpK t.2 k) (dT s)):=aCF HI.out;have hds:=HD.out s HM.out;generalize dpK t.2 k=D0 at *;generalize dT s=E at *;by_cases hgt:D0 < E
   ·have hgi:(D0:Int) < (E:Int):=by omega
    have HX:Hid (dpK t.2 (k+1)=E):=by show _=_;rw [HDP.out];omega
    go_wp2_with (first|(refine aC rfl 67 _ rfl _ _ rfl RL.out ?_;clear RL)|(refine aB rfl 67 _ _ rfl _ _ _ rfl rfl RS.out ?_;clear RS)|(refine aC rfl 67 _ rfl _ _ rfl RL2.out ?_;clear RL2)|(go_at_call 45;refine C.mono ?_;rintro e w2 ⟨rfl,hs⟩;have HU2:Hid (Below w.heap.size w w2):=aF (aD HB.out _) hs;clear hs))
    go_roundw
    case rel=>exact⟨k+1,by omega,by go_num,by rw [HX.out],HU2⟩
    case measure=>simp [intOf];omega
   ·have hgi:¬(D0:Int) < (E:Int):=by omega
    have HX:Hid (dpK t.2 (k+1)=D0):=by show _=_;rw [HDP.out];omega
    go_wp2_with (first|(refine aC rfl 67 _ rfl _ _ rfl RL.out ?_;clear RL)|(refine aB rfl 67 _ _ rfl _ _ _ rfl rfl RS.out ?_;clear RS)|(refine aC rfl 67 _ rfl _ _ rfl RL2.out ?_;clear RL2)|(go_at_call 45;refine C.mono ?_;rintro e w2 ⟨rfl,hs⟩;have HU2:Hid (Below w.heap.size w w2):=aF (aD HB.out _) hs;clear hs))
    go_roundw
    case rel=>exact⟨k+1,by omega,by go_num,by rw [HX.out],HU2⟩
    case measure=>simp [intOf];omega
  ·have hki:¬(k:Int) < n:=by omega
   have HE:Hid (dpK t.2 k=depth t.2):=aFh _ (by have:=HN.out;omega);go_wp2;go_ret;exact⟨by rw [HE.out];rfl,HB.out⟩
end Go.Proofs.YtlhoklhjbpkgpaaGreatDoor
namespace Go.Proofs.YtlhoklhjbpkgpaaGreatDoor
open Go.RowKit
abbrev tkR:Obj:=.cells tk0 188
def fH (w:World) (l:List UInt8) (o:Option (Tk.Tok × List UInt8)) (e:Ending) (w':World):Prop:=
 Below w.heap.size w w'/\match o with
  | some (t,m)=>e=.returned (.tuple #[.agg (tk t).cs,.int .i64 ((l.length - m.length:Nat):Int)])
  | none=>e=.returned (.tuple #[.agg tk0,.int .i64 0])
structure RZ (w u:World):Prop where
 bel:Below w.heap.size w u
 z:u.heap[w.heap.size]? =some tkR
theorem RZ.begin (w:World):RZ w (w.alloc tkR):=⟨aD (Below.refl _ _) _,heap_alloc_new w _⟩
theorem RZ.below {w u u1:World} (h:RZ w u) (hb:Below u.heap.size u u1):RZ w u1:=⟨aF h.bel hb,(hb.block _ (aZ h.z)).trans h.z⟩
theorem RZ.alloc {w u:World} (h:RZ w u) (o:Obj):RZ w (u.alloc o):=h.below (aD (Below.refl _ _) o)
theorem RZ.put {w u:World} (h:RZ w u) (k n:Int) (s b' h':ByteArray) (r c:Int) (fr fc:Bool):
  Hid ((Instr.storeAt 188 (pt w.heap.size) (.agg (tcs k n s b' h' r c fr fc))).run Tryz.prog u=.ok () (u.setRow w.heap.size (tcs k n s b' h' r c fr fc))):=
 sto h.z uP rfl (oZ k n s b' h' r c fr fc)
theorem RZ.ans {w u:World} (h:RZ w u) (es:Array Value) (he:es.size=9) {fn:Func} {p q:Tmp} (hr:fn.results=#[.cell p 188,.tmp q]) {tmps:Array Value} {v2:Value}
  (hp:tmps.getD p undef=pt w.heap.size) (hv:tmps.getD q undef=v2):(results fn tmps).run Tryz.prog (u.setRow w.heap.size es)=.ok (.tuple #[.agg es,v2]) (u.setRow w.heap.size es):=
 kF hr hp (setRow_heap _ _ _ es _ _ h.z) rfl Tryz.underlying188 (by rw [he];exact uP) hv
theorem RZ.fin {w u:World} (h:RZ w u) (es:Array Value):Below w.heap.size w (u.setRow w.heap.size es):=
 h.bel.grown (aL _ _ _) h.bel.size (fun k hk=>by cases hk;exact Nat.le_refl _)
theorem tV {w:World} (es:Array Value) (he:es.size=9) {fn:Func} {p q:Tmp} (hr:fn.results=#[.cell p 188,.tmp q]) {tmps:Array Value} {v2:Value}
  (hp:tmps.getD p undef=pt w.heap.size) (hv:tmps.getD q undef=v2):(results fn tmps).run Tryz.prog (w.alloc (.cells es 188))=.ok (.tuple #[.agg es,v2]) (w.alloc (.cells es 188)):=
 kF hr hp (heap_alloc_new w _) rfl Tryz.underlying188 (by rw [he];exact uP) hv
theorem drop_at (l:List UInt8) (k:Nat) (h:k < l.length):l.drop k=l[k]:: l.drop (k+1):=List.drop_eq_getElem_cons h
theorem aJT (l:List UInt8) (k:Nat) (h:k < l.length):(ba l).extract k (k+1)=ba [l[k]]:=by apply ByteArray.ext;simp [ba];have:=drop_at l k h;rw [this];rfl
theorem aJU (a b:List UInt8):ba a++ba b=ba (a++b):=nV a b
theorem aDe (l:List UInt8) (S:ByteArray) (hs:S.size=l.length) (HG:Hid (∀k (h:k < l.length) (h2:k < S.size),S[k]=l[k])) (HE:Hid (∀k (h:k < l.length),S.extract k (k+1)=ba [l[k]]))
  (hl:l.length<=255) (h1:1<=l.length) (w:World):Calls Tryz.prog 199 #[.string S] w (fH w l ((Tk.bX (l.drop 1)).map fun p=>(.str p.1,p.2))):=by
 generalize ho:(Tk.bX (l.drop 1)).map (fun p=>((.str p.1,p.2):Tk.Tok × List UInt8))=o;have HO:Hid ((Tk.bX (l.drop 1)).map (fun p=>((.str p.1,p.2):Tk.Tok × List UInt8))=o):=ho;clear ho;go_enter Tryz.func199,Tryz.ntmps199;go_wp2;go_loop [4,5] (fun t i=>∃(k:Nat) (acc:List UInt8),1<=k/\k<=l.length/\i=.int .i64 (k:Nat)/\t=.string (ba acc)/\acc.length<=k/\Hid (Tk.bX (l.drop 1)=(Tk.bX (l.drop k)).map fun p=>(acc++p.1,p.2))) (fun _ i=>l.length - (intOf i).toNat)
 case atStart=>exact⟨1,[],Nat.le_refl _,h1,rfl,rfl,Nat.zero_le _,by show _=_;cases Tk.bX (l.drop 1) <;> rfl⟩
 case round=>
  obtain⟨k,acc,hk1,hk,rfl,rfl,hacc,HQ⟩:=hrel;have hsa:(ba acc).size=acc.length:=size_mk acc;by_cases hlt:k < l.length
  ·have hki:(k:Int) < l.length:=by omega
   have hks:k < S.size:=by rw [hs];exact hlt
   have hg:=HG.out k hlt hks;have hd:=drop_at l k hlt;rcases eG S[k] 34 with ⟨h3,h4⟩ | ⟨h3,h4⟩
   ·rw [hg] at h3;rw [h3] at hd;have h4':((S[k].toNat:Int) !=34)=false:=by show (!((S[k].toNat:Int)==34))=false;rw [show ((S[k].toNat:Int)==34)=true from h4];rfl
    by_cases h5:k+1 < l.length
    ·have h5i:(k:Int)+1 < l.length:=by omega
     have h5s:k+1 < S.size:=by rw [hs];exact h5
     have hg2:=HG.out (k+1) h5 h5s;have hd2:=drop_at l (k+1) h5;rcases eG S[k+1] 34 with ⟨h6,h7⟩ | ⟨h6,h7⟩
     ·rw [hg2] at h6;rw [h6] at hd2;have HN:Hid (Tk.bX (l.drop 1)=(Tk.bX (l.drop (k+2))).map fun p=>((acc++ [34])++p.1,p.2)):=by show _=_;rw [HQ.out,hd,hd2,aCK];cases Tk.bX (l.drop (k+1+1)) <;> simp
      have hcc:ba acc++(⟨#[34]⟩:ByteArray)=ba (acc++ [34]):=aJU acc [34];have hno:¬9223372036854775807 < acc.length+1:=by omega
      have h7':((S[k+1].toNat:Int)==34)=true:=h7;have hl2:(acc++ [34]).length<=k+2:=by simp;omega
      clear h3 h4 h6 h7 hg hg2 hd hd2 HQ HO HG HE;obtain⟨C,hC⟩:∃C,C=ba (acc++ [34]):=⟨_,rfl⟩
      rw [<-hC] at hcc;have HC:Hid (C=ba (acc++ [34])):=hC;clear hC;generalize ba acc=B at *;go_wp2;go_round
      case rel=>exact⟨k+2,acc++ [34],by omega,by omega,by go_num,by rw [HC.out],hl2,HN⟩
      case measure=>simp [intOf];omega
     ·have HN:Hid (o=some (.str acc,l.drop (k+1))):=by show _=_;rw [hg2] at h6;rw [<-HO.out,HQ.out,hd,hd2,aBm (fun r e=>h6 (List.cons.inj e).1)];simp
      have h7':((S[k+1].toNat:Int)==34)=false:=h7;have HL:Hid (((l.length - (l.drop (k+1)).length:Nat):Int)=(k:Int)+1):=by show _=_;simp;omega
      clear h3 h4 h6 h7 hg hg2 hd hd2 HQ HO HG HE;obtain⟨B,hB⟩:∃B,B=ba acc:=⟨_,rfl⟩
      rw [<-hB] at hsa ⊢;have HB:Hid (B=ba acc):=hB;clear hB;go_wp2;refine bodyPost_ret (v:=.tuple #[.agg (tcs 2 0 B noB noB 0 0 false false),.int .i64 ((k:Int)+1)]) (tV (tcs 2 0 B noB noB 0 0 false false) rfl rfl rfl rfl) rfl ?_;rw [HN.out];exact⟨aD (Below.refl _ _) _,by show _=_;rw [HL.out,HB.out];rfl⟩
    ·have h5i:¬(k:Int)+1 < l.length:=by omega
     have hnil:l.drop (k+1)=[]:=List.drop_eq_nil_of_le (by omega);have HN:Hid (o=some (.str acc,l.drop (k+1))):=by show _=_;rw [<-HO.out,HQ.out,hd,hnil,aBm (fun r e=>by cases e)];simp
     have HL:Hid (((l.length - (l.drop (k+1)).length:Nat):Int)=(k:Int)+1):=by show _=_;simp;omega
     clear h3 h4 hg hd HQ HO HG HE hnil;obtain⟨B,hB⟩:∃B,B=ba acc:=⟨_,rfl⟩
     rw [<-hB] at hsa ⊢;have HB:Hid (B=ba acc):=hB;clear hB;go_wp2;refine bodyPost_ret (v:=.tuple #[.agg (tcs 2 0 B noB noB 0 0 false false),.int .i64 ((k:Int)+1)]) (tV (tcs 2 0 B noB noB 0 0 false false) rfl rfl rfl rfl) rfl ?_;rw [HN.out];exact⟨aD (Below.refl _ _) _,by show _=_;rw [HL.out,HB.out];rfl⟩
   ·have h4':((S[k].toNat:Int) !=34)=true:=by show (!((S[k].toNat:Int)==34))=true;rw [show ((S[k].toNat:Int)==34)=false from h4];rfl
    rw [hg] at h3;have hx:=HE.out k hlt;have aOv:(k:Int)+1<=l.length:=by omega
    have aP0:(k:Int)<=(k:Int)+1:=by omega
    have hq:=pG [l[k]] (l.drop (k+1)) (fun x hx=>by
     simp only [List.mem_singleton] at hx;subst hx;simpa [nq] using h3)
    have HN:Hid (Tk.bX (l.drop 1)=(Tk.bX (l.drop (k+1))).map fun p=>((acc++ [l[k]])++p.1,p.2)):=by show _=_;rw [HQ.out,hd,show l[k]:: l.drop (k+1)=[l[k]]++l.drop (k+1) from rfl,hq];cases Tk.bX (l.drop (k+1)) <;> simp
    have hno:¬9223372036854775807 < acc.length+1:=by omega
    have hl2:(acc++ [l[k]]).length<=k+1:=by simp;omega
    obtain⟨C,hC⟩:∃C,C=ba (acc++ [l[k]]):=⟨_,rfl⟩
    have hcc:ba acc++ba [l[k]]=C:=by rw [hC];exact aJU acc [l[k]]
    have HC:Hid (C=ba (acc++ [l[k]])):=hC;have hD:(ba [l[k]]).size=1:=size_mk _;clear h3 h4 hg hd HQ HO HG HE hC hq;generalize ba [l[k]]=D at *;obtain⟨B,hB⟩:∃B,B=ba acc:=⟨_,rfl⟩
    rw [<-hB] at hsa hcc ⊢;clear hB;go_wp2;go_round
    case rel=>exact⟨k+1,acc++ [l[k]],by omega,by omega,by go_num,by rw [HC.out],hl2,HN⟩
    case measure=>simp [intOf];omega
  ·have hki:¬(k:Int) < l.length:=by omega
   have HN:Hid (o=none):=by show _=_;rw [<-HO.out,HQ.out,List.drop_eq_nil_of_le (by omega)];rfl
   clear HQ HO HG HE;go_wp2;refine bodyPost_ret (v:=.tuple #[.agg tk0,.int .i64 0]) (tV tk0 rfl rfl rfl rfl) rfl ?_;rw [HN.out];exact⟨aD (Below.refl _ _) _,rfl⟩
theorem aEx (r:List UInt8) (hl:(34:: r).length<=255) (w:World):Calls Tryz.prog 199 #[.string (ba (34:: r))] w (fH w (34:: r) ((Tk.bX r).map fun p=>(.str p.1,p.2))):=
 aDe (34:: r) (ba (34:: r)) (size_mk _) (fun k h h2=>mZ _ k h h2) (fun k h=>aJT _ k h) hl (by simp) w
section
variable {w:World} {n p q1 n1 q2 n2:Nat} {S A1 A2 D Wd K B H:ByteArray} {r c:Int} {fr fc:Bool}
theorem aBF (hs:S.size=n)
  (hn:n<=255)
  (h0:0 < S.size)
  (h91:((S[0].toNat:Int)==91)=false)
  (hA1:S.extract 0 n=S)
  (RN1:∀u,CW 240 #[.string S] u (.int .i64 (n1:Nat)))
  (hle:n1<=n)
  (hlt:n1 < S.size)
  (h33:((S[n1].toNat:Int)==33)=true)
  (hA2:S.extract (n1+1) n=A2)
  (RN2:∀u,CW 240 #[.string A2] u (.int .i64 (q2:Nat)))
  (hn2:(n1:Int)+(1+(q2:Int))=(n2:Nat))
  (aNx:n2<=n)
  (hD:S.extract 0 n2=D)
  (PR:∀u,CR 241 #[.string D] u (.tuple #[dB B H r c fr fc,.bool false])):
  CR 200 #[.string S] w (.tuple #[.agg (tk0),.int .i64 0]):=by
 have HZ0:Hid (RZ w (w.alloc tkR)):=RZ.begin w;have i0:(n1:Int)<=n:=by omega
 have i1:(n1:Int) < n:=by omega
 have i2:(n1:Int)+1<=n:=by omega
 have i3:(n2:Int)<=n:=by omega
 go_enter Tryz.func200,Tryz.ntmps200;go_wp2_with (first|(go_at_call 240;refine mw (RN1 _) ?_;clear RN1)|(go_at_call 240;refine mw (RN2 _) ?_;clear RN2)|(go_at_call 241;refine (PR _).mono ?_;rintro e w5 ⟨rfl,hs5⟩;have HZ6:Hid (RZ w (w5.alloc (dP B H r c fr fc))):=(HZ0.out.below hs5).alloc _;have RR:=HZ6.out.put 0 0 noB noB noB 0 0 false false;clear hs5 HZ0)|(refine aB rfl 188 _ _ rfl _ _ _ rfl rfl RR.out ?_))
 exact bodyPost_ret (v:=.tuple #[.agg (tk0),.int .i64 0]) (HZ6.out.ans (tk0) rfl rfl rfl rfl) rfl ⟨rfl,HZ6.out.fin _⟩
theorem aAg (hs:S.size=n)
  (hn:n<=255)
  (h0:0 < S.size)
  (h91:((S[0].toNat:Int)==91)=false)
  (hA1:S.extract 0 n=S)
  (RN1:∀u,CW 240 #[.string S] u (.int .i64 (n1:Nat)))
  (hle:n1<=n)
  (hlt:n1 < S.size)
  (h33:((S[n1].toNat:Int)==33)=true)
  (hA2:S.extract (n1+1) n=A2)
  (RN2:∀u,CW 240 #[.string A2] u (.int .i64 (q2:Nat)))
  (hn2:(n1:Int)+(1+(q2:Int))=(n2:Nat))
  (aNx:n2<=n)
  (hD:S.extract 0 n2=D)
  (PR:∀u,CR 241 #[.string D] u (.tuple #[dB B H r c fr fc,.bool true])):
  CR 200 #[.string S] w (.tuple #[.agg (tcs 3 0 noB B H r c fr fc),.int .i64 (n2:Int)]):=by
 have HZ0:Hid (RZ w (w.alloc tkR)):=RZ.begin w;have i0:(n1:Int)<=n:=by omega
 have i1:(n1:Int) < n:=by omega
 have i2:(n1:Int)+1<=n:=by omega
 have i3:(n2:Int)<=n:=by omega
 go_enter Tryz.func200,Tryz.ntmps200;go_wp2_with (first|(go_at_call 240;refine mw (RN1 _) ?_;clear RN1)|(go_at_call 240;refine mw (RN2 _) ?_;clear RN2)|(go_at_call 241;refine (PR _).mono ?_;rintro e w5 ⟨rfl,hs5⟩;have HZ6:Hid (RZ w (w5.alloc (dP B H r c fr fc))):=(HZ0.out.below hs5).alloc _;have RR:=HZ6.out.put 3 0 noB B H r c fr fc;clear hs5 HZ0)|(refine aB rfl 188 _ _ rfl _ _ _ rfl rfl RR.out ?_))
 exact bodyPost_ret (v:=.tuple #[.agg (tcs 3 0 noB B H r c fr fc),.int .i64 (n2:Int)]) (HZ6.out.ans (tcs 3 0 noB B H r c fr fc) rfl rfl rfl rfl) rfl ⟨rfl,HZ6.out.fin _⟩
theorem aBG (hs:S.size=n)
  (hn:n<=255)
  (h0:0 < S.size)
  (h91:((S[0].toNat:Int)==91)=false)
  (hA1:S.extract 0 n=S)
  (RN1:∀u,CW 240 #[.string S] u (.int .i64 (n1:Nat)))
  (hle:n1<=n)
  (hlt:¬n1 < n)
  (hW:S.extract 0 n1=Wd)
  (CE:∀u,CR 242 #[.string Wd] u (.tuple #[dB B H r c fr fc,.bool true])):
  CR 200 #[.string S] w (.tuple #[.agg (tcs 3 0 noB B H r c fr fc),.int .i64 (n1:Int)]):=by
 have HZ0:Hid (RZ w (w.alloc tkR)):=RZ.begin w;have i0:(n1:Int)<=n:=by omega
 have i1:¬(n1:Int) < n:=by omega
 go_enter Tryz.func200,Tryz.ntmps200;go_wp2_with (first|(go_at_call 240;refine mw (RN1 _) ?_;clear RN1)|(go_at_call 242;refine (CE _).mono ?_;rintro e w5 ⟨rfl,hs5⟩;have HZ6:Hid (RZ w (w5.alloc (dP B H r c fr fc))):=(HZ0.out.below hs5).alloc _;have RR:=HZ6.out.put 3 0 noB B H r c fr fc;clear hs5 HZ0)|(refine aB rfl 188 _ _ rfl _ _ _ rfl rfl RR.out ?_))
 exact bodyPost_ret (v:=.tuple #[.agg (tcs 3 0 noB B H r c fr fc),.int .i64 (n1:Int)]) (HZ6.out.ans (tcs 3 0 noB B H r c fr fc) rfl rfl rfl rfl) rfl ⟨rfl,HZ6.out.fin _⟩
theorem aAh (hs:S.size=n)
  (hn:n<=255)
  (h0:0 < S.size)
  (h91:((S[0].toNat:Int)==91)=false)
  (hA1:S.extract 0 n=S)
  (RN1:∀u,CW 240 #[.string S] u (.int .i64 (n1:Nat)))
  (hle:n1<=n)
  (hlt:n1 < S.size)
  (h33:((S[n1].toNat:Int)==33)=false)
  (hW:S.extract 0 n1=Wd)
  (CE:∀u,CR 242 #[.string Wd] u (.tuple #[dB B H r c fr fc,.bool true])):
  CR 200 #[.string S] w (.tuple #[.agg (tcs 3 0 noB B H r c fr fc),.int .i64 (n1:Int)]):=by
 have HZ0:Hid (RZ w (w.alloc tkR)):=RZ.begin w;have i0:(n1:Int)<=n:=by omega
 have i1:(n1:Int) < n:=by omega
 go_enter Tryz.func200,Tryz.ntmps200;go_wp2_with (first|(go_at_call 240;refine mw (RN1 _) ?_;clear RN1)|(go_at_call 242;refine (CE _).mono ?_;rintro e w5 ⟨rfl,hs5⟩;have HZ6:Hid (RZ w (w5.alloc (dP B H r c fr fc))):=(HZ0.out.below hs5).alloc _;have RR:=HZ6.out.put 3 0 noB B H r c fr fc;clear hs5 HZ0)|(refine aB rfl 188 _ _ rfl _ _ _ rfl rfl RR.out ?_))
 exact bodyPost_ret (v:=.tuple #[.agg (tcs 3 0 noB B H r c fr fc),.int .i64 (n1:Int)]) (HZ6.out.ans (tcs 3 0 noB B H r c fr fc) rfl rfl rfl rfl) rfl ⟨rfl,HZ6.out.fin _⟩
end
section
variable {w:World} {n p q1 n1 q2 n2:Nat} {S A1 A2 D Wd K B H:ByteArray} {r c:Int} {fr fc:Bool}
theorem wO (hs:S.size=n)
  (hn:n<=255)
  (h0:0 < S.size)
  (h91:((S[0].toNat:Int)==91)=false)
  (hA1:S.extract 0 n=S)
  (RN1:∀u,CW 240 #[.string S] u (.int .i64 (n1:Nat)))
  (hle:n1<=n)
  (hlt:¬n1 < n)
  (hW:S.extract 0 n1=Wd)
  (CE:∀u,CR 242 #[.string Wd] u (.tuple #[dB B H r c fr fc,.bool false]))
  (WD:∀u,CR 243 #[.string Wd,.bool false] u (.bool false)):
  CR 200 #[.string S] w (.tuple #[.agg (tk0),.int .i64 0]):=by
 have HZ0:Hid (RZ w (w.alloc tkR)):=RZ.begin w;have i0:(n1:Int)<=n:=by omega
 have i1:¬(n1:Int) < n:=by omega
 go_enter Tryz.func200,Tryz.ntmps200;go_wp2_with (first|(go_at_call 240;refine mw (RN1 _) ?_;clear RN1)|(go_at_call 242;refine (CE _).mono ?_;rintro e w5 ⟨rfl,hs5⟩;have HZ6:Hid (RZ w (w5.alloc (dP B H r c fr fc))):=(HZ0.out.below hs5).alloc _;clear hs5 HZ0)|(go_at_call 243;refine (WD _).mono ?_;rintro e w7 ⟨rfl,hs7⟩;have HZ7:Hid (RZ w w7):=HZ6.out.below hs7;have RR:=HZ7.out.put 0 0 noB noB noB 0 0 false false;clear hs7 HZ6)|(refine aB rfl 188 _ _ rfl _ _ _ rfl rfl RR.out ?_))
 exact bodyPost_ret (v:=.tuple #[.agg (tk0),.int .i64 0]) (HZ7.out.ans (tk0) rfl rfl rfl rfl) rfl ⟨rfl,HZ7.out.fin _⟩
theorem vK (hs:S.size=n)
  (hn:n<=255)
  (h0:0 < S.size)
  (h91:((S[0].toNat:Int)==91)=false)
  (hA1:S.extract 0 n=S)
  (RN1:∀u,CW 240 #[.string S] u (.int .i64 (n1:Nat)))
  (hle:n1<=n)
  (hlt:n1 < S.size)
  (h33:((S[n1].toNat:Int)==33)=false)
  (hW:S.extract 0 n1=Wd)
  (CE:∀u,CR 242 #[.string Wd] u (.tuple #[dB B H r c fr fc,.bool false]))
  (WD:∀u,CR 243 #[.string Wd,.bool false] u (.bool false)):
  CR 200 #[.string S] w (.tuple #[.agg (tk0),.int .i64 0]):=by
 have HZ0:Hid (RZ w (w.alloc tkR)):=RZ.begin w;have i0:(n1:Int)<=n:=by omega
 have i1:(n1:Int) < n:=by omega
 go_enter Tryz.func200,Tryz.ntmps200;go_wp2_with (first|(go_at_call 240;refine mw (RN1 _) ?_;clear RN1)|(go_at_call 242;refine (CE _).mono ?_;rintro e w5 ⟨rfl,hs5⟩;have HZ6:Hid (RZ w (w5.alloc (dP B H r c fr fc))):=(HZ0.out.below hs5).alloc _;clear hs5 HZ0)|(go_at_call 243;refine (WD _).mono ?_;rintro e w7 ⟨rfl,hs7⟩;have HZ7:Hid (RZ w w7):=HZ6.out.below hs7;have RR:=HZ7.out.put 0 0 noB noB noB 0 0 false false;clear hs7 HZ6)|(refine aB rfl 188 _ _ rfl _ _ _ rfl rfl RR.out ?_))
 exact bodyPost_ret (v:=.tuple #[.agg (tk0),.int .i64 0]) (HZ7.out.ans (tk0) rfl rfl rfl rfl) rfl ⟨rfl,HZ7.out.fin _⟩
theorem vL (hs:S.size=n)
  (hn:n<=255)
  (h0:0 < S.size)
  (h91:((S[0].toNat:Int)==91)=false)
  (hA1:S.extract 0 n=S)
  (RN1:∀u,CW 240 #[.string S] u (.int .i64 (n1:Nat)))
  (hle:n1<=n)
  (hlt:¬n1 < n)
  (hW:S.extract 0 n1=Wd)
  (CE:∀u,CR 242 #[.string Wd] u (.tuple #[dB B H r c fr fc,.bool false]))
  (WD:∀u,CR 243 #[.string Wd,.bool false] u (.bool true)):
  CR 200 #[.string S] w (.tuple #[.agg (tcs 4 0 Wd noB noB 0 0 false false),.int .i64 (n1:Int)]):=by
 have HZ0:Hid (RZ w (w.alloc tkR)):=RZ.begin w;have i0:(n1:Int)<=n:=by omega
 have i1:¬(n1:Int) < n:=by omega
 go_enter Tryz.func200,Tryz.ntmps200;go_wp2_with (first|(go_at_call 240;refine mw (RN1 _) ?_;clear RN1)|(go_at_call 242;refine (CE _).mono ?_;rintro e w5 ⟨rfl,hs5⟩;have HZ6:Hid (RZ w (w5.alloc (dP B H r c fr fc))):=(HZ0.out.below hs5).alloc _;clear hs5 HZ0)|(go_at_call 243;refine (WD _).mono ?_;rintro e w7 ⟨rfl,hs7⟩;have HZ7:Hid (RZ w w7):=HZ6.out.below hs7;have RR:=HZ7.out.put 4 0 Wd noB noB 0 0 false false;clear hs7 HZ6)|(refine aB rfl 188 _ _ rfl _ _ _ rfl rfl RR.out ?_))
 exact bodyPost_ret (v:=.tuple #[.agg (tcs 4 0 Wd noB noB 0 0 false false),.int .i64 (n1:Int)]) (HZ7.out.ans (tcs 4 0 Wd noB noB 0 0 false false) rfl rfl rfl rfl) rfl ⟨rfl,HZ7.out.fin _⟩
theorem tX (hs:S.size=n)
  (hn:n<=255)
  (h0:0 < S.size)
  (h91:((S[0].toNat:Int)==91)=false)
  (hA1:S.extract 0 n=S)
  (RN1:∀u,CW 240 #[.string S] u (.int .i64 (n1:Nat)))
  (hle:n1<=n)
  (hlt:n1 < S.size)
  (h33:((S[n1].toNat:Int)==33)=false)
  (hW:S.extract 0 n1=Wd)
  (CE:∀u,CR 242 #[.string Wd] u (.tuple #[dB B H r c fr fc,.bool false]))
  (WD:∀u,CR 243 #[.string Wd,.bool false] u (.bool true)):
  CR 200 #[.string S] w (.tuple #[.agg (tcs 4 0 Wd noB noB 0 0 false false),.int .i64 (n1:Int)]):=by
 have HZ0:Hid (RZ w (w.alloc tkR)):=RZ.begin w;have i0:(n1:Int)<=n:=by omega
 have i1:(n1:Int) < n:=by omega
 go_enter Tryz.func200,Tryz.ntmps200;go_wp2_with (first|(go_at_call 240;refine mw (RN1 _) ?_;clear RN1)|(go_at_call 242;refine (CE _).mono ?_;rintro e w5 ⟨rfl,hs5⟩;have HZ6:Hid (RZ w (w5.alloc (dP B H r c fr fc))):=(HZ0.out.below hs5).alloc _;clear hs5 HZ0)|(go_at_call 243;refine (WD _).mono ?_;rintro e w7 ⟨rfl,hs7⟩;have HZ7:Hid (RZ w w7):=HZ6.out.below hs7;have RR:=HZ7.out.put 4 0 Wd noB noB 0 0 false false;clear hs7 HZ6)|(refine aB rfl 188 _ _ rfl _ _ _ rfl rfl RR.out ?_))
 exact bodyPost_ret (v:=.tuple #[.agg (tcs 4 0 Wd noB noB 0 0 false false),.int .i64 (n1:Int)]) (HZ7.out.ans (tcs 4 0 Wd noB noB 0 0 false false) rfl rfl rfl rfl) rfl ⟨rfl,HZ7.out.fin _⟩
end
section
variable {w:World} {n p q1 n1 q2 n2:Nat} {S A1 A2 D Wd K B H:ByteArray} {r c:Int} {fr fc:Bool}
theorem aBH (hs:S.size=n)
  (hn:n<=255)
  (h0:0 < S.size)
  (h91:((S[0].toNat:Int)==91)=true)
  {k0:Nat}
  (k1:1<=k0)
  (k2:k0 < S.size)
  (hk:Hid (∀k,1<=k->k < k0->∀h:k < S.size,((S[k].toNat:Int) !=93)=true))
  (hk0:((S[k0].toNat:Int) !=93)=false)
  (hK:S.extract 1 k0=K)
  (hKe:(K.toList==[])=false)
  (RG:∀u,CR 48 #[.string K] u (.bool true))
  (hp:(k0:Int)+1=(p:Nat))
  (hpn:p<=n)
  (hA1:S.extract p n=A1)
  (RN1:∀u,CW 240 #[.string A1] u (.int .i64 (q1:Nat)))
  (hn1:(p:Int)+(q1:Int)=(n1:Nat))
  (hle:n1<=n)
  (hlt:n1 < S.size)
  (h33:((S[n1].toNat:Int)==33)=true)
  (hA2:S.extract (n1+1) n=A2)
  (RN2:∀u,CW 240 #[.string A2] u (.int .i64 (q2:Nat)))
  (hn2:(n1:Int)+(1+(q2:Int))=(n2:Nat))
  (aNx:n2<=n)
  (hD:S.extract 0 n2=D)
  (PR:∀u,CR 241 #[.string D] u (.tuple #[dB B H r c fr fc,.bool false])):
  CR 200 #[.string S] w (.tuple #[.agg (tk0),.int .i64 0]):=by
 have HZ0:Hid (RZ w (w.alloc tkR)):=RZ.begin w;have i0:(n1:Int)<=n:=by omega
 have i1:(n1:Int) < n:=by omega
 have i2:(n1:Int)+1<=n:=by omega
 have i3:(n2:Int)<=n:=by omega
 have i4:(p:Int)<=n:=by omega
 have j1:(k0:Int) < n:=by omega
 have j2:((k0:Int)==(n:Int))=false:=by simp;omega
 have j3:(1:Int)<=k0:=by omega
 have j4:(k0:Int)<=n:=by omega
 go_enter Tryz.func200,Tryz.ntmps200;go_wp2;go_loop [6] (fun i=>∃k:Nat,1<=k/\k<=k0/\i=.int .i64 (k:Nat)) (fun i=>k0 - (intOf i).toNat)
 case atStart=>exact⟨1,Nat.le_refl _,k1,rfl⟩
 case round=>
  obtain⟨k,hk1,hk2,rfl⟩:=hrel;by_cases hlk:k < k0
  ·have g1:(k:Int) < n:=by omega
   have g2:k < S.size:=by omega
   have g3:=hk.out k hk1 hlk g2;clear hk RN1 RG;go_wp2;go_round
   case rel=>exact⟨k+1,by omega,by omega,by go_num⟩
   case measure=>simp [intOf];omega
  ·obtain rfl:k=k0:=by omega
   clear hk hlk;go_wp2_with (first|(go_at_call 48;refine (RG _).mono ?_;rintro e w4 ⟨rfl,hs4⟩;have HZ4:Hid (RZ w w4):=HZ0.out.below hs4;clear hs4 HZ0 RG)|(go_at_call 240;refine mw (RN1 _) ?_;clear RN1)|(go_at_call 240;refine mw (RN2 _) ?_;clear RN2)|(go_at_call 241;refine (PR _).mono ?_;rintro e w5 ⟨rfl,hs5⟩;have HZ6:Hid (RZ w (w5.alloc (dP B H r c fr fc))):=(HZ4.out.below hs5).alloc _;have RR:=HZ6.out.put 0 0 noB noB noB 0 0 false false;clear hs5 HZ4)|(refine aB rfl 188 _ _ rfl _ _ _ rfl rfl RR.out ?_))
   exact bodyPost_ret (v:=.tuple #[.agg (tk0),.int .i64 0]) (HZ6.out.ans (tk0) rfl rfl rfl rfl) rfl ⟨rfl,HZ6.out.fin _⟩
theorem aAi (hs:S.size=n)
  (hn:n<=255)
  (h0:0 < S.size)
  (h91:((S[0].toNat:Int)==91)=true)
  {k0:Nat}
  (k1:1<=k0)
  (k2:k0 < S.size)
  (hk:Hid (∀k,1<=k->k < k0->∀h:k < S.size,((S[k].toNat:Int) !=93)=true))
  (hk0:((S[k0].toNat:Int) !=93)=false)
  (hK:S.extract 1 k0=K)
  (hKe:(K.toList==[])=false)
  (RG:∀u,CR 48 #[.string K] u (.bool true))
  (hp:(k0:Int)+1=(p:Nat))
  (hpn:p<=n)
  (hA1:S.extract p n=A1)
  (RN1:∀u,CW 240 #[.string A1] u (.int .i64 (q1:Nat)))
  (hn1:(p:Int)+(q1:Int)=(n1:Nat))
  (hle:n1<=n)
  (hlt:n1 < S.size)
  (h33:((S[n1].toNat:Int)==33)=true)
  (hA2:S.extract (n1+1) n=A2)
  (RN2:∀u,CW 240 #[.string A2] u (.int .i64 (q2:Nat)))
  (hn2:(n1:Int)+(1+(q2:Int))=(n2:Nat))
  (aNx:n2<=n)
  (hD:S.extract 0 n2=D)
  (PR:∀u,CR 241 #[.string D] u (.tuple #[dB B H r c fr fc,.bool true])):
  CR 200 #[.string S] w (.tuple #[.agg (tcs 3 0 noB B H r c fr fc),.int .i64 (n2:Int)]):=by
 have HZ0:Hid (RZ w (w.alloc tkR)):=RZ.begin w;have i0:(n1:Int)<=n:=by omega
 have i1:(n1:Int) < n:=by omega
 have i2:(n1:Int)+1<=n:=by omega
 have i3:(n2:Int)<=n:=by omega
 have i4:(p:Int)<=n:=by omega
 have j1:(k0:Int) < n:=by omega
 have j2:((k0:Int)==(n:Int))=false:=by simp;omega
 have j3:(1:Int)<=k0:=by omega
 have j4:(k0:Int)<=n:=by omega
 go_enter Tryz.func200,Tryz.ntmps200;go_wp2;go_loop [6] (fun i=>∃k:Nat,1<=k/\k<=k0/\i=.int .i64 (k:Nat)) (fun i=>k0 - (intOf i).toNat)
 case atStart=>exact⟨1,Nat.le_refl _,k1,rfl⟩
 case round=>
  obtain⟨k,hk1,hk2,rfl⟩:=hrel;by_cases hlk:k < k0
  ·have g1:(k:Int) < n:=by omega
   have g2:k < S.size:=by omega
   have g3:=hk.out k hk1 hlk g2;clear hk RN1 RG;go_wp2;go_round
   case rel=>exact⟨k+1,by omega,by omega,by go_num⟩
   case measure=>simp [intOf];omega
  ·obtain rfl:k=k0:=by omega
   clear hk hlk;go_wp2_with (first|(go_at_call 48;refine (RG _).mono ?_;rintro e w4 ⟨rfl,hs4⟩;have HZ4:Hid (RZ w w4):=HZ0.out.below hs4;clear hs4 HZ0 RG)|(go_at_call 240;refine mw (RN1 _) ?_;clear RN1)|(go_at_call 240;refine mw (RN2 _) ?_;clear RN2)|(go_at_call 241;refine (PR _).mono ?_;rintro e w5 ⟨rfl,hs5⟩;have HZ6:Hid (RZ w (w5.alloc (dP B H r c fr fc))):=(HZ4.out.below hs5).alloc _;have RR:=HZ6.out.put 3 0 noB B H r c fr fc;clear hs5 HZ4)|(refine aB rfl 188 _ _ rfl _ _ _ rfl rfl RR.out ?_))
   exact bodyPost_ret (v:=.tuple #[.agg (tcs 3 0 noB B H r c fr fc),.int .i64 (n2:Int)]) (HZ6.out.ans (tcs 3 0 noB B H r c fr fc) rfl rfl rfl rfl) rfl ⟨rfl,HZ6.out.fin _⟩
end
section
variable {w:World} {n p q1 n1 q2 n2:Nat} {S A1 A2 D Wd K B H:ByteArray} {r c:Int} {fr fc:Bool}
theorem wP (hs:S.size=n)
  (hn:n<=255)
  (h0:0 < S.size)
  (h91:((S[0].toNat:Int)==91)=true)
  {k0:Nat}
  (k1:1<=k0)
  (k2:k0 < S.size)
  (hk:Hid (∀k,1<=k->k < k0->∀h:k < S.size,((S[k].toNat:Int) !=93)=true))
  (hk0:((S[k0].toNat:Int) !=93)=false)
  (hK:S.extract 1 k0=K)
  (hKe:(K.toList==[])=false)
  (RG:∀u,CR 48 #[.string K] u (.bool true))
  (hp:(k0:Int)+1=(p:Nat))
  (hpn:p<=n)
  (hA1:S.extract p n=A1)
  (RN1:∀u,CW 240 #[.string A1] u (.int .i64 (q1:Nat)))
  (hn1:(p:Int)+(q1:Int)=(n1:Nat))
  (hle:n1<=n)
  (hlt:¬n1 < n)
  (aNy:p<=n1)
  (hW:S.extract p n1=Wd)
  {ok:Bool}
  (CE:∀u,CR 242 #[.string Wd] u (.tuple #[dB B H r c fr fc,.bool ok]))
  (WD:∀u,CR 243 #[.string Wd,.bool true] u (.bool false)):
  CR 200 #[.string S] w (.tuple #[.agg (tk0),.int .i64 0]):=by
 have HZ0:Hid (RZ w (w.alloc tkR)):=RZ.begin w;have i0:(n1:Int)<=n:=by omega
 have i1:¬(n1:Int) < n:=by omega
 have i4:(p:Int)<=n:=by omega
 have i5:(p:Int)<=n1:=by omega
 have j1:(k0:Int) < n:=by omega
 have j2:((k0:Int)==(n:Int))=false:=by simp;omega
 have j3:(1:Int)<=k0:=by omega
 have j4:(k0:Int)<=n:=by omega
 go_enter Tryz.func200,Tryz.ntmps200;go_wp2;go_loop [6] (fun i=>∃k:Nat,1<=k/\k<=k0/\i=.int .i64 (k:Nat)) (fun i=>k0 - (intOf i).toNat)
 case atStart=>exact⟨1,Nat.le_refl _,k1,rfl⟩
 case round=>
  obtain⟨k,hk1,hk2,rfl⟩:=hrel;by_cases hlk:k < k0
  ·have g1:(k:Int) < n:=by omega
   have g2:k < S.size:=by omega
   have g3:=hk.out k hk1 hlk g2;clear hk RN1 RG;go_wp2;go_round
   case rel=>exact⟨k+1,by omega,by omega,by go_num⟩
   case measure=>simp [intOf];omega
  ·obtain rfl:k=k0:=by omega
   clear hk hlk;cases ok
   all_goals
    go_wp2_with (first|(go_at_call 48;refine (RG _).mono ?_;rintro e w4 ⟨rfl,hs4⟩;have HZ4:Hid (RZ w w4):=HZ0.out.below hs4;clear hs4 HZ0 RG)|(go_at_call 240;refine mw (RN1 _) ?_;clear RN1)|(go_at_call 242;refine (CE _).mono ?_;rintro e w5 ⟨rfl,hs5⟩;have HZ6:Hid (RZ w (w5.alloc (dP B H r c fr fc))):=(HZ4.out.below hs5).alloc _;clear hs5 HZ4)|(go_at_call 243;refine (WD _).mono ?_;rintro e w7 ⟨rfl,hs7⟩;have HZ7:Hid (RZ w w7):=HZ6.out.below hs7;have RR:=HZ7.out.put 0 0 noB noB noB 0 0 false false;clear hs7 HZ6)|(refine aB rfl 188 _ _ rfl _ _ _ rfl rfl RR.out ?_))
    exact bodyPost_ret (v:=.tuple #[.agg (tk0),.int .i64 0]) (HZ7.out.ans (tk0) rfl rfl rfl rfl) rfl ⟨rfl,HZ7.out.fin _⟩
theorem vM (hs:S.size=n)
  (hn:n<=255)
  (h0:0 < S.size)
  (h91:((S[0].toNat:Int)==91)=true)
  {k0:Nat}
  (k1:1<=k0)
  (k2:k0 < S.size)
  (hk:Hid (∀k,1<=k->k < k0->∀h:k < S.size,((S[k].toNat:Int) !=93)=true))
  (hk0:((S[k0].toNat:Int) !=93)=false)
  (hK:S.extract 1 k0=K)
  (hKe:(K.toList==[])=false)
  (RG:∀u,CR 48 #[.string K] u (.bool true))
  (hp:(k0:Int)+1=(p:Nat))
  (hpn:p<=n)
  (hA1:S.extract p n=A1)
  (RN1:∀u,CW 240 #[.string A1] u (.int .i64 (q1:Nat)))
  (hn1:(p:Int)+(q1:Int)=(n1:Nat))
  (hle:n1<=n)
  (hlt:n1 < S.size)
  (h33:((S[n1].toNat:Int)==33)=false)
  (aNy:p<=n1)
  (hW:S.extract p n1=Wd)
  {ok:Bool}
  (CE:∀u,CR 242 #[.string Wd] u (.tuple #[dB B H r c fr fc,.bool ok]))
  (WD:∀u,CR 243 #[.string Wd,.bool true] u (.bool false)):
  CR 200 #[.string S] w (.tuple #[.agg (tk0),.int .i64 0]):=by
 have HZ0:Hid (RZ w (w.alloc tkR)):=RZ.begin w;have i0:(n1:Int)<=n:=by omega
 have i1:(n1:Int) < n:=by omega
 have i4:(p:Int)<=n:=by omega
 have i5:(p:Int)<=n1:=by omega
 have j1:(k0:Int) < n:=by omega
 have j2:((k0:Int)==(n:Int))=false:=by simp;omega
 have j3:(1:Int)<=k0:=by omega
 have j4:(k0:Int)<=n:=by omega
 go_enter Tryz.func200,Tryz.ntmps200;go_wp2;go_loop [6] (fun i=>∃k:Nat,1<=k/\k<=k0/\i=.int .i64 (k:Nat)) (fun i=>k0 - (intOf i).toNat)
 case atStart=>exact⟨1,Nat.le_refl _,k1,rfl⟩
 case round=>
  obtain⟨k,hk1,hk2,rfl⟩:=hrel;by_cases hlk:k < k0
  ·have g1:(k:Int) < n:=by omega
   have g2:k < S.size:=by omega
   have g3:=hk.out k hk1 hlk g2;clear hk RN1 RG;go_wp2;go_round
   case rel=>exact⟨k+1,by omega,by omega,by go_num⟩
   case measure=>simp [intOf];omega
  ·obtain rfl:k=k0:=by omega
   clear hk hlk;cases ok
   all_goals
    go_wp2_with (first|(go_at_call 48;refine (RG _).mono ?_;rintro e w4 ⟨rfl,hs4⟩;have HZ4:Hid (RZ w w4):=HZ0.out.below hs4;clear hs4 HZ0 RG)|(go_at_call 240;refine mw (RN1 _) ?_;clear RN1)|(go_at_call 242;refine (CE _).mono ?_;rintro e w5 ⟨rfl,hs5⟩;have HZ6:Hid (RZ w (w5.alloc (dP B H r c fr fc))):=(HZ4.out.below hs5).alloc _;clear hs5 HZ4)|(go_at_call 243;refine (WD _).mono ?_;rintro e w7 ⟨rfl,hs7⟩;have HZ7:Hid (RZ w w7):=HZ6.out.below hs7;have RR:=HZ7.out.put 0 0 noB noB noB 0 0 false false;clear hs7 HZ6)|(refine aB rfl 188 _ _ rfl _ _ _ rfl rfl RR.out ?_))
    exact bodyPost_ret (v:=.tuple #[.agg (tk0),.int .i64 0]) (HZ7.out.ans (tk0) rfl rfl rfl rfl) rfl ⟨rfl,HZ7.out.fin _⟩
end
section
variable {w:World} {n p q1 n1 q2 n2:Nat} {S A1 A2 D Wd K B H:ByteArray} {r c:Int} {fr fc:Bool}
theorem vN (hs:S.size=n)
  (hn:n<=255)
  (h0:0 < S.size)
  (h91:((S[0].toNat:Int)==91)=true)
  {k0:Nat}
  (k1:1<=k0)
  (k2:k0 < S.size)
  (hk:Hid (∀k,1<=k->k < k0->∀h:k < S.size,((S[k].toNat:Int) !=93)=true))
  (hk0:((S[k0].toNat:Int) !=93)=false)
  (hK:S.extract 1 k0=K)
  (hKe:(K.toList==[])=false)
  (RG:∀u,CR 48 #[.string K] u (.bool true))
  (hp:(k0:Int)+1=(p:Nat))
  (hpn:p<=n)
  (hA1:S.extract p n=A1)
  (RN1:∀u,CW 240 #[.string A1] u (.int .i64 (q1:Nat)))
  (hn1:(p:Int)+(q1:Int)=(n1:Nat))
  (hle:n1<=n)
  (hlt:¬n1 < n)
  (aNy:p<=n1)
  (hW:S.extract p n1=Wd)
  {ok:Bool}
  (CE:∀u,CR 242 #[.string Wd] u (.tuple #[dB B H r c fr fc,.bool ok]))
  (WD:∀u,CR 243 #[.string Wd,.bool true] u (.bool true)):
  CR 200 #[.string S] w (.tuple #[.agg (tcs 4 0 Wd K noB 0 0 false false),.int .i64 (n1:Int)]):=by
 have HZ0:Hid (RZ w (w.alloc tkR)):=RZ.begin w;have i0:(n1:Int)<=n:=by omega
 have i1:¬(n1:Int) < n:=by omega
 have i4:(p:Int)<=n:=by omega
 have i5:(p:Int)<=n1:=by omega
 have j1:(k0:Int) < n:=by omega
 have j2:((k0:Int)==(n:Int))=false:=by simp;omega
 have j3:(1:Int)<=k0:=by omega
 have j4:(k0:Int)<=n:=by omega
 go_enter Tryz.func200,Tryz.ntmps200;go_wp2;go_loop [6] (fun i=>∃k:Nat,1<=k/\k<=k0/\i=.int .i64 (k:Nat)) (fun i=>k0 - (intOf i).toNat)
 case atStart=>exact⟨1,Nat.le_refl _,k1,rfl⟩
 case round=>
  obtain⟨k,hk1,hk2,rfl⟩:=hrel;by_cases hlk:k < k0
  ·have g1:(k:Int) < n:=by omega
   have g2:k < S.size:=by omega
   have g3:=hk.out k hk1 hlk g2;clear hk RN1 RG;go_wp2;go_round
   case rel=>exact⟨k+1,by omega,by omega,by go_num⟩
   case measure=>simp [intOf];omega
  ·obtain rfl:k=k0:=by omega
   clear hk hlk;cases ok
   all_goals
    go_wp2_with (first|(go_at_call 48;refine (RG _).mono ?_;rintro e w4 ⟨rfl,hs4⟩;have HZ4:Hid (RZ w w4):=HZ0.out.below hs4;clear hs4 HZ0 RG)|(go_at_call 240;refine mw (RN1 _) ?_;clear RN1)|(go_at_call 242;refine (CE _).mono ?_;rintro e w5 ⟨rfl,hs5⟩;have HZ6:Hid (RZ w (w5.alloc (dP B H r c fr fc))):=(HZ4.out.below hs5).alloc _;clear hs5 HZ4)|(go_at_call 243;refine (WD _).mono ?_;rintro e w7 ⟨rfl,hs7⟩;have HZ7:Hid (RZ w w7):=HZ6.out.below hs7;have RR:=HZ7.out.put 4 0 Wd K noB 0 0 false false;clear hs7 HZ6)|(refine aB rfl 188 _ _ rfl _ _ _ rfl rfl RR.out ?_))
    exact bodyPost_ret (v:=.tuple #[.agg (tcs 4 0 Wd K noB 0 0 false false),.int .i64 (n1:Int)]) (HZ7.out.ans (tcs 4 0 Wd K noB 0 0 false false) rfl rfl rfl rfl) rfl ⟨rfl,HZ7.out.fin _⟩
theorem tY (hs:S.size=n)
  (hn:n<=255)
  (h0:0 < S.size)
  (h91:((S[0].toNat:Int)==91)=true)
  {k0:Nat}
  (k1:1<=k0)
  (k2:k0 < S.size)
  (hk:Hid (∀k,1<=k->k < k0->∀h:k < S.size,((S[k].toNat:Int) !=93)=true))
  (hk0:((S[k0].toNat:Int) !=93)=false)
  (hK:S.extract 1 k0=K)
  (hKe:(K.toList==[])=false)
  (RG:∀u,CR 48 #[.string K] u (.bool true))
  (hp:(k0:Int)+1=(p:Nat))
  (hpn:p<=n)
  (hA1:S.extract p n=A1)
  (RN1:∀u,CW 240 #[.string A1] u (.int .i64 (q1:Nat)))
  (hn1:(p:Int)+(q1:Int)=(n1:Nat))
  (hle:n1<=n)
  (hlt:n1 < S.size)
  (h33:((S[n1].toNat:Int)==33)=false)
  (aNy:p<=n1)
  (hW:S.extract p n1=Wd)
  {ok:Bool}
  (CE:∀u,CR 242 #[.string Wd] u (.tuple #[dB B H r c fr fc,.bool ok]))
  (WD:∀u,CR 243 #[.string Wd,.bool true] u (.bool true)):
  CR 200 #[.string S] w (.tuple #[.agg (tcs 4 0 Wd K noB 0 0 false false),.int .i64 (n1:Int)]):=by
 have HZ0:Hid (RZ w (w.alloc tkR)):=RZ.begin w;have i0:(n1:Int)<=n:=by omega
 have i1:(n1:Int) < n:=by omega
 have i4:(p:Int)<=n:=by omega
 have i5:(p:Int)<=n1:=by omega
 have j1:(k0:Int) < n:=by omega
 have j2:((k0:Int)==(n:Int))=false:=by simp;omega
 have j3:(1:Int)<=k0:=by omega
 have j4:(k0:Int)<=n:=by omega
 go_enter Tryz.func200,Tryz.ntmps200;go_wp2;go_loop [6] (fun i=>∃k:Nat,1<=k/\k<=k0/\i=.int .i64 (k:Nat)) (fun i=>k0 - (intOf i).toNat)
 case atStart=>exact⟨1,Nat.le_refl _,k1,rfl⟩
 case round=>
  obtain⟨k,hk1,hk2,rfl⟩:=hrel;by_cases hlk:k < k0
  ·have g1:(k:Int) < n:=by omega
   have g2:k < S.size:=by omega
   have g3:=hk.out k hk1 hlk g2;clear hk RN1 RG;go_wp2;go_round
   case rel=>exact⟨k+1,by omega,by omega,by go_num⟩
   case measure=>simp [intOf];omega
  ·obtain rfl:k=k0:=by omega
   clear hk hlk;cases ok
   all_goals
    go_wp2_with (first|(go_at_call 48;refine (RG _).mono ?_;rintro e w4 ⟨rfl,hs4⟩;have HZ4:Hid (RZ w w4):=HZ0.out.below hs4;clear hs4 HZ0 RG)|(go_at_call 240;refine mw (RN1 _) ?_;clear RN1)|(go_at_call 242;refine (CE _).mono ?_;rintro e w5 ⟨rfl,hs5⟩;have HZ6:Hid (RZ w (w5.alloc (dP B H r c fr fc))):=(HZ4.out.below hs5).alloc _;clear hs5 HZ4)|(go_at_call 243;refine (WD _).mono ?_;rintro e w7 ⟨rfl,hs7⟩;have HZ7:Hid (RZ w w7):=HZ6.out.below hs7;have RR:=HZ7.out.put 4 0 Wd K noB 0 0 false false;clear hs7 HZ6)|(refine aB rfl 188 _ _ rfl _ _ _ rfl rfl RR.out ?_))
    exact bodyPost_ret (v:=.tuple #[.agg (tcs 4 0 Wd K noB 0 0 false false),.int .i64 (n1:Int)]) (HZ7.out.ans (tcs 4 0 Wd K noB 0 0 false false) rfl rfl rfl rfl) rfl ⟨rfl,HZ7.out.fin _⟩
end
section
variable {w:World} {n p q1 n1 q2 n2:Nat} {S A1 A2 D Wd K B H:ByteArray} {r c:Int} {fr fc:Bool}
theorem aJV (hs:S.size=n) (hn:n<=255) (h0:0 < S.size) (h91:((S[0].toNat:Int)==91)=true) {k0:Nat} (k1:1<=k0) (k2:k0=n) (hk:Hid (∀k,1<=k->k < k0->∀h:k < S.size,((S[k].toNat:Int) !=93)=true)):
  CR 200 #[.string S] w (.tuple #[.agg tk0,.int .i64 0]):=by
 have HZ0:Hid (RZ w (w.alloc tkR)):=RZ.begin w;have j1:¬(k0:Int) < n:=by omega
 have j2:((k0:Int)==(n:Int))=true:=by simp;omega
 go_enter Tryz.func200,Tryz.ntmps200;go_wp2;go_loop [6] (fun i=>∃k:Nat,1<=k/\k<=k0/\i=.int .i64 (k:Nat)) (fun i=>k0 - (intOf i).toNat)
 case atStart=>exact⟨1,Nat.le_refl _,k1,rfl⟩
 case round=>
  obtain⟨k,hk1,hk2,rfl⟩:=hrel;by_cases hlk:k < k0
  ·have g1:(k:Int) < n:=by omega
   have g2:k < S.size:=by omega
   have g3:=hk.out k hk1 hlk g2;clear hk;go_wp2;go_round
   case rel=>exact⟨k+1,by omega,by omega,by go_num⟩
   case measure=>simp [intOf];omega
  ·obtain rfl:k=k0:=by omega
   clear hk hlk;go_wp2;exact bodyPost_ret (v:=.tuple #[.agg tk0,.int .i64 0]) (tV tk0 rfl rfl rfl rfl) rfl ⟨rfl,aD (Below.refl _ _) _⟩
theorem aJW (hs:S.size=n) (hn:n<=255) (h0:0 < S.size) (h91:((S[0].toNat:Int)==91)=true) {k0:Nat} (k1:1<=k0) (k2:k0 < S.size) (hk0:((S[k0].toNat:Int) !=93)=false) (hK:S.extract 1 k0=K) (RG:∀u,CR 48 #[.string K] u (.bool false)) (hk:Hid (∀k,1<=k->k < k0->∀h:k < S.size,((S[k].toNat:Int) !=93)=true)):
  CR 200 #[.string S] w (.tuple #[.agg tk0,.int .i64 0]):=by
 have HZ0:Hid (RZ w (w.alloc tkR)):=RZ.begin w;have j1:(k0:Int) < n:=by omega
 have j2:((k0:Int)==(n:Int))=false:=by simp;omega
 have j3:(1:Int)<=k0:=by omega
 have j4:(k0:Int)<=n:=by omega
 go_enter Tryz.func200,Tryz.ntmps200;go_wp2;go_loop [6] (fun i=>∃k:Nat,1<=k/\k<=k0/\i=.int .i64 (k:Nat)) (fun i=>k0 - (intOf i).toNat)
 case atStart=>exact⟨1,Nat.le_refl _,k1,rfl⟩
 case round=>
  obtain⟨k,hk1,hk2,rfl⟩:=hrel;by_cases hlk:k < k0
  ·have g1:(k:Int) < n:=by omega
   have g2:k < S.size:=by omega
   have g3:=hk.out k hk1 hlk g2;clear hk RG;go_wp2;go_round
   case rel=>exact⟨k+1,by omega,by omega,by go_num⟩
   case measure=>simp [intOf];omega
  ·obtain rfl:k=k0:=by omega
   clear hk hlk;go_wp2_with (first|(go_at_call 48;refine (RG _).mono ?_;rintro e w4 ⟨rfl,hs4⟩;have HZ4:Hid (RZ w w4):=HZ0.out.below hs4;have RR:=HZ4.out.put 0 0 noB noB noB 0 0 false false;clear hs4 HZ0 RG)|(refine aB rfl 188 _ _ rfl _ _ _ rfl rfl RR.out ?_))
   exact bodyPost_ret (v:=.tuple #[.agg tk0,.int .i64 0]) (HZ4.out.ans tk0 rfl rfl rfl rfl) rfl ⟨rfl,HZ4.out.fin _⟩
end
theorem aAR (l:List UInt8) (hl:l.length<=255) (b:Bool) (w:World):CR 243 #[.string (ba l),.bool b] w (.bool (gnF l || (!b && trB l))):=by
 have G:CR 48 #[.string (ba l)] w (.bool (gnF l)):=gV (ba l) (by rw [size_mk];omega) w;have R:=fun u=>qO (ba l) (by rw [size_mk];omega) u;have hw:=aCf (ba l);have ht:trB l=(jR (ba l)).2:=rfl;rw [ht];generalize (jR (ba l)).2=t at *;generalize qN (szF 97 65 (ba l).data.toList)=n at *;generalize ba l=A at *;clear ht;generalize gnF l=g at *;cases g <;> cases b
 ·rcases hw with ⟨rfl,h⟩ | ⟨rfl,h⟩
  ·go_enter Tryz.func243,Tryz.ntmps243;go_wp2_with (first|(go_at_call 48;refine G.mono ?_;rintro e w1 ⟨rfl,hb⟩;have HB:Hid (Below w.heap.size w w1):=hb;clear hb) | (go_at_call 92;refine (R _).mono ?_;rintro e w2 ⟨rfl,hb⟩;have HB2:Hid (Below w.heap.size w w2):=aF HB.out hb;clear hb))
   go_ret;exact⟨rfl,HB2.out⟩
  ·have h':¬0<=n:=by omega
   go_enter Tryz.func243,Tryz.ntmps243;go_wp2_with (first|(go_at_call 48;refine G.mono ?_;rintro e w1 ⟨rfl,hb⟩;have HB:Hid (Below w.heap.size w w1):=hb;clear hb) | (go_at_call 92;refine (R _).mono ?_;rintro e w2 ⟨rfl,hb⟩;have HB2:Hid (Below w.heap.size w w2):=aF HB.out hb;clear hb))
   go_ret;refine ⟨eF ?_,HB2.out⟩;simpa using h
 all_goals
  clear hw R;go_enter Tryz.func243,Tryz.ntmps243;go_wp2_with (go_at_call 48;refine G.mono ?_;rintro e w1 ⟨rfl,hb⟩;have HB:Hid (Below w.heap.size w w1):=hb;clear hb)
  go_ret;exact⟨rfl,HB.out⟩
theorem aEy (c:UInt8) (w:World):CW 153 #[.int .u8 (c.toNat:Nat)] w (.bool (Tk.blank c)):=by rw [show Tk.blank c=(decide (c.toNat=32) || decide (c.toNat=9)) by unfold Tk.blank;rw [lI,lI];rfl];generalize c.toNat=n;go_enter Tryz.func153,Tryz.ntmps153;go_wp2;all_goals (go_ret;refine ⟨eF ?_,rfl⟩;rw [Bool.eq_iff_iff];simp;omega)
theorem aJX (c:UInt8):(Ad.isL c=true/\Tk.aQ c=true)\/(Ad.isL c=false/\Ad.isD c=true/\Tk.aQ c=true)\/
  (Ad.isL c=false/\Ad.isD c=false/\((c.toNat:Int)==95)=true/\Tk.aQ c=true)\/(Ad.isL c=false/\Ad.isD c=false/\((c.toNat:Int)==95)=false/\((c.toNat:Int)==36)=true/\Tk.aQ c=true)\/
  (Ad.isL c=false/\Ad.isD c=false/\((c.toNat:Int)==95)=false/\((c.toNat:Int)==36)=false/\Tk.aQ c=false):=by
 have e95:((c.toNat:Int)==95)=(c==95):=by
  rcases eG c 95 with ⟨h1,h2⟩ | ⟨h1,h2⟩
  ·subst h1;rfl
  ·rw [show ((c.toNat:Int)==95)=false from h2];exact(beq_eq_false_iff_ne.2 h1).symm
 have e36:((c.toNat:Int)==36)=(c==36):=by
  rcases eG c 36 with ⟨h1,h2⟩ | ⟨h1,h2⟩
  ·subst h1;rfl
  ·rw [show ((c.toNat:Int)==36)=false from h2];exact(beq_eq_false_iff_ne.2 h1).symm
 unfold Tk.aQ;rw [e95,e36];cases Ad.isL c <;> cases Ad.isD c <;> cases (c==95) <;> cases (c==36) <;> simp
theorem aGS (l:List UInt8) (S:ByteArray) (hs:S.size=l.length) (HG:Hid (∀k (h:k < l.length) (h2:k < S.size),S[k]=l[k])) (hl:l.length<=255) (w:World):CW 240 #[.string S] w (.int .i64 ((l.takeWhile Tk.aQ).length:Nat)):=by
 generalize hr:(l.takeWhile Tk.aQ).length=r;have HR:Hid ((l.takeWhile Tk.aQ).length=r):=hr;clear hr;go_enter Tryz.func240,Tryz.ntmps240;go_wp2;go_loop [3] (fun i=>∃k:Nat,k<=l.length/\i=.int .i64 k/\Hid ((l.take k).all Tk.aQ=true)) (fun i=>l.length - (intOf i).toNat)
 case atStart=>exact⟨0,Nat.zero_le _,rfl,by simp [Hid]⟩
 case round=>
  obtain⟨k,hk,rfl,ha⟩:=hrel;by_cases hlt:k < l.length
  ·have hki:(k:Int) < l.length:=by omega
   have hks:k < S.size:=by rw [hs];exact hlt
   have hg:=HG.out k hlt hks;have L:=fun u=>jP l[k] u;have D:=fun u=>gZ l[k] u;have HE:Hid (Tk.aQ l[k]=false->r=k):=fun h=>by rw [<-HR.out,(oC hlt ha.out h).1,List.length_take];omega
   have HN:Hid (Tk.aQ l[k]=true->(l.take (k+1)).all Tk.aQ=true):=fun h=>sN l k 1 ha.out (fun j hj h2=>by
    obtain rfl:j=0:=by omega
    exact h)
   have hw:=aJX l[k];rw [<-hg] at L D HE HN hw;clear hg HR HG;rcases hw with ⟨h1,h2⟩ | ⟨h1,h2,h3⟩ | ⟨h1,h2,h3,h4⟩ | ⟨h1,h2,h3,h4,h5⟩ | ⟨h1,h2,h3,h4,h5⟩
   ·rw [h1] at L;have HN2:=HN.out h2;clear HE HN h1 h2;go_wp2_with (first|(go_at_call 91;refine mw (L _) ?_) | (go_at_call 93;refine mw (D _) ?_))
    go_round
    case rel=>exact⟨k+1,by omega,by go_num,HN2⟩
    case measure=>simp [intOf];omega
   ·rw [h1] at L;rw [h2] at D;have HN2:=HN.out h3;clear HE HN h1 h2 h3;go_wp2_with (first|(go_at_call 91;refine mw (L _) ?_) | (go_at_call 93;refine mw (D _) ?_))
    go_round
    case rel=>exact⟨k+1,by omega,by go_num,HN2⟩
    case measure=>simp [intOf];omega
   ·rw [h1] at L;rw [h2] at D;have HN2:=HN.out h4;clear HE HN h1 h2 h4;go_wp2_with (first|(go_at_call 91;refine mw (L _) ?_) | (go_at_call 93;refine mw (D _) ?_))
    go_round
    case rel=>exact⟨k+1,by omega,by go_num,HN2⟩
    case measure=>simp [intOf];omega
   ·rw [h1] at L;rw [h2] at D;have HN2:=HN.out h5;clear HE HN h1 h2 h5;go_wp2_with (first|(go_at_call 91;refine mw (L _) ?_) | (go_at_call 93;refine mw (D _) ?_))
    go_round
    case rel=>exact⟨k+1,by omega,by go_num,HN2⟩
    case measure=>simp [intOf];omega
   ·rw [h1] at L;rw [h2] at D;have HE2:Hid (r=k):=HE.out h5;clear HE HN h1 h2 h5;go_wp2_with (first|(go_at_call 91;refine mw (L _) ?_) | (go_at_call 93;refine mw (D _) ?_))
    go_ret;exact⟨by rw [HE2.out];rfl,rfl⟩
  ·have hki:¬(k:Int) < l.length:=by omega
   have HE:Hid (r=k):=by show _=_;have:=ha.out;rw [List.take_of_length_le (by omega)] at this;rw [<-HR.out,(oW this).1];omega
   clear HR HG;go_wp2;go_ret;exact⟨by rw [HE.out];rfl,rfl⟩
theorem tZ (l:List UInt8) (hl:l.length<=255) (w:World):CW 240 #[.string (ba l)] w (.int .i64 ((l.takeWhile Tk.aQ).length:Nat)):=
 aGS l (ba l) (size_mk l) (fun k h h2=>mZ l k h h2) hl w
end Go.Proofs.YtlhoklhjbpkgpaaGreatDoor
