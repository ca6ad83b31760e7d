/- RPar3b, RPar4, RPar5, RPar6, RPar7, RPar8, RPar3a. -/
import Derived.Test.YtlhoklhjbpkgpaaGreatDoorRPar2Pu
set_option linter.unusedVariables false
set_option linter.unusedSimpArgs false
set_option maxHeartbeats 16000000
set_option maxRecDepth 100000
namespace Go.Proofs.YtlhoklhjbpkgpaaGreatDoor
open Go.RowKit Go.Fm
theorem aJx {W w:World} {b:Nat} {o:Option (T × List Tk.Tok)} (hb:b < w.heap.size) (C:Calls Tryz.prog 155 #[pt b] (w.alloc (.cells nd0 67)) (RO W b (w.alloc (.cells nd0 67)) o)):
  Calls Tryz.prog 109 #[pt b,.int .i64 6] w (RO W b w o):=by
 have C':Calls Tryz.prog 155 #[pt b] (w.alloc (.cells nd0 67)) fun e w1=>∃es,e=.returned (.agg es)/\Hid ((Instr.storeAt 67 (pt w.heap.size) (.agg es)).run Tryz.prog w1=.ok () (w1.setRow w.heap.size es))/\Hid (w1.heap[w.heap.size]? =some (.cells nd0 67))/\Hid (es.size=18)/\Hid (NA es)/\Hid (RA W b w o es (w1.setRow w.heap.size es)):=C.mono (by
  rintro e w1 ⟨es,rfl,hn,h⟩;obtain⟨a1,a2,a3,a4⟩:=RA.fin hb hn h;exact⟨es,rfl,a1,a2,a3,hn,a4⟩)
 clear C;go_enter Tryz.func109,Tryz.ntmps109;go_wp2_with (first|(go_at_call 155;refine C'.mono ?_;rintro e w1 ⟨es,rfl,RS,HG,HZ,HN,HF⟩)|(refine aB rfl 67 _ _ rfl _ _ _ rfl rfl RS.out ?_))
 exact bodyPost_ret (aY HG.out HZ.out rfl rfl) rfl ⟨es,rfl,HN.out,HF.out⟩
theorem aNs {u:World} {es es2:Array Value} (h:NA es) (h2:NA es2):(Instr.buildSlice 65 2 #[(0,.agg es),(1,.agg es2)]).run Tryz.prog u=.ok (.slice (some ⟨u.heap.size,0,none⟩) 2 2) (u.alloc (.cells (es.toList++es2.toList).toArray 67)):=by obtain⟨a,p,n,c,rfl⟩:=h;obtain⟨a',p',n',c',rfl⟩:=h2;exact aAE u _ _ _ _ _ _ _ _
structure BI (W:World) (b:Nat) (w:World) (g:Nat) (cur:Option (T × List Tk.Tok)) (es:Array Value) (u:World):Prop where
 box:u.heap[g]? =some (.cells es 67)
 res:u.heap[w.heap.size]? =some (.cells nd0 67)
 na:NA es
 st:match cur with
  | none=>Sw W b w u
  | some p=>NK (fun i=>w.heap.size < i/\i ≠ g) u es p.1/\Sq W b p.2 w u
theorem BI.begin {W w w1:World} {b:Nat} {o:Option (T × List Tk.Tok)} {es:Array Value} (hb:b < w.heap.size) (hn:NA es) (h:RA W b (w.alloc (.cells nd0 67)) o es w1):
  Hid ((Instr.storeAt 67 (pt w1.heap.size) (.agg es)).run Tryz.prog (w1.alloc (.cells nd0 67))=.ok () (w1.alloc (.cells es 67)))/\Hid (BI W b w w1.heap.size o es (w1.alloc (.cells es 67)))/\Hid (w.heap.size < w1.heap.size):=by
 have hlt:w.heap.size < w1.heap.size:=by have:=h.grow.size;simp at this;omega
 refine ⟨run_storeAt_new w1 67 nd0 _ (by rw [hn.size];exact iG) (by rw [hn.size];rfl) hn.one,⟨heap_alloc_new _ _,(Below.heap_alloc _ _ _ hlt).trans (h.kept (heap_alloc_new w _) (by omega)),hn, ?_⟩,hlt⟩;cases o with
 | none=>exact(show Sw W b (w.alloc (.cells nd0 67)) w1 from h).dQ.alloc _
 | some p=>
  obtain⟨h1,h2⟩:=h;refine ⟨NK.below (K:=fun i=>w.heap.size < i/\i ≠ w1.heap.size) (h1.mono (fun i hi hl=> ?_)) (aD (Below.refl _ _) (.cells es 67)),h2.dQ.alloc _⟩;simp at hi;exact⟨by omega,by omega⟩
theorem BI.fin {W w u:World} {b g:Nat} {cur:Option (T × List Tk.Tok)} {es:Array Value} (h:BI W b w g cur es u) (hb:b < w.heap.size):
  Hid ((Instr.loadAt 67 (pt g)).run Tryz.prog u=.ok (.agg es) u)/\Hid ((Instr.storeAt 67 (pt w.heap.size) (.agg es)).run Tryz.prog u=.ok () (u.setRow w.heap.size es))/\Hid (es.size=18)/\Hid (RA W b w cur es (u.setRow w.heap.size es)):=by
 refine ⟨h.na.lod h.box,h.na.sto h.res rfl,h.na.size, ?_⟩;have hs:=h.st;cases cur with
 | none=>exact Sw.grown hs (aL _ _ _) (Nat.le_refl _) hb
 | some p=>
  obtain⟨h1,h2⟩:=hs;exact⟨(h1.grown (aL _ _ _) (fun g e hk=>by cases e;exact Nat.lt_irrefl _ hk.1)).mono (fun i hi _=>Nat.le_of_lt hi.1),h2.grown (aL _ _ _) (Nat.le_refl _) hb⟩
theorem QR.left {W w:World} {b:Nat} {L:List Tk.Tok} (h:QR W b L w):nS b w=L.length:=by obtain⟨v,h1,h2⟩:=h.blk;obtain⟨a,c,rfl⟩:=h2.slice;unfold nS;rw [h1];simp
theorem QW.left {W w:World} {b:Nat} (h:QW W b w):nS b w=0:=by unfold nS;rw [h.blk];simp
theorem QR.not {W w:World} {b:Nat} {L:List Tk.Tok} (h:QR W b L w):w.cell? ⟨b,1,none⟩=some (.bool false):=by obtain⟨v,h1,h2⟩:=h.blk;exact(bM h1).2.1
theorem QW.yes {W w:World} {b:Nat} (h:QW W b w):w.cell? ⟨b,1,none⟩=some (.bool true):=(bM h.blk).2.1
theorem BI.two {W w u u2 w3:World} {b g:Nat} {n:T} {r r':List Tk.Tok} {es es2:Array Value} {sg:List UInt8} {o2:Option (T × List Tk.Tok)} (h:BI W b w g (some (n,r)) es u) (hb:b < w.heap.size) (hg:w.heap.size < g)
  (h2:Sq W b r' u u2) (hn:NA es2) (h3:RA W b u2 o2 es2 w3):
  Hid ((Instr.storeAt 67 (pt w3.heap.size) (.agg es2)).run Tryz.prog (w3.alloc (.cells nd0 67))=.ok () (w3.alloc (.cells es2 67)))/\
  Hid ((Instr.loadAt 67 (pt g)).run Tryz.prog (w3.alloc (.cells es2 67))=.ok (.agg es) (w3.alloc (.cells es2 67)))/\
  Hid ((Instr.loadAt 67 (pt w3.heap.size)).run Tryz.prog (w3.alloc (.cells es2 67))=.ok (.agg es2) (w3.alloc (.cells es2 67)))/\
  ∃w5,Hid ((Instr.buildSlice 65 2 #[(0,.agg es),(1,.agg es2)]).run Tryz.prog (w3.alloc (.cells es2 67))=.ok (.slice (some ⟨w3.heap.size+1,0,none⟩) 2 2) w5)/\
  Hid ((Instr.build 67 #[(0,.int .i64 6),(1,.string (ba sg)),(5,.slice (some ⟨w3.heap.size+1,0,none⟩) 2 2)]).run Tryz.prog w5=.ok (.agg (lcs (bG 6 (ba sg)) (.slice (some ⟨w3.heap.size+1,0,none⟩) 2 2))) w5)/\
  Hid ((Instr.storeAt 67 (pt g) (.agg (lcs (bG 6 (ba sg)) (.slice (some ⟨w3.heap.size+1,0,none⟩) 2 2)))).run Tryz.prog w5=.ok () (w5.setRow g (lcs (bG 6 (ba sg)) (.slice (some ⟨w3.heap.size+1,0,none⟩) 2 2))))/\
  Hid (BI W b w g (o2.map fun p=>(yQ sg n p.1,p.2)) (lcs (bG 6 (ba sg)) (.slice (some ⟨w3.heap.size+1,0,none⟩) 2 2)) (w5.setRow g (lcs (bG 6 (ba sg)) (.slice (some ⟨w3.heap.size+1,0,none⟩) 2 2)))):=by
 have hgl:g < u.heap.size:=aZ h.box;have hgu2:=h2.2.size;have aPY:=h3.grow.size;have B2:u2.heap[g]? =some (.cells es 67):=h2.kept h.box (by omega);have B3:w3.heap[g]? =some (.cells es 67):=h3.kept B2 (by omega);have R2:u2.heap[w.heap.size]? =some (.cells nd0 67):=h2.kept h.res (by omega);have R3:w3.heap[w.heap.size]? =some (.cells nd0 67):=h3.kept R2 (by omega);have B4:(w3.alloc (.cells es2 67)).heap[g]? =some (.cells es 67):=(Below.heap_alloc _ _ _ (by omega)).trans B3;have R4:(w3.alloc (.cells es2 67)).heap[w.heap.size]? =some (.cells nd0 67):=(Below.heap_alloc _ _ _ (by omega)).trans R3;have hz4:(w3.alloc (.cells es2 67)).heap.size=w3.heap.size+1:=by simp
 refine ⟨run_storeAt_new w3 67 nd0 _ (by rw [hn.size];exact iG) (by rw [hn.size];rfl) hn.one,h.na.lod B4,hn.lod (heap_alloc_new _ _),(w3.alloc (.cells es2 67)).alloc (.cells (es.toList++es2.toList).toArray 67),by have:=aNs (u:=w3.alloc (.cells es2 67)) h.na hn;rw [hz4] at this;exact this,mM _ _ _ _ _ _, ?_⟩;obtain⟨w5,hw5⟩:∃w5,(w3.alloc (.cells es2 67)).alloc (.cells (es.toList++es2.toList).toArray 67)=w5:=⟨_,rfl⟩
 rw [hw5];have B5:w5.heap[g]? =some (.cells es 67):=by rw [<-hw5];exact(Below.heap_alloc _ _ _ (by omega)).trans B4
 have R5:w5.heap[w.heap.size]? =some (.cells nd0 67):=by rw [<-hw5];exact(Below.heap_alloc _ _ _ (by omega)).trans R4
 have N5:w5.heap[w3.heap.size+1]? =some (.cells (es.toList++es2.toList).toArray 67):=by rw [<-hw5];have:=heap_alloc_new (w3.alloc (.cells es2 67)) (.cells (es.toList++es2.toList).toArray 67);rw [hz4] at this;exact this
 have hz5:w5.heap.size=w3.heap.size+2:=by rw [<-hw5];simp
 have L5:Below w3.heap.size w3 w5:=by rw [<-hw5];exact aD (aD (Below.refl _ _) _) _
 refine ⟨qX B5 h.na.size _ _ _ _, ?_⟩;generalize hfs:lcs (bG 6 (ba sg)) (.slice (some ⟨w3.heap.size+1,0,none⟩) 2 2)=fs;have G6:=aL w5 g fs;refine ⟨setRow_heap _ _ _ _ _ _ B5,(G6.block _ (by omega) (by intro e;have:=Option.some.inj e;omega)).trans R5,⟨_,_,_,_,hfs.symm⟩, ?_⟩;obtain⟨hN,hS⟩:=h.st;cases o2 with
 | none=>
  have h3':Sw W b u2 w3:=h3;show Sw W b w _;exact(((hS.step h2).bad h3').bel L5).grown G6 (by omega) hb
 | some p=>
  obtain⟨m,r2⟩:=p;obtain⟨hM,hS3⟩:=h3;show NK _ _ _ (yQ sg n m)/\Sq W b r2 w _;have K6:∀k,(some g:Option Nat)=some k->¬(fun i=>w.heap.size < i/\i ≠ g) k:=fun k e hk=>by cases e;exact hk.2 rfl
  have K1:∀i,(fun i=>w.heap.size < i/\i ≠ g) i->i ≠ b:=fun i hi e=>by have:=hi.1;omega
  have HA:NK (fun i=>w.heap.size < i/\i ≠ g) (w5.setRow g fs) es n:=(((hN.grown h2.2 (fun k e hk=>by cases e;exact K1 _ hk rfl)).grown hS3.2 (fun k e hk=>by cases e;exact K1 _ hk rfl)).below L5).grown G6 K6;have HB:NK (fun i=>w.heap.size < i/\i ≠ g) (w5.setRow g fs) es2 m:=((hM.mono (K':=fun i=>w.heap.size < i/\i ≠ g) (fun i hi _=>by
   have hi':u2.heap.size<=i:=hi;exact⟨by omega,by omega⟩)).below L5).grown G6 K6
  refine ⟨?_,(((hS.step h2).step hS3).bel L5).grown G6 (by omega) hb⟩;rw [<-hfs] at HA HB ⊢;refine NK.newAt (g:=w3.heap.size+1) ⟨by omega,by omega⟩ (k:=6) (s:=ba sg) [(es,n),(es2,m)] (fun x hx=> ?_) (es:=(es.toList++es2.toList).toArray) (z:=(0,0)) (o:=0) (((aL w5 g _).block _ (by omega) (by intro e;have:=Option.some.inj e;omega)).trans N5) (fun j v hj=>by simpa using hj) 2;simp only [List.mem_cons,List.not_mem_nil,or_false] at hx;rcases hx with rfl | rfl
  ·exact HA
  ·exact HB
theorem aEr {u:World} {es:Array Value} (h:NA es):(Instr.buildSlice 65 1 #[(0,.agg es)]).run Tryz.prog u=.ok (.slice (some ⟨u.heap.size,0,none⟩) 1 1) (u.alloc (.cells es 67)):=by obtain⟨a,p,n,c,rfl⟩:=h;exact pJ u _ _ _ _
theorem aFy {K K':Nat->Prop} {u:World} {es:Array Value} {n:T} {sg:List UInt8} {g:Nat} (h:NK K u es n) (hK:∀i,K i->i < u.heap.size->K' i) (hn:K' u.heap.size) (hg:¬K' g):
  NK K' ((u.alloc (.cells es 67)).setRow g (lcs (bG 5 (ba sg)) (.slice (some ⟨u.heap.size,0,none⟩) 1 1))) (lcs (bG 5 (ba sg)) (.slice (some ⟨u.heap.size,0,none⟩) 1 1)) (unT sg n):=by
 generalize hfs:lcs (bG 5 (ba sg)) (.slice (some ⟨u.heap.size,0,none⟩) 1 1)=fs;have G6:=aL (u.alloc (.cells es 67)) g fs;have HA:NK K' ((u.alloc (.cells es 67)).setRow g fs) es n:=((h.mono hK).below (aD (Below.refl _ _) _)).grown G6 (fun k e hk=>by cases e;exact hg hk);rw [<-hfs] at HA ⊢;refine NK.newAt (g:=u.heap.size) hn (k:=5) (s:=ba sg) [(es,n)] (fun x hx=> ?_) (es:=es) (z:=(0,0)) (o:=0) (((aL _ g _).block _ (by simp) (by intro e;exact hg (Option.some.inj e ▸ hn))).trans (heap_alloc_new _ _)) (fun j v hj=>by simpa using hj) 1;simp only [List.mem_cons,List.not_mem_nil,or_false] at hx;subst hx;exact HA
theorem aNt {W w u2 w3:World} {b:Nat} {r':List Tk.Tok} {es2:Array Value} {o2:Option (T × List Tk.Tok)} (hb:b < w.heap.size) (h2:Sq W b r' (w.alloc (.cells nd0 67)) u2) (hn:NA es2) (h3:RA W b u2 o2 es2 w3):
  Hid ((Instr.storeAt 67 (pt w3.heap.size) (.agg es2)).run Tryz.prog (w3.alloc (.cells nd0 67))=.ok () (w3.alloc (.cells es2 67)))/\
  Hid ((Instr.loadAt 67 (pt w3.heap.size)).run Tryz.prog (w3.alloc (.cells es2 67))=.ok (.agg es2) (w3.alloc (.cells es2 67)))/\
  ∃w5,Hid ((Instr.buildSlice 65 1 #[(0,.agg es2)]).run Tryz.prog (w3.alloc (.cells es2 67))=.ok (.slice (some ⟨w3.heap.size+1,0,none⟩) 1 1) w5)/\
  Hid ((Instr.build 67 #[(0,.int .i64 5),(1,.string ⟨#[45]⟩),(5,.slice (some ⟨w3.heap.size+1,0,none⟩) 1 1)]).run Tryz.prog w5=.ok (.agg (lcs (bG 5 ⟨#[45]⟩) (.slice (some ⟨w3.heap.size+1,0,none⟩) 1 1))) w5)/\
  Hid ((Instr.storeAt 67 (pt w.heap.size) (.agg (lcs (bG 5 ⟨#[45]⟩) (.slice (some ⟨w3.heap.size+1,0,none⟩) 1 1)))).run Tryz.prog w5=.ok () (w5.setRow w.heap.size (lcs (bG 5 ⟨#[45]⟩) (.slice (some ⟨w3.heap.size+1,0,none⟩) 1 1))))/\
  Hid (w5.heap[w.heap.size]? =some (.cells nd0 67))/\Hid ((lcs (bG 5 ⟨#[45]⟩) (.slice (some ⟨w3.heap.size+1,0,none⟩) 1 1)).size=18)/\Hid (NA (lcs (bG 5 ⟨#[45]⟩) (.slice (some ⟨w3.heap.size+1,0,none⟩) 1 1)))/\
  Hid (RA W b w (o2.map fun p=>(unT [45] p.1,p.2)) (lcs (bG 5 ⟨#[45]⟩) (.slice (some ⟨w3.heap.size+1,0,none⟩) 1 1)) (w5.setRow w.heap.size (lcs (bG 5 ⟨#[45]⟩) (.slice (some ⟨w3.heap.size+1,0,none⟩) 1 1)))):=by
 have hs2:=h2.2.size;have hs3:=h3.grow.size;simp at hs2;have R2:u2.heap[w.heap.size]? =some (.cells nd0 67):=h2.kept (heap_alloc_new w _) (by omega);have R3:w3.heap[w.heap.size]? =some (.cells nd0 67):=h3.kept R2 (by omega);have R4:(w3.alloc (.cells es2 67)).heap[w.heap.size]? =some (.cells nd0 67):=(Below.heap_alloc _ _ _ (by omega)).trans R3;have hz4:(w3.alloc (.cells es2 67)).heap.size=w3.heap.size+1:=by simp
 have R5:((w3.alloc (.cells es2 67)).alloc (.cells es2 67)).heap[w.heap.size]? =some (.cells nd0 67):=(Below.heap_alloc _ _ _ (by omega)).trans R4;refine ⟨run_storeAt_new w3 67 nd0 _ (by rw [hn.size];exact iG) (by rw [hn.size];rfl) hn.one,hn.lod (heap_alloc_new _ _),(w3.alloc (.cells es2 67)).alloc (.cells es2 67),by have:=aEr (u:=w3.alloc (.cells es2 67)) hn;rw [hz4] at this;exact this,mM _ _ _ _ _ _,qX R5 rfl _ _ _ _,R5,rfl,⟨_,_,_,_,rfl⟩, ?_⟩;have L5:Below w3.heap.size w3 ((w3.alloc (.cells es2 67)).alloc (.cells es2 67)):=aD (aD (Below.refl _ _) _) _;cases o2 with
 | none=>exact(((h2.bad (show Sw W b u2 w3 from h3)).dQ).bel L5).grown (aL _ _ _) (Nat.le_refl _) hb
 | some p=>
  obtain⟨hM,hS3⟩:=h3;refine ⟨?_,(((h2.step hS3).dQ).bel L5).grown (aL _ _ _) (Nat.le_refl _) hb⟩;have hM4:NK (fun i=>u2.heap.size<=i) (w3.alloc (.cells es2 67)) es2 p.1:=hM.below (aD (Below.refl _ _) _);have:=aFy (K':=fun i=>w.heap.size < i) (sg:=[45]) (g:=w.heap.size) hM4 (fun i hi _=>by have hi':u2.heap.size<=i:=hi;omega) (by omega) (Nat.lt_irrefl _);rw [hz4] at this;exact this.mono (fun i hi _=>Nat.le_of_lt hi)
theorem BI.pct {W w u u2:World} {b g:Nat} {n:T} {r r':List Tk.Tok} {es:Array Value} (h:BI W b w g (some (n,r)) es u) (hb:b < w.heap.size) (hg:w.heap.size < g) (h2:Sq W b r' u u2):
  Hid ((Instr.loadAt 67 (pt g)).run Tryz.prog u2=.ok (.agg es) u2)/\
  Hid ((Instr.buildSlice 65 1 #[(0,.agg es)]).run Tryz.prog u2=.ok (.slice (some ⟨u2.heap.size,0,none⟩) 1 1) (u2.alloc (.cells es 67)))/\
  Hid ((Instr.build 67 #[(0,.int .i64 5),(1,.string ⟨#[37]⟩),(5,.slice (some ⟨u2.heap.size,0,none⟩) 1 1)]).run Tryz.prog (u2.alloc (.cells es 67))=.ok (.agg (lcs (bG 5 ⟨#[37]⟩) (.slice (some ⟨u2.heap.size,0,none⟩) 1 1))) (u2.alloc (.cells es 67)))/\
  Hid ((Instr.storeAt 67 (pt g) (.agg (lcs (bG 5 ⟨#[37]⟩) (.slice (some ⟨u2.heap.size,0,none⟩) 1 1)))).run Tryz.prog (u2.alloc (.cells es 67))=.ok () ((u2.alloc (.cells es 67)).setRow g (lcs (bG 5 ⟨#[37]⟩) (.slice (some ⟨u2.heap.size,0,none⟩) 1 1))))/\
  Hid (BI W b w g (some (unT [37] n,r')) (lcs (bG 5 ⟨#[37]⟩) (.slice (some ⟨u2.heap.size,0,none⟩) 1 1)) ((u2.alloc (.cells es 67)).setRow g (lcs (bG 5 ⟨#[37]⟩) (.slice (some ⟨u2.heap.size,0,none⟩) 1 1)))):=by
 have hgl:g < u.heap.size:=aZ h.box;have hs2:=h2.2.size;have B2:u2.heap[g]? =some (.cells es 67):=h2.kept h.box (by omega);have R2:u2.heap[w.heap.size]? =some (.cells nd0 67):=h2.kept h.res (by omega);have B3:(u2.alloc (.cells es 67)).heap[g]? =some (.cells es 67):=(Below.heap_alloc _ _ _ (by omega)).trans B2;have R3:(u2.alloc (.cells es 67)).heap[w.heap.size]? =some (.cells nd0 67):=(Below.heap_alloc _ _ _ (by omega)).trans R2;have G6:=aL (u2.alloc (.cells es 67)) g (lcs (bG 5 ⟨#[37]⟩) (.slice (some ⟨u2.heap.size,0,none⟩) 1 1));obtain⟨hN,hS⟩:=h.st;refine ⟨h.na.lod B2,aEr h.na,mM _ _ _ _ _ _,qX B3 h.na.size _ _ _ _,setRow_heap _ _ _ _ _ _ B3,(G6.block _ (aZ R3) (by intro e;have:=Option.some.inj e;omega)).trans R3,⟨_,_,_,_,rfl⟩, ?_⟩;show NK _ _ _ (unT [37] n)/\Sq W b r' w _;refine ⟨?_,((hS.step h2).alloc _).grown G6 (by omega) hb⟩;have hN2:NK (fun i=>w.heap.size < i/\i ≠ g) u2 es n:=hN.grown h2.2 (fun k e hk=>by cases e;have:=hk.1;omega);exact aFy (K':=fun i=>w.heap.size < i/\i ≠ g) (sg:=[37]) (g:=g) hN2 (fun i hi _=>hi) ⟨by omega,by omega⟩ (fun hk=>hk.2 rfl)
theorem aJy {n:T} {r:List Tk.Tok} (h:aV r=[37]):gM r.length n r=gM r.tail.length (unT [37] n) r.tail:=by
 have h2:=(bA (ts:=r) h (by decide)).1;rw [<-h2]
 conv=>lhs;unfold gM
 rw [if_pos h]
theorem aLP {n:T} {r:List Tk.Tok} (h:aV r ≠ [37]) (k:Nat):gM k n r=(n,r):=by
 cases k with
 | zero=>rfl
 | succ k=>unfold gM;rw [if_neg h]
theorem aLQ {W:World} {b:Nat} {ts:List Tk.Tok} (hn:ts.length<=256) (h:aV ts=[45]) (C:∀u,QR W b ts.tail u->Calls Tryz.prog 155 #[pt b] u (RO W b u (PP 6 ts.tail))) {w:World} (X:QR W b ts w):
  Calls Tryz.prog 155 #[pt b] w (RO W b w ((PP 6 ts.tail).map fun p=>(unT [45] p.1,p.2))):=by
 have hb:=X.lt;have OP:=fG (X.alloc (.cells nd0 67)) hn;rw [h] at OP;have OP':Calls Tryz.prog 156 #[pt b] (w.alloc (.cells nd0 67)) fun e w'=>e=.returned (.string ⟨#[45]⟩)/\w'=w.alloc (.cells nd0 67):=OP;have TK:Calls Tryz.prog 157 #[pt b,.string ⟨#[45]⟩] (w.alloc (.cells nd0 67)) fun e w'=>e=.returned (.tuple #[])/\Sq W b ts.tail (w.alloc (.cells nd0 67)) w':=eD (s:=[45]) (X.alloc (.cells nd0 67)) hn (by decide) h;have C1:Hid (∀u2,Sq W b ts.tail (w.alloc (.cells nd0 67)) u2->Calls Tryz.prog 155 #[pt b] u2 fun e w3=>∃es2,e=.returned (.agg es2)/\NA es2/\RA W b u2 (PP 6 ts.tail) es2 w3):=fun u2 h2=>C u2 h2.1;clear C X OP h;generalize PP 6 ts.tail=o2 at *;go_enter Tryz.func155,Tryz.ntmps155;go_wp2_with (first|(go_at_call 156;refine mw OP' ?_)|(go_at_call 157;refine TK.mono ?_;rintro e w2 ⟨rfl,hw⟩;have HS2:Hid (Sq W b ts.tail (w.alloc (.cells nd0 67)) w2):=hw;clear hw TK)|(go_at_call 155;refine (C1.out _ HS2.out).mono ?_;rintro e w3 ⟨es2,rfl,hn2,h3⟩;obtain⟨R1,R2,w5,R4,R5,R6,HG,HZ,HNA,HF⟩:=aNt hb HS2.out hn2 h3;clear hn2 h3)|(refine aB rfl 67 _ _ rfl _ _ _ rfl rfl R1.out ?_;clear R1)|(refine aC rfl 67 _ rfl _ _ rfl R2.out ?_;clear R2)|(refine dL rfl 65 1 _ rfl _ _ _ (by go_simp) R4.out ?_;clear R4)|(refine aM rfl 67 _ rfl _ _ (by go_simp) R5.out ?_;clear R5)|(refine aB rfl 67 _ _ rfl _ _ _ rfl rfl R6.out ?_;clear R6))
 exact bodyPost_ret (aY HG.out HZ.out rfl rfl) rfl ⟨_,rfl,HNA.out,HF.out⟩
theorem aLR {W:World} {b:Nat} {ts:List Tk.Tok} (hn:ts.length<=256) (h:aV ts ≠ [45]) (C:∀u,QR W b ts u->Calls Tryz.prog 201 #[pt b] u (RO W b u (PP 8 ts))) {w:World} (X:QR W b ts w):
  Calls Tryz.prog 155 #[pt b] w (RO W b w ((PP 8 ts).map fun p=>gM p.2.length p.1 p.2)):=by
 have hb:=X.lt;have hlen:∀p,PP 8 ts=some p->p.2.length<=256:=fun p hp=>Nat.le_trans (Nat.le_of_lt (jB upF trF (by omega) _ p.1 p.2 hp)) hn;have OP:=fG (X.alloc (.cells nd0 67)) hn;have hne:((ba (aV ts)).toList==[45])=false:=bI h;have C0:Calls Tryz.prog 201 #[pt b] (w.alloc (.cells nd0 67)) fun e w1=>∃es,e=.returned (.agg es)/\Hid ((Instr.storeAt 67 (pt w1.heap.size) (.agg es)).run Tryz.prog (w1.alloc (.cells nd0 67))=.ok () (w1.alloc (.cells es 67)))/\Hid (BI W b w w1.heap.size (PP 8 ts) es (w1.alloc (.cells es 67)))/\Hid (w.heap.size < w1.heap.size):=(C _ (X.alloc _)).mono (by
  rintro e w1 ⟨es,rfl,hn,h⟩;exact⟨es,rfl,BI.begin hb hn h⟩)
 generalize ho:((PP 8 ts).map fun p=>gM p.2.length p.1 p.2)=o;have HO:Hid (((PP 8 ts).map fun p=>gM p.2.length p.1 p.2)=o):=ho;have HLE:Hid (∀p,PP 8 ts=some p->p.2.length<=256):=hlen;clear ho C hlen X h;generalize PP 8 ts=o1 at C0 HO HLE;generalize ba (aV ts)=A at *;go_enter Tryz.func155,Tryz.ntmps155;go_wp2_with (first|(go_at_call 156;refine mw OP ?_)|(go_at_call 201;refine C0.mono ?_;rintro e w1 ⟨es0,rfl,RS0,HB0,HLT⟩)|(refine aB rfl 67 _ _ rfl _ _ _ rfl rfl RS0.out ?_;clear RS0))
 clear C0 OP hne;try simp only [Act.put,List.setIfInBounds_toArray,List.set_cons_zero,List.set_cons_succ]
 generalize hg7:w1.heap.size=g7 at *;clear hg7;go_loopw [] (fun wr=>∃(cur:Option (T × List Tk.Tok)) (es:Array Value),Hid ((cur.map fun p=>gM p.2.length p.1 p.2)=o)/\Hid (BI W b w g7 cur es wr)/\Hid (∀p,cur=some p->p.2.length<=256)) (fun wr=>nS b wr)
 case atStart=>exact⟨o1,es0,HO,HB0,HLE⟩
 case round=>
  obtain⟨cur,es,HL,HB,HR⟩:=hrel;clear HO HB0 HLE;cases cur with
  | none=>
   obtain⟨RL,RS,HZ,HF⟩:=HB.out.fin hb;have hyes:wr.cell? ⟨b,1,none⟩=some (.bool true):=(show Sw W b w wr from HB.out.st).1.yes;have HQ:Hid (none=o):=HL.out;have HNA:Hid (NA es):=HB.out.na;have HG:Hid (wr.heap[w.heap.size]? =some (.cells nd0 67)):=HB.out.res;clear HL HB HR;go_wp2_with (first|(refine aC rfl 67 _ rfl _ _ rfl RL.out ?_;clear RL)|(refine aB rfl 67 _ _ rfl _ _ _ rfl rfl RS.out ?_;clear RS))
   refine bodyPost_ret (aY HG.out HZ.out rfl rfl) rfl ?_;rw [<-HQ.out];exact⟨es,rfl,HNA.out,HF.out⟩
  | some p=>
   obtain⟨n,r⟩:=p;have hr:r.length<=256:=HR.out _ rfl;have hS:Sq W b r w wr:=(HB.out.st).2;have hnot:wr.cell? ⟨b,1,none⟩=some (.bool false):=hS.1.not;have OP:=fG hS.1 hr;have hleft:=hS.1.left;by_cases hq:aV r=[37]
   ·have hrt:=(bA (ts:=r) hq (by decide)).1;have HQ:Hid (o=some (gM r.tail.length (unT [37] n) r.tail)):=by show _=_;rw [<-HL.out];show some (gM r.length n r)=_;rw [aJy hq]
    have TK:Calls Tryz.prog 157 #[pt b,.string ⟨#[37]⟩] wr fun e w'=>e=.returned (.tuple #[])/\Sq W b r.tail wr w':=eD (s:=[37]) hS.1 hr (by decide) hq;rw [hq] at OP;have OP':CW 156 #[pt b] wr (.string ⟨#[37]⟩):=OP;clear HL hq hS OP;generalize hrr:r.tail=r' at *;clear hrr;go_wp2_with (first|(go_at_call 156;refine mw OP' ?_)|(go_at_call 157;refine TK.mono ?_;rintro e w2 ⟨rfl,hw⟩;have HS2:Hid (Sq W b r' wr w2):=hw;clear hw TK;obtain⟨R2,R4,R5,R6,HB6⟩:=BI.pct HB.out hb HLT.out HS2.out)|(refine aC rfl 67 _ rfl _ _ rfl R2.out ?_;clear R2)|(refine dL rfl 65 1 _ rfl _ _ _ (by go_simp) R4.out ?_;clear R4)|(refine aM rfl 67 _ rfl _ _ (by go_simp) R5.out ?_;clear R5)|(refine aB rfl 67 _ _ rfl _ _ _ rfl rfl R6.out ?_;clear R6))
    try simp only [Act.put,List.setIfInBounds_toArray,List.set_cons_zero,List.set_cons_succ]
    go_roundw
    case rel=>
     refine ⟨some (unT [37] n,r'),_, ?_,HB6, ?_⟩
     ·show _=_;rw [HQ.out];rfl
     ·show ∀p,_->_;intro p hp;cases hp
      show r'.length<=256;omega
    case measure=> have hst:=HB6.out.st;rw [(show _/\Sq W b r' w _ from hst).2.1.left,hleft];omega
   ·have HQ:Hid (o=some (n,r)):=by show _=_;rw [<-HL.out];show some (gM r.length n r)=_;rw [aLP hq]
    have hqi:((ba (aV r)).toList==[37])=false:=bI hq;obtain⟨RL,RS,HZ,HF⟩:=HB.out.fin hb;have HNA:Hid (NA es):=HB.out.na;have HG:Hid (wr.heap[w.heap.size]? =some (.cells nd0 67)):=HB.out.res;generalize ba (aV r)=A at *;clear hq HL hleft HB hS;go_wp2_with (first|(go_at_call 156;refine mw OP ?_)|(refine aC rfl 67 _ rfl _ _ rfl RL.out ?_;clear RL)|(refine aB rfl 67 _ _ rfl _ _ _ rfl rfl RS.out ?_;clear RS))
    refine bodyPost_ret (aY HG.out HZ.out rfl rfl) rfl ?_;rw [HQ.out];exact⟨es,rfl,HNA.out,HF.out⟩
theorem aLS {W:World} {b:Nat} {ts:List Tk.Tok} (hn:ts.length<=256) (C:∀u,aV ts=[45]->QR W b ts.tail u->Calls Tryz.prog 155 #[pt b] u (RO W b u (PP 6 ts.tail))) (D:∀u,QR W b ts u->Calls Tryz.prog 201 #[pt b] u (RO W b u (PP 8 ts))) {w:World} (X:QR W b ts w):
  Calls Tryz.prog 155 #[pt b] w (RO W b w (PP 6 ts)):=by
 have e:PP 6 ts=if aV ts=[45] then (PP 6 ts.tail).map fun p=>(unT [45] p.1,p.2) else PP 7 ts:=aIK upF trF ts;have e7:PP 7 ts=(PP 8 ts).map fun p=>gM p.2.length p.1 p.2:=aIL upF trF ts;rw [e];by_cases h:aV ts=[45]
 ·rw [if_pos h];exact aLQ hn h (fun u hu=>C u h hu) X
 ·rw [if_neg h,e7];exact aLR hn h D X
theorem aDa (g o j:Nat):(⟨g,o,none⟩:Addr).add j=⟨g,o+j,none⟩:=by unfold Addr.add;split <;> simp_all
theorem aDb {u:World} {g o:Nat} {k n r c:Int} {s bk h:ByteArray} {fr fc:Bool} (hc:∀j x,(tcs k n s bk h r c fr fc).toList[j]? =some x->u.cell? ⟨g,o+j,none⟩=some x):
  (Instr.loadAt 64 (.pointer (some ⟨g,o+3,none⟩))).run Tryz.prog u=.ok (dB bk h r c fr fc) u:=by
 refine fI u ⟨g,o+3,none⟩ 64 [.string bk,.string h,.int .i64 r,.int .i64 c,.bool fr,.bool fc] _ (fun j v hj=> ?_) Tryz.underlying64 rfl aFr;rw [aDa,Nat.add_assoc];refine hc (3+j) v ?_
 match j,hj with
 | 0,hj=>exact hj
 | 1,hj=>exact hj
 | 2,hj=>exact hj
 | 3,hj=>exact hj
 | 4,hj=>exact hj
 | 5,hj=>exact hj
theorem QR.first {W u:World} {b:Nat} {t:Tk.Tok} {q:List Tk.Tok} (h:QR W b (t:: q) u):∃g o c,u.heap[b]? =some (rpO (.slice (some ⟨g,o,none⟩) (q.length+1) c) false)/\q.length+1<=c/\(∀j x,(tk t).cl[j]? =some x->u.cell? ⟨g,o+j,none⟩=some x)/\
  TS W (.slice (if c=1 then some ⟨g,o,none⟩ else some ⟨g,o+9,none⟩) q.length (c - 1)) (q.map tk):=by
 obtain⟨v,hv,hs⟩:=h.blk;rw [List.map_cons] at hs;obtain⟨g,o,c,rfl,hlc,hcs,hts⟩:=hs.cons;rw [List.length_map] at hv hlc hts;exact⟨g,o,c,hv,hlc,fun j x hx=>iN h.bel (hcs j x hx),hts⟩
theorem QR.rest {W u v:World} {b:Nat} {t:Tk.Tok} {q:List Tk.Tok} {A:Option Addr} {c:Nat} (h:QR W b (t:: q) u) (hb:Below u.heap.size u v) (hts:TS W (.slice A q.length c) (q.map tk)):Sq W b q u (v.setCell ⟨b,0,none⟩ (.slice A q.length c)):=by obtain⟨x,hx,_⟩:=(h.below hb).blk;refine ⟨⟨h.tab,((h.below hb).bel).setCell h.lo _,h.lo,fun y hy=>h.ok y (by simp [hy]),_,(bM hx).2.2.2.2.2 _,hts⟩,aI (bD hb) (Lib.grownBy_setCell _ _ _ _)⟩
abbrev rw2 (w:World) (cs:Array Value):World:=(w.alloc (.cells cs 188)).alloc (.cells nd0 67)
theorem jL {w:World} {cs:Array Value}:(rw2 w cs).heap[w.heap.size]? =some (.cells cs 188)/\(rw2 w cs).heap[w.heap.size+1]? =some (.cells nd0 67)/\(rw2 w cs).heap.size=w.heap.size+2/\Below w.heap.size w (rw2 w cs):=by refine ⟨(Below.heap_alloc _ _ _ (by simp)).trans (heap_alloc_new w _), ?_,by simp,aD (aD (Below.refl _ _) _) _⟩;have:=heap_alloc_new (w.alloc (.cells cs 188)) (.cells nd0 67);simpa using this
theorem RA.aEs {W w u:World} {b:Nat} {cs es:Array Value} {o:Option (T × List Tk.Tok)} (hb:b < w.heap.size) (hn:NA es) (h:RA W b (rw2 w cs) o es u):
  Hid ((Instr.storeAt 67 (.pointer (some ⟨w.heap.size+1,0,none⟩)) (.agg es)).run Tryz.prog u=.ok () (u.setRow (w.heap.size+1) es))/\Hid (u.heap[w.heap.size+1]? =some (.cells nd0 67))/\Hid (es.size=18)/\Hid (NA es)/\
  Hid (RA W b w o es (u.setRow (w.heap.size+1) es)):=by
 obtain⟨f0,f1,f2,f3⟩:=jL (w:=w) (cs:=cs);have k1:=h.kept f1 (by omega);refine ⟨hn.sto k1 rfl,k1,hn.size,hn, ?_⟩;cases o with
 | none=>exact(show Sw W b (rw2 w cs) u from h).dQ.dQ.grown (aL _ _ _) (by omega) hb
 | some p=>
  obtain⟨h1,h2⟩:=h;exact⟨(h1.grown (aL _ _ _) (fun g e hk=>by cases e;have hk':(rw2 w cs).heap.size<=w.heap.size+1:=hk;omega)).mono (fun i hi _=>by have hi':(rw2 w cs).heap.size<=i:=hi;omega),h2.dQ.dQ.grown (aL _ _ _) (by omega) hb⟩
theorem RA.leaf {W w u:World} {b:Nat} {L:List Tk.Tok} (a:Lab) (h:Sq W b L w u):RA W b w (some (tree a [],L)) (lcs a (.slice none 0 0)) u:=⟨NK.leaf,h⟩
theorem pV (a:Lab):NA (lcs a (.slice none 0 0)):=⟨_,_,_,_,rfl⟩
theorem aLT (u:World) (bk h:ByteArray) (r c:Int) (fr fc:Bool):(Instr.build 67 #[(0,.int .i64 2),(3,dB bk h r c fr fc)]).run Tryz.prog u=.ok (.agg (lcs ⟨2,nb,0,0,nb,bk,h,r,c,fr,fc,nb,nb,0,0,false,false⟩ (.slice none 0 0))) u:=by kernel_rfl
theorem aLU (u:World) (bk h:ByteArray) (r c:Int) (fr fc:Bool) (bk' h':ByteArray) (r' c':Int) (fr' fc':Bool):(Instr.build 67 #[(0,.int .i64 3),(3,dB bk h r c fr fc),(4,dB bk' h' r' c' fr' fc')]).run Tryz.prog u=.ok (.agg (lcs ⟨3,nb,0,0,nb,bk,h,r,c,fr,fc,bk',h',r',c',fr',fc'⟩ (.slice none 0 0))) u:=by kernel_rfl
theorem aLV (bk h:ByteArray) (r c:Int) (fr fc:Bool):(#[.string bk,.string h,.int .i64 r,.int .i64 c,.bool fr,.bool fc]:Array Value).all (·.oneCell')=true:=by simp [Value.oneCell']
abbrev aOr:Array Value:=#[.string noB,.string noB,.int .i64 0,.int .i64 0,.bool false,.bool false]
section
variable {W w:World} {b:Nat} {k0 n0 r1 c1:Int} {s0 b1 h1:ByteArray} {fr1 fc1:Bool}
theorem aBE {u:World} {g:Nat} (hg:u.heap[g]? =some (.cells (tcs k0 n0 s0 b1 h1 r1 c1 fr1 fc1) 188)):(Instr.loadAt 64 (.pointer (some ⟨g,3,none⟩))).run Tryz.prog u=.ok (dB b1 h1 r1 c1 fr1 fc1) u:=by
 have:=aDb (u:=u) (g:=g) (o:=0) (k:=k0) (n:=n0) (s:=s0) (bk:=b1) (h:=h1) (r:=r1) (c:=c1) (fr:=fr1) (fc:=fc1) (fun j x hx=>by
  rw [Nat.zero_add,cell_of_row u g j _ 188 (0,0) hg,<-Array.getElem?_toList];exact hx)
 rw [Nat.zero_add] at this;exact this
theorem aJz {L:List Tk.Tok} (hn:L.length<=256) (h:aV L ≠ [58]) (X:QR W b L w):Calls Tryz.prog 245 #[pt b,.agg (tcs k0 n0 s0 b1 h1 r1 c1 fr1 fc1)] w (RO W b w (some (tree ⟨2,nb,0,0,nb,b1,h1,r1,c1,fr1,fc1,nb,nb,0,0,false,false⟩ [],L))):=by
 have hb:=X.lt;obtain⟨f0,f1,f2,f3⟩:=jL (w:=w) (cs:=tcs k0 n0 s0 b1 h1 r1 c1 fr1 fc1);have X2:=X.below f3;have OP:=fG X2 hn;have hne:((ba (aV L)).toList==[58])=false:=bI h;have RL:Hid _:=aBE f0;have RB:Hid _:=aLT (rw2 w (tcs k0 n0 s0 b1 h1 r1 c1 fr1 fc1)) b1 h1 r1 c1 fr1 fc1;obtain⟨RS,HG,HZ,HNA,HF⟩:=RA.aEs hb (pV _) (RA.leaf ⟨2,nb,0,0,nb,b1,h1,r1,c1,fr1,fc1,nb,nb,0,0,false,false⟩ (Sq.refl X2));clear X X2 h f0 f1 f2 f3;generalize lcs ⟨2,nb,0,0,nb,b1,h1,r1,c1,fr1,fc1,nb,nb,0,0,false,false⟩ (.slice none 0 0)=es at *;generalize hcs:tcs k0 n0 s0 b1 h1 r1 c1 fr1 fc1=cs at *;generalize ba (aV L)=A at *;go_enter Tryz.func245,Tryz.ntmps245;go_wp2_with (first|(go_at_call 156;refine mw OP ?_)|(refine aC rfl 64 _ rfl _ _ rfl RL.out ?_;clear RL)|(refine aM rfl 67 _ rfl _ _ (by go_simp) RB.out ?_;clear RB)|(refine aB rfl 67 _ _ rfl _ _ _ rfl rfl RS.out ?_;clear RS))
 exact bodyPost_ret (aY HG.out HZ.out rfl rfl) rfl ⟨_,rfl,HNA.out,HF.out⟩
theorem aJA {L:List Tk.Tok} (hn:L.length<=256) (h:aV L=[58]) (hL:L.tail=[]) (X:QR W b L w):Calls Tryz.prog 245 #[pt b,.agg (tcs k0 n0 s0 b1 h1 r1 c1 fr1 fc1)] w (RO W b w none):=by
 have hb:=X.lt;generalize hcs:tcs k0 n0 s0 b1 h1 r1 c1 fr1 fc1=cs at *;obtain⟨f0,f1,f2,f3⟩:=jL (w:=w) (cs:=cs);have X2:=X.below f3;have OP:Calls Tryz.prog 156 #[pt b] (rw2 w cs) fun e w'=>e=.returned (.string ⟨#[58]⟩)/\w'=rw2 w cs:=by have:=fG X2 hn;rw [h] at this;exact this
 have TK:Calls Tryz.prog 157 #[pt b,.string ⟨#[58]⟩] (rw2 w cs) fun e w2=>e=.returned (.tuple #[])/\Hid (Sq W b [] (rw2 w cs) w2)/\∃a c,w2.cell? ⟨b,0,none⟩=some (.slice a 0 c):=(eD (s:=[58]) X2 hn (by decide) h).mono (by
  rintro e w2 ⟨rfl,h2⟩;rw [hL] at h2;obtain⟨v,hv,hs⟩:=h2.1.blk;obtain⟨a,c,rfl⟩:=hs.slice;exact⟨rfl,h2,a,c,(bM hv).1⟩)
 have FA:Hid (∀u,Sq W b [] (rw2 w cs) u->Calls Tryz.prog 244 #[pt b] u fun e w3=>∃es,e=.returned (.agg es)/\Hid ((Instr.storeAt 67 (.pointer (some ⟨w.heap.size+1,0,none⟩)) (.agg es)).run Tryz.prog w3=.ok () (w3.setRow (w.heap.size+1) es))/\Hid (w3.heap[w.heap.size+1]? =some (.cells nd0 67))/\Hid (es.size=18)/\Hid (NA es)/\
  Hid (RA W b w none es (w3.setRow (w.heap.size+1) es))):=fun u hu=>(mR hu.1.b).mono (by
  rintro e w3 ⟨rfl,h3⟩;exact⟨nd0,rfl,RA.aEs (cs:=cs) (o:=none) hb NA.zero (hu.bad h3)⟩)
 clear X X2 h f0 f1 f2 f3 hcs;go_enter Tryz.func245,Tryz.ntmps245;go_wp2_with (first|(go_at_call 156;refine mw OP ?_)|(go_at_call 157;refine TK.mono ?_;rintro e w2 ⟨rfl,HS2,a,c,hc0⟩)|(go_at_call 244;refine (FA.out _ HS2.out).mono ?_;rintro e w3 ⟨es,rfl,RS,HG,HZ,HNA,HF⟩)|(refine aB rfl 67 _ _ rfl _ _ _ rfl rfl RS.out ?_;clear RS))
 exact bodyPost_ret (aY HG.out HZ.out rfl rfl) rfl ⟨_,rfl,HNA.out,HF.out⟩
theorem aJB {L q:List Tk.Tok} {t:Tk.Tok} (hn:L.length<=256) (h:aV L=[58]) (hL:L.tail=t:: q) (hk:(tk t).k ≠ 3\/((tk t).k=3/\¬(tk t).h.toList=[])) (X:QR W b L w):Calls Tryz.prog 245 #[pt b,.agg (tcs k0 n0 s0 b1 h1 r1 c1 fr1 fc1)] w (RO W b w none):=by
 have hb:=X.lt;generalize hcs:tcs k0 n0 s0 b1 h1 r1 c1 fr1 fc1=cs at *;obtain⟨f0,f1,f2,f3⟩:=jL (w:=w) (cs:=cs);have X2:=X.below f3;have OP:Calls Tryz.prog 156 #[pt b] (rw2 w cs) fun e w'=>e=.returned (.string ⟨#[58]⟩)/\w'=rw2 w cs:=by have:=fG X2 hn;rw [h] at this;exact this
 have TK:Calls Tryz.prog 157 #[pt b,.string ⟨#[58]⟩] (rw2 w cs) fun e w2=>e=.returned (.tuple #[])/\Hid (Sq W b (t:: q) (rw2 w cs) w2)/\∃g o c,w2.cell? ⟨b,0,none⟩=some (.slice (some ⟨g,o,none⟩) (q.length+1) c)/\w2.cell? ⟨g,o,none⟩=some (.int .i64 (tk t).k)/\w2.cell? ⟨g,o+(3+1),none⟩=some (.string (tk t).h):=(eD (s:=[58]) X2 hn (by decide) h).mono (by
  rintro e w2 ⟨rfl,h2⟩;rw [hL] at h2;obtain⟨g,o,c,hv,_,hcc,_⟩:=h2.1.first;exact⟨rfl,h2,g,o,c,(bM hv).1,hcc 0 _ rfl,hcc 4 _ rfl⟩)
 have FA:Hid (∀u,Sq W b (t:: q) (rw2 w cs) u->Calls Tryz.prog 244 #[pt b] u fun e w3=>∃es,e=.returned (.agg es)/\Hid ((Instr.storeAt 67 (.pointer (some ⟨w.heap.size+1,0,none⟩)) (.agg es)).run Tryz.prog w3=.ok () (w3.setRow (w.heap.size+1) es))/\Hid (w3.heap[w.heap.size+1]? =some (.cells nd0 67))/\Hid (es.size=18)/\Hid (NA es)/\
  Hid (RA W b w none es (w3.setRow (w.heap.size+1) es))):=fun u hu=>(mR hu.1.b).mono (by
  rintro e w3 ⟨rfl,h3⟩;exact⟨nd0,rfl,RA.aEs (cs:=cs) (o:=none) hb NA.zero (hu.bad h3)⟩)
 have hlq:(((q.length:Int)+1)==0)=false:=by simp;omega
 have hlt:q.length<=256:=by have:=(bA (ts:=L) h (by decide)).1;rw [hL] at this;simp at this;omega
 clear X X2 h f0 f1 f2 f3 hcs hL;generalize (tk t).k=k at *;generalize (tk t).h=hh at *;rcases hk with hk | ⟨rfl,hs⟩
 ·have hkb:(k !=3)=true:=by simpa using hk
  clear hk;go_enter Tryz.func245,Tryz.ntmps245;go_wp2_with (first|(go_at_call 156;refine mw OP ?_)|(go_at_call 157;refine TK.mono ?_;rintro e w2 ⟨rfl,HS2,g,o,c,hc0,hk0,hk4⟩;generalize q.length=n at *)|(go_at_call 244;refine (FA.out _ HS2.out).mono ?_;rintro e w3 ⟨es,rfl,RS,HG,HZ,HNA,HF⟩)|(refine aB rfl 67 _ _ rfl _ _ _ rfl rfl RS.out ?_;clear RS))
  exact bodyPost_ret (aY HG.out HZ.out rfl rfl) rfl ⟨_,rfl,HNA.out,HF.out⟩
 ·have hsb:hh.toList.isEmpty=false:=by
   cases hx:hh.toList with
   | nil=>exact absurd hx hs
   | cons _ _=>rfl
  clear hs;go_enter Tryz.func245,Tryz.ntmps245;go_wp2_with (first|(go_at_call 156;refine mw OP ?_)|(go_at_call 157;refine TK.mono ?_;rintro e w2 ⟨rfl,HS2,g,o,c,hc0,hk0,hk4⟩;generalize q.length=n at *)|(go_at_call 244;refine (FA.out _ HS2.out).mono ?_;rintro e w3 ⟨es,rfl,RS,HG,HZ,HNA,HF⟩)|(refine aB rfl 67 _ _ rfl _ _ _ rfl rfl RS.out ?_;clear RS))
  exact bodyPost_ret (aY HG.out HZ.out rfl rfl) rfl ⟨_,rfl,HNA.out,HF.out⟩
theorem aJC {L q:List Tk.Tok} {t:Tk.Tok} (hn:L.length<=256) (h:aV L=[58]) (hL:L.tail=t:: q) (hk:(tk t).k=3) (hs:(tk t).h.toList=[]) (X:QR W b L w):Calls Tryz.prog 245 #[pt b,.agg (tcs k0 n0 s0 b1 h1 r1 c1 fr1 fc1)] w
  (RO W b w (some (tree ⟨3,nb,0,0,nb,b1,h1,r1,c1,fr1,fc1,(tk t).b,(tk t).h,(tk t).r,(tk t).c,(tk t).fr,(tk t).fc⟩ [],q))):=by
 have hb:=X.lt;obtain⟨f0,f1,f2,f3⟩:=jL (w:=w) (cs:=tcs k0 n0 s0 b1 h1 r1 c1 fr1 fc1);have X2:=X.below f3;have OP:Calls Tryz.prog 156 #[pt b] (rw2 w (tcs k0 n0 s0 b1 h1 r1 c1 fr1 fc1)) fun e w'=>e=.returned (.string ⟨#[58]⟩)/\w'=rw2 w (tcs k0 n0 s0 b1 h1 r1 c1 fr1 fc1):=by have:=fG X2 hn;rw [h] at this;exact this
 have hlq:(((q.length:Int)+1)==0)=false:=by simp;omega
 have hlt:q.length<=256:=by have:=(bA (ts:=L) h (by decide)).1;rw [hL] at this;simp at this;omega
 have TK:Calls Tryz.prog 157 #[pt b,.string ⟨#[58]⟩] (rw2 w (tcs k0 n0 s0 b1 h1 r1 c1 fr1 fc1)) fun e w2=>e=.returned (.tuple #[])/\∃g o c A,w2.cell? ⟨b,0,none⟩=some (.slice (some ⟨g,o,none⟩) (q.length+1) c)/\w2.cell? ⟨g,o,none⟩=some (.int .i64 (tk t).k)/\w2.cell? ⟨g,o+(3+1),none⟩=some (.string (tk t).h)/\q.length+1<=c/\
   (if c=1 then some (⟨g,o,none⟩:Addr) else some ⟨g,o+9,none⟩)=A/\
   Hid ((Instr.loadAt 64 (.pointer (some ⟨g,o+3,none⟩))).run Tryz.prog w2=.ok (dB (tk t).b (tk t).h (tk t).r (tk t).c (tk t).fr (tk t).fc) w2)/\
   Hid ((Instr.storeAt 64 (pt w2.heap.size) (dB (tk t).b (tk t).h (tk t).r (tk t).c (tk t).fr (tk t).fc)).run Tryz.prog (w2.alloc (.cells aOr 64))=.ok () (w2.alloc (dP (tk t).b (tk t).h (tk t).r (tk t).c (tk t).fr (tk t).fc)))/\
   (w2.alloc (dP (tk t).b (tk t).h (tk t).r (tk t).c (tk t).fr (tk t).fc)).cell? ⟨b,0,none⟩=some (.slice (some ⟨g,o,none⟩) (q.length+1) c)/\(w2.alloc (dP (tk t).b (tk t).h (tk t).r (tk t).c (tk t).fr (tk t).fc)).frozen? ⟨b,0,none⟩=false/\
   ∃w5,(w2.alloc (dP (tk t).b (tk t).h (tk t).r (tk t).c (tk t).fr (tk t).fc)).setCell ⟨b,0,none⟩ (.slice A q.length (c - 1))=w5/\
   Hid ((Instr.loadAt 64 (.pointer (some ⟨w.heap.size,3,none⟩))).run Tryz.prog w5=.ok (dB b1 h1 r1 c1 fr1 fc1) w5)/\Hid ((Instr.loadAt 64 (pt w2.heap.size)).run Tryz.prog w5=.ok (dB (tk t).b (tk t).h (tk t).r (tk t).c (tk t).fr (tk t).fc) w5)/\
   Hid (Sq W b q (rw2 w (tcs k0 n0 s0 b1 h1 r1 c1 fr1 fc1)) w5):=(eD (s:=[58]) X2 hn (by decide) h).mono (by
  rintro e w2 ⟨rfl,h2⟩;rw [hL] at h2;obtain⟨g,o,c,hv,hlc,hcc,hts⟩:=h2.1.first;have hz2:=h2.2.size;have B3:Below w2.heap.size w2 (w2.alloc (dP (tk t).b (tk t).h (tk t).r (tk t).c (tk t).fr (tk t).fc)):=aD (Below.refl _ _) _;have hv3:=(B3.block _ (aZ hv)).trans hv;have G5:=Lib.grownBy_setCell (w2.alloc (dP (tk t).b (tk t).h (tk t).r (tk t).c (tk t).fr (tk t).fc)) b 0 (.slice (if c=1 then some ⟨g,o,none⟩ else some ⟨g,o+9,none⟩) q.length (c - 1));have hR:=h2.1.rest B3 hts;have hk0:=h2.kept f0 (by omega);have hk3:=(B3.block _ (aZ hk0)).trans hk0;refine ⟨rfl,g,o,c,_,(bM hv).1,hcc 0 _ rfl,hcc 4 _ rfl,hlc,rfl,aDb (fun j x hx=>hcc j x hx),run_storeAt_new w2 64 aOr _ aFr rfl (aLV _ _ _ _ _ _),(bM hv3).1,(bM hv3).2.2.1,_,rfl, ?_, ?_,h2.step hR⟩
  ·exact aBE ((G5.block _ (aZ hk3) (by intro e;have:=Option.some.inj e;omega)).trans hk3)
  ·exact lod (z:=(0,0)) ((G5.block _ (by simp) (by intro e;have:=Option.some.inj e;have:=aZ hv;omega)).trans (heap_alloc_new _ _)) rfl Tryz.underlying64 aFr)
 have FIN:Hid (∀u,Sq W b q (rw2 w (tcs k0 n0 s0 b1 h1 r1 c1 fr1 fc1)) u->_):=fun u hu=>RA.aEs hb (pV _) (RA.leaf ⟨3,nb,0,0,nb,b1,h1,r1,c1,fr1,fc1,(tk t).b,(tk t).h,(tk t).r,(tk t).c,(tk t).fr,(tk t).fc⟩ hu);have RB:Hid _:=fun u=>aLU u b1 h1 r1 c1 fr1 fc1 (tk t).b (tk t).h (tk t).r (tk t).c (tk t).fr (tk t).fc;clear X X2 h f0 f1 f2 f3 hL;generalize tk t=tt at *;obtain⟨k,n,s,bk,hh,r,c,fr,fc⟩:=tt;dsimp only at *;subst hk;have hsb:hh.toList.isEmpty=true:=by rw [hs];rfl
 clear hs;generalize lcs ⟨3,nb,0,0,nb,b1,h1,r1,c1,fr1,fc1,bk,hh,r,c,fr,fc⟩ (.slice none 0 0)=es at *;generalize hcs:tcs k0 n0 s0 b1 h1 r1 c1 fr1 fc1=cs at *;clear hcs;go_enter Tryz.func245,Tryz.ntmps245;go_wp2_with (first|(go_at_call 156;refine mw OP ?_)|(go_at_call 157;refine TK.mono ?_;rintro e w2 ⟨rfl,g,o,cc,A,hc0,hk0,hk4,hlc,hA,RT,aOs,hc3,hf3,w5,hw5,RL5,RM5,HS5⟩;obtain⟨RS,HG,HZ,HNA,HF⟩:=FIN.out _ HS5.out;generalize q.length=n at *)|(refine aC rfl 64 _ rfl _ _ rfl RT.out ?_;clear RT)|(refine aB rfl 64 _ _ rfl _ _ _ rfl rfl aOs.out ?_;clear aOs)|(refine aC rfl 64 _ rfl _ _ rfl RL5.out ?_;clear RL5)|(refine aC rfl 64 _ rfl _ _ rfl RM5.out ?_;clear RM5)|(refine aM rfl 67 _ rfl _ _ (by go_simp) (RB.out _) ?_)|(refine aB rfl 67 _ _ rfl _ _ _ rfl rfl RS.out ?_;clear RS))
 exact bodyPost_ret (aY HG.out HZ.out rfl rfl) rfl ⟨_,rfl,HNA.out,HF.out⟩
end
theorem aJD {W w:World} {b:Nat} (x:Ad.Ref) {L:List Tk.Tok} (hn:L.length<=256) (X:QR W b L w):Calls Tryz.prog 245 #[pt b,.agg (tk (Tk.Tok.ref x)).cs] w (RO W b w (aBs x L)):=by
 unfold aBs;by_cases h:aV L=[58]
 ·rw [if_pos h];cases hL:L.tail with
  | nil=>exact aJA hn h hL X
  | cons t q=>
   have no:((tk t).k ≠ 3\/((tk t).k=3/\¬(tk t).h.toList=[]))->Calls Tryz.prog 245 #[pt b,.agg (tk (Tk.Tok.ref x)).cs] w (RO W b w none):=fun hne=>aJB hn h hL hne X;cases t using Tk.Tok.cs with
   | ref y=>
    simp only;by_cases hy:y.eP=[]
    ·rw [if_pos hy];exact aJC hn h hL rfl (by rw [ByteArray.toList_eq];exact hy) X
    ·rw [if_neg hy];exact no (.inr ⟨rfl,fun e=>hy (by rw [ByteArray.toList_eq] at e;exact e)⟩)
   | num n=>exact no (.inl (by simp [tk]))
   | str n=>exact no (.inl (by simp [tk]))
   | word n m=>exact no (.inl (by simp [tk]))
   | op n=>exact no (.inl (by simp [tk]))
   | bad n=>exact no (.inl (by simp [tk]))
 ·rw [if_neg h];exact aJz hn h X
theorem wp_append_run {P:Program} {o:Oper} {a:Act} {w w':World} {K:Act->World->Prop} {Q:Exit->Act->World->Prop} (d:Option Tmp) (hd:o.dst=d) (ty:TypeId) (hty:o.type=ty) (s x:Operand) (t:TypeId)
  (ho:o.op=.call { callee:=.builtin .append,args:=#[s,x],argTypes:=#[t,t] }) (v bv v':Value) (hs:a.eval s=v) (hx:a.eval x=bv) (hrun:(Builtin.append_ #[t,t] ty #[v,bv]).run P w=.ok v' w')
  (h:K (a.put d v') w'):Oper.wp P o a w K Q:=by
 subst hd hty;unfold Oper.wp;simp [execOp,ho,resolve,invoke,builtin,hs,hx,hrun,Result.andThen];exact h
theorem aDc {u:World} {g o:Nat} {a:Option Addr} {n c:Nat} {old:Value} (hc:u.cell? ⟨g,o,none⟩=some old) (hf:u.frozen? ⟨g,o,none⟩=false):(Instr.storeAt 65 (.pointer (some ⟨g,o,none⟩)) (.slice a n c)).run Tryz.prog u=.ok () (u.setCell ⟨g,o,none⟩ (.slice a n c)):=by have h1:=Tryz.underlying65;have h2:=Tryz.isAgg65;have h3:=Tryz.sizeOf65;go_simp
theorem aGL {base:Nat} {w:World} {v:Value} {L:List (Array Value × T)} (h:oI base w v L) {es:Array Value} {t:T} (hN:NA es) {g:Nat} (hg:w.heap[g]? =some (.cells es 67)) (hn:L.length<=100000) (hbase:base<=w.heap.size):
  ∃v' w',Hid ((Builtin.append_ #[65,65] 65 #[v,.slice (some ⟨g,0,none⟩) 1 1]).run Tryz.prog w=.ok v' w')/\oI base w' v' (L++ [(es,t)])/\w.grownBy w' v.ownBlock/\(v'.ownBlock=v.ownBlock\/v'.ownBlock=some w.heap.size):=by
 obtain⟨i0,hi,hz0,hz1,hz2⟩:=info_parts aIN;have hz:=hN.size;obtain⟨v',w',r1,o1,g1,_,g2⟩:=run_append_own_at w base 65 65 67 i0 _ 18 192 Tryz.underlying65 hi hz0 hz1 hz2 rfl (by decide) v _ _ h ⟨g,0,none⟩ 1 1 es.toList (by simp [hz])
  (fun j x hj=>by rw [aDa,Nat.zero_add,cell_of_row w g j _ _ _ hg,<-hj];simp) (by
   have:=hN.one;intro x hx;rw [Array.all_eq_true_iff_forall_mem] at this;exact this x (by simpa using hx)) (by simp only [maxLen];omega) (by omega) hbase
 refine ⟨v',w',r1, ?_,g1,g2⟩;unfold oI;rw [List.length_append,List.flatMap_append];simpa using o1
def goF (acc:List T) (r:List Tk.Tok):Option (List T × List Tk.Tok):=
 (PP 1 r).bind fun p=>(dR (PP 1) (p.2.length+1) (acc++ [p.1]) p.2).bind fun q=>if q.1.length<=16 then some q else none
theorem aOt {ts:List Tk.Tok} (h:aV ts ≠ [41]):AA ts=goF [] ts:=by unfold AA goF;rw [if_neg h];rfl
theorem aJE {acc:List T} {r:List Tk.Tok} {p:T × List Tk.Tok} (hp:PP 1 r=some p) (h':aV p.2=[44]):goF acc r=goF (acc++ [p.1]) p.2.tail:=by
 have h:aV p.2 ≠ [41]:=by rw [h'];decide
 unfold goF;rw [hp,Option.bind_some,yY h h'];cases PP 1 p.2.tail with
 | none=>rfl
 | some q=>rfl
theorem aJF {acc:List T} {r:List Tk.Tok} {p:T × List Tk.Tok} (hp:PP 1 r=some p) (h:aV p.2=[41]):goF acc r=if (acc++ [p.1]).length<=16 then some (acc++ [p.1],p.2.tail) else none:=by unfold goF;rw [hp,Option.bind_some,yX h,Option.bind_some]
theorem aNu {acc:List T} {r:List Tk.Tok} {p:T × List Tk.Tok} (hp:PP 1 r=some p) (h:aV p.2 ≠ [41]) (h':aV p.2 ≠ [44]):goF acc r=none:=by unfold goF;rw [hp,Option.bind_some,aCS h h'];rfl
theorem aLW {acc:List T} {r:List Tk.Tok} (hp:PP 1 r=none):goF acc r=none:=by unfold goF;rw [hp];rfl
structure CI (W:World) (b:Nat) (w:World) (S:ByteArray) (v:Value) (L:List (Array Value × T)) (u:World):Prop where
 box:u.heap[w.heap.size+1]? =some (.cells (lcs (bG 7 S) v) 67)
 res:u.heap[w.heap.size]? =some (.cells nd0 67)
 own:oI (w.heap.size+2) u v L
 grow:w.grownBy u (some b)
theorem CI.cells {W w u:World} {b:Nat} {S:ByteArray} {v:Value} {L:List (Array Value × T)} (h:CI W b w S v L u):u.cell? ⟨w.heap.size+1,17,none⟩=some v/\u.frozen? ⟨w.heap.size+1,17,none⟩=false:=⟨qW h.box,by unfold World.frozen?;rw [h.box];rfl⟩
theorem aOu {u:World} {g:Nat} {a:Lab} {v v':Value} (h:u.heap[g]? =some (.cells (lcs a v) 67)):(u.setCell ⟨g,17,none⟩ v').heap[g]? =some (.cells (lcs a v') 67):=by simp [World.setCell,Array.getElem?_modify,h];rfl
abbrev mS (W:World) (b:Nat) (w:World) (o2:Option (T × List Tk.Tok)) (P:T->Prop) (u:World):Prop:=match o2 with
 | none=>Sw W b w u
 | some p=>Sq W b p.2 w u/\P p.1
theorem CI.more {W w wr u w3:World} {b:Nat} {S:ByteArray} {a:Option Addr} {n c:Nat} {L:List (Array Value × T)} {es2:Array Value} {o2:Option (T × List Tk.Tok)} (h:CI W b w S (.slice a n c) L wr) (hb:b < w.heap.size) (hL:L.length<=1000) (hd:wr.drew=u) (hn:NA es2) (h3:RA W b u o2 es2 w3) (t:T):
  Hid ((Instr.buildSlice 65 1 #[(0,.agg es2)]).run Tryz.prog w3=.ok (.slice (some ⟨w3.heap.size,0,none⟩) 1 1) (w3.alloc (.cells es2 67)))/\
  ∃a' n' c' w5,Hid ((Builtin.append_ #[65,65] 65 #[.slice a n c,.slice (some ⟨w3.heap.size,0,none⟩) 1 1]).run Tryz.prog (w3.alloc (.cells es2 67))=.ok (.slice a' n' c') w5)/\n'=L.length+1/\
   Hid ((Instr.storeAt 65 (.pointer (some ⟨w.heap.size+1,17,none⟩)) (.slice a' n' c')).run Tryz.prog w5=.ok () (w5.setCell ⟨w.heap.size+1,17,none⟩ (.slice a' n' c')))/\
   Hid (w3.cell? ⟨w.heap.size+1,17,none⟩=some (.slice a n c))/\Hid ((w3.alloc (.cells es2 67)).cell? ⟨w.heap.size+1,17,none⟩=some (.slice a n c))/\Hid (w5.cell? ⟨w.heap.size+1,17,none⟩=some (.slice a n c))/\
   Hid (CI W b w S (.slice a' n' c') (L++ [(es2,t)]) (w5.setCell ⟨w.heap.size+1,17,none⟩ (.slice a' n' c')))/\
   Hid (mS W b w o2 (fun m=>(∀x ∈ L,NK (fun i=>w.heap.size+2<=i/\(Value.slice a n c).ownBlock ≠ some i) wr x.1 x.2)->t=m->∀x ∈ L++ [(es2,t)],NK (fun i=>w.heap.size+2<=i/\(Value.slice a' n' c').ownBlock ≠ some i) (w5.setCell ⟨w.heap.size+1,17,none⟩ (.slice a' n' c')) x.1 x.2) (w5.setCell ⟨w.heap.size+1,17,none⟩ (.slice a' n' c'))):=by
 subst hd;have hbx:=aZ h.box;have hs3:wr.heap.size<=w3.heap.size:=h3.grow.size;have B3:w3.heap[w.heap.size+1]? =some (.cells (lcs (bG 7 S) (.slice a n c)) 67):=h3.kept (w:=wr.drew) h.box (by omega);have R3:w3.heap[w.heap.size]? =some (.cells nd0 67):=h3.kept (w:=wr.drew) h.res (by omega);have hob:=wT h.own (show b < w.heap.size+2 by omega);have aPv:oI (w.heap.size+2) w3 (.slice a n c) L:=jK h.own (show wr.grownBy w3 (some b) from aI (bD (Below.refl _ _).drew) h3.grow) hob;have B4:(w3.alloc (.cells es2 67)).heap[w.heap.size+1]? =some (.cells (lcs (bG 7 S) (.slice a n c)) 67):=(Below.heap_alloc _ _ _ (by omega)).trans B3;have R4:(w3.alloc (.cells es2 67)).heap[w.heap.size]? =some (.cells nd0 67):=(Below.heap_alloc _ _ _ (by omega)).trans R3;have aPw:=jK aPv (World.grownBy_alloc w3 (.cells es2 67) none) (by cases (Value.slice a n c).ownBlock <;> simp);obtain⟨v',w5,RA5,o5,g5,g6⟩:=aGL (t:=t) aPw hn (g:=w3.heap.size) (heap_alloc_new _ _) (by omega) (by simp;omega);obtain⟨a',c',rfl⟩:=nJ o5;have aBr:∀g,(Value.slice a n c).ownBlock=some g->w.heap.size+2<=g/\g < wr.heap.size:=fun g hg=>World.ownsRow.lt h.own g hg;have hne1:(Value.slice a n c).ownBlock ≠ some (w.heap.size+1):=fun e=>by have:=(aBr _ e).1;omega
 have hne0:(Value.slice a n c).ownBlock ≠ some w.heap.size:=fun e=>by have:=(aBr _ e).1;omega
 have B5:w5.heap[w.heap.size+1]? =some (.cells (lcs (bG 7 S) (.slice a n c)) 67):=(g5.block _ (aZ B4) (Ne.symm hne1)).trans B4;have R5:w5.heap[w.heap.size]? =some (.cells nd0 67):=(g5.block _ (aZ R4) (Ne.symm hne0)).trans R4;have hf5:w5.frozen? ⟨w.heap.size+1,17,none⟩=false:=by unfold World.frozen?;rw [B5];rfl
 have G6:=Lib.grownBy_setCell w5 (w.heap.size+1) 17 (.slice a' (L++ [(es2,t)]).length c');have aPx:∀g,(Value.slice a' (L++ [(es2,t)]).length c').ownBlock=some g->w.heap.size+2<=g:=fun g hg=>(World.ownsRow.lt o5 g hg).1;have gr3:w.grownBy w3 (some b):=aI h.grow (aI (bD (Below.refl _ _).drew) h3.grow);have gr4:w.grownBy (w3.alloc (.cells es2 67)) (some b):=aI gr3 (World.grownBy_alloc _ _ _);have gr5:w.grownBy w5 (some b):=World.grownBy.andThen gr4 g5 (fun j e=> .inl (by have:=(aBr j e).1;omega));have gr6:w.grownBy (w5.setCell ⟨w.heap.size+1,17,none⟩ (.slice a' (L++ [(es2,t)]).length c')) (some b):=World.grownBy.andThen gr5 G6 (fun j e=>by cases e;exact .inl (by omega));have st:∀{M:World->Prop},True:=fun {M}=>trivial;refine ⟨aEr hn,a',_,c',w5,RA5,by simp,aDc (qW B5) hf5,qW B3,qW B4,qW B5,⟨aOu B5,(G6.block _ (aZ R5) (by intro e;have:=Option.some.inj e;omega)).trans R5, ?_,gr6⟩, ?_⟩
 ·refine jK o5 G6 (.inr fun e=> ?_);have:=aPx _ e;omega
 ·cases o2 with
  | none=>
   have h3':Sw W b wr.drew w3:=h3;show Sw W b w _;have q4:=h3'.1.below (aD (Below.refl _ _) (.cells es2 67));have hlo:=h3'.1.lo;have q5:QW W b w5:=q4.grown g5 (fun k e=>by have:=(aBr k e).1;exact⟨by omega,by omega⟩);exact⟨q5.grown G6 (fun k e=>by cases e;exact⟨by omega,by omega⟩),gr6⟩
  | some p=>
   obtain⟨h1,h2⟩:=h3;have q4:=h2.1.below (aD (Below.refl _ _) (.cells es2 67));have hlo:=h2.1.lo;have q5:QR W b p.2 w5:=q4.grown g5 (fun k e=>by have:=(aBr k e).1;exact⟨by omega,by omega⟩);refine ⟨⟨q5.grown G6 (fun k e=>by cases e;exact⟨by omega,by omega⟩),gr6⟩,fun HN ht x hx=> ?_⟩;have base:NK (fun i=>w.heap.size+2<=i/\(Value.slice a n c).ownBlock ≠ some i/\i < w3.heap.size) (w3.alloc (.cells es2 67)) x.1 x.2:=by
    refine NK.below ?_ (aD (Below.refl _ _) _);rcases List.mem_append.1 hx with hx | hx
    ·exact ((HN x hx).grown (show wr.grownBy w3 (some b) from aI (bD (Below.refl _ _).drew) h2.2) (fun g e hk=>by cases e;have:=hk.1;omega)).mono (fun i hi hl=>⟨hi.1,hi.2,hl⟩)
    ·simp only [List.mem_cons,List.not_mem_nil,or_false] at hx;subst hx;subst ht;exact h1.mono (fun i hi hl=>⟨by have hi':wr.heap.size<=i:=hi;omega,fun e=>by have:=(aBr i e).2;have hi':wr.heap.size<=i:=hi;omega,hl⟩)
   refine ((base.grown g5 (fun g e hk=>hk.2.1 e)).mono (K':=fun i=>w.heap.size+2<=i/\(Value.slice a' (L++ [(es2,t)]).length c').ownBlock ≠ some i) (fun i hi _=>⟨hi.1,fun e=> ?_⟩)).grown G6 (fun g e hk=>by cases e;have:=hk.1;omega);rcases g6 with g6 | g6
   ·exact hi.2.1 (by rw [<-g6];exact e)
   ·rw [g6] at e;have:=Option.some.inj e;have:=hi.2.2;simp at *;omega
theorem CI.fin {W w u:World} {b:Nat} {S:ByteArray} {v:Value} {L:List (Array Value × T)} (h:CI W b w S v L u):Hid ((Instr.loadAt 67 (.pointer (some ⟨w.heap.size+1,0,none⟩))).run Tryz.prog u=.ok (.agg (lcs (bG 7 S) v)) u)/\Hid ((Instr.storeAt 67 (pt w.heap.size) (.agg (lcs (bG 7 S) v))).run Tryz.prog u=.ok () (u.setRow w.heap.size (lcs (bG 7 S) v)))/\Hid (u.heap[w.heap.size]? =some (.cells nd0 67))/\Hid ((lcs (bG 7 S) v).size=18)/\Hid (NA (lcs (bG 7 S) v)):=by
 obtain⟨a,c,rfl⟩:=nJ h.own;have hn:NA (lcs (bG 7 S) (.slice a L.length c)):=⟨_,_,_,_,rfl⟩
 exact⟨hn.lod h.box,hn.sto h.res rfl,h.res,rfl,hn⟩
theorem CI.good {W w u:World} {b:Nat} {S:ByteArray} {a:Option Addr} {n c:Nat} {L:List (Array Value × T)} {r:List Tk.Tok} (h:CI W b w S (.slice a n c) L u) (hb:b < w.heap.size) (hN:∀x ∈ L,NK (fun i=>w.heap.size+2<=i/\(Value.slice a n c).ownBlock ≠ some i) u x.1 x.2) (hS:Sq W b r w u):
  RA W b w (some (tree (bG 7 S) (L.map (·.2)),r)) (lcs (bG 7 S) (.slice a n c)) (u.setRow w.heap.size (lcs (bG 7 S) (.slice a n c))):=by
 have G:=aL u w.heap.size (lcs (bG 7 S) (.slice a n c));refine ⟨?_,hS.grown G (Nat.le_refl _) hb⟩;obtain⟨a2,c2,e⟩:=nJ h.own;cases e
 have hr:=aCR (K:=fun i=>w.heap.size < i) h.own (fun x hx=>(hN x hx).mono (fun i hi _=>by have:=hi.1;omega)) (fun g hg=>by have:=(World.ownsRow.lt h.own g hg).1;omega);refine ⟨a,L.length,c,rfl, ?_, ?_⟩
 ·show L.length=(kids (Go.Fm.mk (L.map (·.2)))).length;rw [sZ,List.length_map]
 ·rcases hr with rfl | ⟨a',rfl,hi⟩
  ·exact .inl rfl
  ·exact .inr ⟨a',rfl,(hi.grown G (fun g e hk=>by cases e;exact Nat.lt_irrefl _ hk)).mono (fun i hi _=>Nat.le_of_lt hi)⟩
abbrev cw0 (w:World) (S:ByteArray):World:=(w.alloc (.cells nd0 67)).alloc (.cells (lcs (bG 7 S) (.slice none 0 0)) 67)
theorem aAQ (w:World) (S:ByteArray) (b:Nat) (W:World):CI W b w S (.slice none 0 0) [] (cw0 w S)/\Below w.heap.size w (cw0 w S)/\(Instr.storeAt 67 (.pointer (some ⟨w.heap.size+1,0,none⟩)) (.agg (lcs (bG 7 S) (.slice none 0 0)))).run Tryz.prog ((w.alloc (.cells nd0 67)).alloc (.cells nd0 67))=.ok () (cw0 w S):=by
 have hz:(w.alloc (.cells nd0 67)).heap.size=w.heap.size+1:=by simp
 have hB:Below w.heap.size w (cw0 w S):=aD (aD (Below.refl _ _) _) _;refine ⟨⟨?_,(Below.heap_alloc _ _ _ (by simp)).trans (heap_alloc_new w _),World.ownsRow_nil _ _ _ _,bD hB⟩,hB, ?_⟩
 ·have:=heap_alloc_new (w.alloc (.cells nd0 67)) (.cells (lcs (bG 7 S) (.slice none 0 0)) 67);rw [hz] at this;exact this
 ·have:=run_storeAt_new (P:=Tryz.prog) (w.alloc (.cells nd0 67)) 67 nd0 (lcs (bG 7 S) (.slice none 0 0)) (by rw [fB];exact iG) rfl (nI _ _ _ _);rw [hz] at this;exact this
theorem aFz (u:World) (S:ByteArray):(Instr.build 67 #[(0,.int .i64 7),(1,.string S)]).run Tryz.prog u=.ok (.agg (lcs (bG 7 S) (.slice none 0 0))) u:=by kernel_rfl
theorem CI.keep {W w u u':World} {b:Nat} {S:ByteArray} {v:Value} {L:List (Array Value × T)} (h:CI W b w S v L u) (hb:b < w.heap.size) (hg:u.grownBy u' (some b)):CI W b w S v L u':=
 ⟨(hg.block _ (aZ h.box) (by intro e;have:=Option.some.inj e;omega)).trans h.box,(hg.block _ (aZ h.res) (by intro e;have:=Option.some.inj e;omega)).trans h.res,jK h.own hg (wT h.own (by omega)),aI h.grow hg⟩
theorem CI.bad {W w u:World} {b:Nat} {S:ByteArray} {v:Value} {L:List (Array Value × T)} (h:CI W b w S v L u) (hb:b < w.heap.size) (hS:Sw W b w u):RA W b w none (lcs (bG 7 S) v) (u.setRow w.heap.size (lcs (bG 7 S) v)):=hS.grown (aL _ _ _) (Nat.le_refl _) hb
theorem CI.fail {W w u u':World} {b:Nat} {S:ByteArray} {v:Value} {L:List (Array Value × T)} (h:CI W b w S v L u) (hb:b < w.heap.size) (hX:Sw W b u u'):Hid ((Instr.storeAt 67 (pt w.heap.size) (.agg nd0)).run Tryz.prog u'=.ok () (u'.setRow w.heap.size nd0))/\Hid (u'.heap[w.heap.size]? =some (.cells nd0 67))/\Hid (RA W b w none nd0 (u'.setRow w.heap.size nd0)):=by
 have hr:u'.heap[w.heap.size]? =some (.cells nd0 67):=hX.kept h.res (by omega);have hS:Sw W b w u':=⟨hX.1,aI h.grow hX.2⟩
 exact⟨NA.zero.sto hr rfl,hr,hS.grown (aL _ _ _) (Nat.le_refl _) hb⟩
theorem aGM {W:World} {b:Nat} {S:ByteArray} {L:List Tk.Tok} (hn:L.length<=256) (h40:aV L=[40]) (h41:aV L.tail=[41]) {w:World} (X:QR W b L w):
  Calls Tryz.prog 270 #[pt b,.string S] w (RO W b w (some (tree (bG 7 S) [],L.tail.tail))):=by
 have hb:=X.lt;have hl1:=(bA (ts:=L) h40 (by decide)).1;obtain⟨hC,hB,hR⟩:=aAQ w S b W;have RB:Hid _:=aFz (w.alloc (.cells nd0 67)) S;have RS0:Hid _:=hR;have TK1:Calls Tryz.prog 157 #[pt b,.string ⟨#[40]⟩] (cw0 w S) fun e w'=>e=.returned (.tuple #[])/\Sq W b L.tail (cw0 w S) w':=eD (s:=[40]) (X.below hB) hn (by decide) h40;have OP:Hid (∀u,Sq W b L.tail (cw0 w S) u->CW 156 #[pt b] u (.string ⟨#[41]⟩)):=fun u hu=>by have:=fG hu.1 (by omega);rw [h41] at this;exact this
 have TK2:Hid (∀u,Sq W b L.tail (cw0 w S) u->Calls Tryz.prog 157 #[pt b,.string ⟨#[41]⟩] u fun e w'=>e=.returned (.tuple #[])/\Hid (CI W b w S (.slice none 0 0) [] w')/\Hid (RA W b w (some (tree (bG 7 S) [],L.tail.tail)) (lcs (bG 7 S) (.slice none 0 0)) (w'.setRow w.heap.size (lcs (bG 7 S) (.slice none 0 0))))):=fun u hu=>(eD (s:=[41]) hu.1 (by omega) (by decide) h41).mono (by
  rintro e w' ⟨rfl,h2⟩;have hc:=(hC.keep hb hu.2).keep hb h2.2;refine ⟨rfl,hc, ?_⟩;exact hc.good (L:=[]) hb (fun x hx=>by cases hx) ⟨h2.1,hc.grow⟩)
 clear X h40 h41 hC hB hR;go_enter Tryz.func270,Tryz.ntmps270;go_wp2_with (first|(refine aM rfl 67 _ rfl _ _ (by go_simp) RB.out ?_;clear RB)|(refine aB rfl 67 _ _ rfl _ _ _ rfl rfl RS0.out ?_;clear RS0)|(go_at_call 157;refine TK1.mono ?_;rintro e w1 ⟨rfl,hw⟩;have HS1:Hid (Sq W b L.tail (cw0 w S) w1):=hw;clear hw TK1)|(go_at_call 156;refine mw (OP.out _ HS1.out) ?_)|(go_at_call 157;refine (TK2.out _ HS1.out).mono ?_;rintro e w2 ⟨rfl,HC,HF⟩;obtain⟨RL,RS,HG,HZ,HNA⟩:=HC.out.fin)|(refine aC rfl 67 _ rfl _ _ rfl RL.out ?_;clear RL)|(refine aB rfl 67 _ _ rfl _ _ _ rfl rfl RS.out ?_;clear RS))
 exact bodyPost_ret (aY HG.out HZ.out rfl rfl) rfl ⟨_,rfl,HNA.out,HF.out⟩
theorem aEt {W:World} {b:Nat} {S:ByteArray} {L0:List Tk.Tok} (hn:L0.length<=256) (h40:aV L0=[40]) (h41:aV L0.tail ≠ [41]) {w:World} (X:QR W b L0 w)
  (C:∀ts' u,ts'.length<=L0.tail.length->QR W b ts' u->Calls Tryz.prog 109 #[pt b,.int .i64 1] u (RO W b u (PP 1 ts'))):
  Calls Tryz.prog 270 #[pt b,.string S] w (RO W b w ((goF [] L0.tail).map fun q=>(tree (bG 7 S) q.1,q.2))):=by
 have hb:=X.lt;have hl1:=(bA (ts:=L0) h40 (by decide)).1;obtain⟨hC,hB,hR⟩:=aAQ w S b W;have RB:Hid _:=aFz (w.alloc (.cells nd0 67)) S;have RS0:Hid _:=hR;have hts:L0.tail.length<=255:=by omega
 have TK1:Calls Tryz.prog 157 #[pt b,.string ⟨#[40]⟩] (cw0 w S) fun e w'=>e=.returned (.tuple #[])/\Hid (CI W b w S (.slice none 0 0) [] w')/\Hid (Sq W b L0.tail w w'):=(eD (s:=[40]) (X.below hB) hn (by decide) h40).mono (by
  rintro e w' ⟨rfl,h2⟩;have hc:=hC.keep hb h2.2;exact⟨rfl,hc,h2.1,hc.grow⟩)
 have OP0:Hid (∀u,Sq W b L0.tail w u->CW 156 #[pt b] u (.string (ba (aV L0.tail)))):=fun u hu=>fG hu.1 (by omega);have hne:((ba (aV L0.tail)).toList==[41])=false:=bI h41;generalize ho:goF [] L0.tail=o;have HO:Hid (goF [] L0.tail=o):=ho;have HC:Hid (∀ts' u,ts'.length<=L0.tail.length->QR W b ts' u->Calls Tryz.prog 109 #[pt b,.int .i64 1] u (RO W b u (PP 1 ts'))):=C;clear ho C X h40 h41 hC hB hR hn hl1;generalize L0.tail=ts at *;generalize ba (aV ts)=A at *;go_enter Tryz.func270,Tryz.ntmps270;go_wp2_with (first|(refine aM rfl 67 _ rfl _ _ (by go_simp) RB.out ?_;clear RB)|(refine aB rfl 67 _ _ rfl _ _ _ rfl rfl RS0.out ?_;clear RS0)|(go_at_call 157;refine TK1.mono ?_;rintro e w1 ⟨rfl,HC1,HS1⟩;clear TK1)|(go_at_call 156;refine mw (OP0.out _ HS1.out) ?_))
 clear OP0 hne;try simp only [Act.put,List.setIfInBounds_toArray,List.set_cons_zero,List.set_cons_succ]
 go_loopw [] (fun wr=>∃(L:List (Array Value × T)) (r:List Tk.Tok) (a:Option Addr) (n c:Nat),Hid (goF (L.map (·.2)) r=o)/\L.length+r.length<=255/\r.length<=ts.length/\Hid (CI W b w S (.slice a n c) L wr)/\Hid (∀x ∈ L,NK (fun i=>w.heap.size+2<=i/\(Value.slice a n c).ownBlock ≠ some i) wr x.1 x.2)/\Hid (Sq W b r w wr)) (fun wr=>nS b wr)
 case atStart=>exact⟨[],ts,none,0,0,HO,by simp;omega,Nat.le_refl _,HC1,fun x hx=>(by cases hx),HS1⟩
 case round=>
  obtain⟨L,r,a,n,c,HL,hlen,hr,HCI,HN,HS⟩:=hrel;clear HO HC1 HS1;have hnot:wr.cell? ⟨b,1,none⟩=some (.bool false):=HS.out.1.not;have hleft:=HS.out.1.left;have hc17:=HCI.out.cells.1;have HRT:Hid (∀p,PP 1 r=some p->p.2.length < r.length):=fun p hp=>jB upF trF (by omega) _ p.1 p.2 hp;have C1:Calls Tryz.prog 109 #[pt b,.int .i64 1] wr.drew fun e w3=>∃es2,e=.returned (.agg es2)/\NA es2/\RA W b wr.drew (PP 1 r) es2 w3:=HC.out r wr.drew hr HS.out.1.drew;go_wp2;refine aP (fun u=>u.cell? ⟨w.heap.size+1,17,none⟩=some (.slice a n c)) (fun j=>j==7) (by kernel_rfl) ?_;have aMz:wr.drew.cell? ⟨w.heap.size+1,17,none⟩=some (.slice a n c):=hc17;refine dwp 0 (.pointer (some ⟨w.heap.size+1,17,none⟩)) ?_;refine dwl 1 (.slice a n c) ?_ (hS:=aMz) (hy:=(fun u hSu=>by have h1:=hSu;go_simp));refine dwp 2 (pt b) ?_;refine aJ (i:=3) (by kernel_rfl) rfl ?_;intro K hK;go_simp;refine C1.mono ?_;rintro e w3 ⟨es2,rfl,hn2,h3⟩;obtain⟨R1,a',n',c',w5,R2,hn',R3,k3,k4,k5,HC6,HM⟩:=HCI.out.more (t:=((PP 1 r).map (·.1)).getD (tree (bG 0 nb) [])) hb (by omega) rfl hn2 h3;clear C1 hn2 h3;refine hK _ _ (.inr fun _=>k3.out) ?_;clear hK;try simp only [Act.put,List.setIfInBounds_toArray,List.set_cons_zero,List.set_cons_succ]
  refine aJ (i:=4) (by kernel_rfl) rfl ?_;intro K hK;rw [if_pos (by go_simp)];refine qH (some 25) rfl 65 1 _ rfl _ _ (by go_simp) R1.out (hK _ _ (.inr fun _=>k4.out) ?_);clear hK;try simp only [Act.put,List.setIfInBounds_toArray,List.set_cons_zero,List.set_cons_succ]
  refine aJ (i:=5) (by kernel_rfl) rfl ?_;intro K hK;rw [if_pos (by go_simp)];refine wp_append_run (some 26) rfl 65 rfl _ _ 65 rfl _ _ _ rfl rfl R2.out (hK _ _ (.inr fun _=>k5.out) ?_);clear hK;try simp only [Act.put,List.setIfInBounds_toArray,List.set_cons_zero,List.set_cons_succ]
  refine dwp 6 (.pointer (some ⟨w.heap.size+1,17,none⟩)) ?_;refine aJ (i:=7) (by kernel_rfl) rfl ?_;intro K hK;rw [if_pos (by go_simp)];refine kG none rfl 65 _ _ rfl _ _ rfl rfl R3.out (hK _ _ (.inl rfl) ?_);clear hK;try simp only [Act.put,List.setIfInBounds_toArray,List.set_cons_zero,List.set_cons_succ]
  refine aR (by kernel_rfl) ?_ _;clear R1 R2 R3 k3 k4 k5 hc17 aMz hnot HCI;obtain⟨w6,hw6⟩:∃w6,w5.setCell ⟨w.heap.size+1,17,none⟩ (.slice a' n' c')=w6:=⟨_,rfl⟩
  rw [hw6] at HC6 HM ⊢;clear hw6 HC;obtain⟨RLs,RSs,HGs,HZs,aPZ⟩:=HC6.out.fin;have hFA:Hid (∀u,CI W b w S (.slice a' n' c') (L++ [(es2,((PP 1 r).map (·.1)).getD (tree (bG 0 nb) []))]) u->QB W b u->Calls Tryz.prog 244 #[pt b] u fun e w3=>e=.returned (.agg nd0)/\Hid ((Instr.storeAt 67 (pt w.heap.size) (.agg nd0)).run Tryz.prog w3=.ok () (w3.setRow w.heap.size nd0))/\Hid (w3.heap[w.heap.size]? =some (.cells nd0 67))/\Hid (RA W b w none nd0 (w3.setRow w.heap.size nd0))):=fun u hu hX=>(mR hX).mono (by
   rintro e w3 ⟨rfl,h3⟩;exact⟨rfl,hu.fail hb h3⟩)
  cases hP:PP 1 r with
  | none=>
   rw [hP] at HM;have HSW:Hid (Sw W b w w6):=HM.out;have HQ:Hid (none=o):=by show _=_;rw [<-HL.out];exact(aLW hP).symm
   have OP:CW 156 #[pt b] w6 (.string noB):=aFx HSW.out.1;have TK:Calls Tryz.prog 157 #[pt b,.string ⟨#[41]⟩] w6 fun e w'=>e=.returned (.tuple #[])/\w'.cell? ⟨w.heap.size+1,17,none⟩=some (.slice a' n' c')/\Hid (CI W b w S (.slice a' n' c') (L++ [(es2,((PP 1 r).map (·.1)).getD (tree (bG 0 nb) []))]) w')/\Hid (Sw W b w w'):=(aAP (s:=[41]) HSW.out.1 (by decide)).mono (by
    rintro e w' ⟨rfl,h2⟩;have hc:=HC6.out.keep hb h2.2;exact⟨rfl,hc.cells.1,hc,h2.1,hc.grow⟩)
   clear HM HL hP HN HS HRT;by_cases h16:(16:Int) < (n':Int)
   ·go_wp2_with (first|(go_at_call 156;refine mw OP ?_)|(go_at_call 157;refine TK.mono ?_;rintro e w7 ⟨rfl,hc7,HC7,HS7⟩)|(go_at_call 244;refine (hFA.out _ HC7.out HS7.out.1.b).mono ?_;rintro e w8 ⟨rfl,RS8,HG8,HF8⟩)|(refine aB rfl 67 _ _ rfl _ _ _ rfl rfl RS8.out ?_;clear RS8))
    refine bodyPost_ret (aY HG8.out rfl rfl rfl) rfl ?_;rw [<-HQ.out];exact⟨_,rfl,NA.zero,HF8.out⟩
   ·go_wp2_with (first|(go_at_call 156;refine mw OP ?_)|(go_at_call 157;refine TK.mono ?_;rintro e w7 ⟨rfl,hc7,HC7,HS7⟩;obtain⟨RL7,RS7,HG7,HZ7,aJG⟩:=HC7.out.fin;have HF7:Hid _:=HC7.out.bad hb HS7.out)|(refine aC rfl 67 _ rfl _ _ rfl RL7.out ?_;clear RL7)|(refine aB rfl 67 _ _ rfl _ _ _ rfl rfl RS7.out ?_;clear RS7))
    refine bodyPost_ret (aY HG7.out HZ7.out rfl rfl) rfl ?_;rw [<-HQ.out];exact⟨_,rfl,aJG.out,HF7.out⟩
  | some p=>
   obtain⟨m,r2⟩:=p;have hr2:r2.length < r.length:=HRT.out _ hP;rw [hP] at HM HC6 hFA;obtain⟨hS6,hN6⟩:=HM.out;have HS6:Hid (Sq W b r2 w w6):=hS6;have HN6:Hid (∀x ∈ L++ [(es2,m)],NK (fun i=>w.heap.size+2<=i/\(Value.slice a' n' c').ownBlock ≠ some i) w6 x.1 x.2):=hN6 HN.out rfl;have aGN:Hid (CI W b w S (.slice a' n' c') (L++ [(es2,m)]) w6):=HC6.out;have aNv:Hid (∀u,CI W b w S (.slice a' n' c') (L++ [(es2,m)]) u->QB W b u->_):=hFA.out;have OP:=fG HS6.out.1 (by omega);clear HM HC6 hFA hS6 hN6 HN HS HRT;by_cases h44:aV r2=[44]
   ·have TK:Calls Tryz.prog 157 #[pt b,.string ⟨#[44]⟩] w6 fun e w'=>e=.returned (.tuple #[])/\Hid (CI W b w S (.slice a' n' c') (L++ [(es2,m)]) w')/\Hid (Sq W b r2.tail w w')/\Hid (∀x ∈ L++ [(es2,m)],NK (fun i=>w.heap.size+2<=i/\(Value.slice a' n' c').ownBlock ≠ some i) w' x.1 x.2):=(eD (s:=[44]) HS6.out.1 (by omega) (by decide) h44).mono (by
     rintro e w' ⟨rfl,h2⟩;have hc:=aGN.out.keep hb h2.2;exact⟨rfl,hc,⟨h2.1,hc.grow⟩,fun x hx=>(HN6.out x hx).grown h2.2 (fun g e hk=>by cases e;have:=hk.1;omega)⟩)
    have hrt:=(bA (ts:=r2) h44 (by decide)).1;have HQ:Hid (goF ((L++ [(es2,m)]).map (·.2)) r2.tail=o):=by show _=_;rw [<-HL.out,aJE hP h44];simp
    rw [h44] at OP;have OP':CW 156 #[pt b] w6 (.string ⟨#[44]⟩):=OP;clear HL hP h44 OP aGN HN6 aNv;go_wp2_with (first|(go_at_call 156;refine mw OP' ?_)|(go_at_call 157;refine TK.mono ?_;rintro e w7 ⟨rfl,HC7,HS7,HN7⟩))
    try simp only [Act.put,List.setIfInBounds_toArray,List.set_cons_zero,List.set_cons_succ]
    go_roundw
    case rel=>exact⟨L++ [(es2,m)],r2.tail,a',n',c',HQ,by simp;omega,by omega,HC7,HN7,HS7⟩
    case measure=>rw [HS7.out.1.left,hleft];omega
   ·have aPR:((ba (aV r2)).toList==[44])=false:=bI h44;have hn16:n'=(L++ [(es2,m)]).length:=by simp [hn']
    by_cases h41:aV r2=[41]
    ·have TK:Calls Tryz.prog 157 #[pt b,.string ⟨#[41]⟩] w6 fun e w'=>e=.returned (.tuple #[])/\w'.cell? ⟨w.heap.size+1,17,none⟩=some (.slice a' n' c')/\Hid (CI W b w S (.slice a' n' c') (L++ [(es2,m)]) w')/\Hid (Sq W b r2.tail w w')/\Hid (∀x ∈ L++ [(es2,m)],NK (fun i=>w.heap.size+2<=i/\(Value.slice a' n' c').ownBlock ≠ some i) w' x.1 x.2):=(eD (s:=[41]) HS6.out.1 (by omega) (by decide) h41).mono (by
      rintro e w' ⟨rfl,h2⟩;have hc:=aGN.out.keep hb h2.2;exact⟨rfl,hc.cells.1,hc,⟨h2.1,hc.grow⟩,fun x hx=>(HN6.out x hx).grown h2.2 (fun g e hk=>by cases e;have:=hk.1;omega)⟩)
     have HQ:Hid (o=if n'<=16 then some ((L++ [(es2,m)]).map (·.2),r2.tail) else none):=by show _=_;rw [<-HL.out,aJF hP h41,hn16];simp
     clear HL hP h41 h44 aGN HN6;generalize ba (aV r2)=A2 at *;by_cases h16:n'<=16
     ·have aNi:¬(16:Int) < (n':Int):=by omega
      go_wp2_with (first|(go_at_call 156;refine mw OP ?_)|(go_at_call 157;refine TK.mono ?_;rintro e w7 ⟨rfl,hc7,HC7,HS7,HN7⟩;obtain⟨RL7,RS7,HG7,HZ7,aJG⟩:=HC7.out.fin;have HF7:Hid _:=HC7.out.good hb HN7.out HS7.out)|(refine aC rfl 67 _ rfl _ _ rfl RL7.out ?_;clear RL7)|(refine aB rfl 67 _ _ rfl _ _ _ rfl rfl RS7.out ?_;clear RS7))
      refine bodyPost_ret (aY HG7.out HZ7.out rfl rfl) rfl ?_;rw [HQ.out,if_pos h16];exact⟨_,rfl,aJG.out,HF7.out⟩
     ·have aNi:(16:Int) < (n':Int):=by omega
      go_wp2_with (first|(go_at_call 156;refine mw OP ?_)|(go_at_call 157;refine TK.mono ?_;rintro e w7 ⟨rfl,hc7,HC7,HS7,HN7⟩)|(go_at_call 244;refine (aNv.out _ HC7.out HS7.out.1.b).mono ?_;rintro e w8 ⟨rfl,RS8,HG8,HF8⟩)|(refine aB rfl 67 _ _ rfl _ _ _ rfl rfl RS8.out ?_;clear RS8))
      refine bodyPost_ret (aY HG8.out rfl rfl rfl) rfl ?_;rw [HQ.out,if_neg h16];exact⟨_,rfl,NA.zero,HF8.out⟩
    ·have HQ:Hid (none=o):=by show _=_;rw [<-HL.out];exact(aNu hP h41 h44).symm
     have TK:Calls Tryz.prog 157 #[pt b,.string ⟨#[41]⟩] w6 fun e w'=>e=.returned (.tuple #[])/\w'.cell? ⟨w.heap.size+1,17,none⟩=some (.slice a' n' c')/\Hid (CI W b w S (.slice a' n' c') (L++ [(es2,m)]) w')/\Hid (Sw W b w w'):=(aC9 (s:=[41]) HS6.out.1 (by omega) h41).mono (by
      rintro e w' ⟨rfl,h2⟩;have hc:=aGN.out.keep hb h2.2;exact⟨rfl,hc.cells.1,hc,h2.1,hc.grow⟩)
     clear HL hP h41 h44 aGN HN6;generalize ba (aV r2)=A2 at *;by_cases h16:(16:Int) < (n':Int)
     ·go_wp2_with (first|(go_at_call 156;refine mw OP ?_)|(go_at_call 157;refine TK.mono ?_;rintro e w7 ⟨rfl,hc7,HC7,HS7⟩)|(go_at_call 244;refine (aNv.out _ HC7.out HS7.out.1.b).mono ?_;rintro e w8 ⟨rfl,RS8,HG8,HF8⟩)|(refine aB rfl 67 _ _ rfl _ _ _ rfl rfl RS8.out ?_;clear RS8))
      refine bodyPost_ret (aY HG8.out rfl rfl rfl) rfl ?_;rw [<-HQ.out];exact⟨_,rfl,NA.zero,HF8.out⟩
     ·go_wp2_with (first|(go_at_call 156;refine mw OP ?_)|(go_at_call 157;refine TK.mono ?_;rintro e w7 ⟨rfl,hc7,HC7,HS7⟩;obtain⟨RL7,RS7,HG7,HZ7,aJG⟩:=HC7.out.fin;have HF7:Hid _:=HC7.out.bad hb HS7.out)|(refine aC rfl 67 _ rfl _ _ rfl RL7.out ?_;clear RL7)|(refine aB rfl 67 _ _ rfl _ _ _ rfl rfl RS7.out ?_;clear RS7))
      refine bodyPost_ret (aY HG7.out HZ7.out rfl rfl) rfl ?_;rw [<-HQ.out];exact⟨_,rfl,aJG.out,HF7.out⟩
theorem aGO {W:World} {b:Nat} {S:ByteArray} {L0:List Tk.Tok} (hn:L0.length<=256) (h40:aV L0=[40]) {w:World} (X:QR W b L0 w)
  (C:∀ts' u,ts'.length<=L0.tail.length->QR W b ts' u->Calls Tryz.prog 109 #[pt b,.int .i64 1] u (RO W b u (PP 1 ts'))):
  Calls Tryz.prog 270 #[pt b,.string S] w (RO W b w ((AA L0.tail).map fun q=>(tree (bG 7 S) q.1,q.2))):=by
 by_cases h:aV L0.tail=[41]
 ·unfold AA;rw [if_pos h];exact aGM hn h40 h X
 ·rw [aOt h];exact aEt hn h40 h X C
theorem RA.from {W w u w':World} {b:Nat} {o:Option (T × List Tk.Tok)} {es:Array Value} (hg:w.grownBy u (some b)) (h:RA W b u o es w'):RA W b w o es w':=by
 cases o with
 | none=>exact⟨h.1,aI hg h.2⟩
 | some p=>exact⟨h.1.mono (fun i hi _=>Nat.le_trans hg.size hi),h.2.1,aI hg h.2.2⟩
theorem aNw (s:List UInt8):(∃n,trF s=some n/\qN (szF 97 65 s)=n/\0<=n)\/(trF s=none/\qN (szF 97 65 s)= -1):=by
 unfold trF jR;rcases mF (szF 97 65 (ba s).data.toList) with ⟨e,e2,e3⟩ | ⟨e,e2,e3⟩ | ⟨_,_,e2,e3⟩
 ·left;rw [e2];exact⟨1,rfl,e3,by decide⟩
 ·left;rw [e2];exact⟨0,rfl,e3,by decide⟩
 ·right;rw [e2];exact⟨rfl,e3⟩
theorem aLX (u:World) (n:Int):(Instr.build 62 #[(0,.int .i64 3),(1,.int .i64 n)]).run Tryz.prog u=.ok (.agg #[.int .i64 3,.int .i64 n,.string noB]) u:=by kernel_rfl
theorem aLY (u:World) (s bk h:ByteArray) (r c:Int) (fr fc:Bool):(Instr.build 67 #[(0,.int .i64 4),(1,.string s),(3,dB bk h r c fr fc)]).run Tryz.prog u=.ok (.agg (lcs ⟨4,s,0,0,nb,bk,h,r,c,fr,fc,nb,nb,0,0,false,false⟩ (.slice none 0 0))) u:=by kernel_rfl
section
variable {W w:World} {b:Nat} {s bk:List UInt8} {L:List Tk.Tok}
abbrev wcs (bk s:List UInt8):Array Value:=tcs 4 0 (ba s) (ba bk) noB 0 0 false false
theorem aDd {u:World} {g:Nat} {cs:Array Value} (h:u.heap[g]? =some (.cells cs 188)) (j:Nat) (v:Value) (hj:cs[j]? =some v):u.cell? ⟨g,j,none⟩=some v:=by rw [cell_of_row u g j _ 188 (0,0) h];exact hj
theorem aEu (hn:L.length<=256) (hs:s.length<=1000) (h40:aV L=[40]) (X:QR W b L w) {o:Option (T × List Tk.Tok)} (C:∀u,QR W b L u->Calls Tryz.prog 270 #[pt b,.string (ba (upF s))] u (RO W b u o)):
  Calls Tryz.prog 246 #[pt b,.agg (wcs [] s)] w (RO W b w o):=by
 have hb:=X.lt;obtain⟨f0,f1,f2,f3⟩:=jL (w:=w) (cs:=wcs [] s);have X2:=X.below f3;have OP:Calls Tryz.prog 156 #[pt b] (rw2 w (wcs [] s)) fun e w'=>e=.returned (.string ⟨#[40]⟩)/\w'=rw2 w (wcs [] s):=by have:=fG X2 hn;rw [h40] at this;exact this
 have c3:(rw2 w (wcs [] s)).cell? ⟨w.heap.size,3,none⟩=some (.string ⟨#[]⟩):=aDd f0 3 _ rfl;have c2:(rw2 w (wcs [] s)).cell? ⟨w.heap.size,2,none⟩=some (.string (ba s)):=aDd f0 2 _ rfl;have UP:CR 142 #[.string (ba s)] (rw2 w (wcs [] s)) (.string (ba (upF s))):=aAZ (ba s) (by rw [size_mk];omega) _;have C1:Hid (∀u,Below (rw2 w (wcs [] s)).heap.size (rw2 w (wcs [] s)) u->Calls Tryz.prog 270 #[pt b,.string (ba (upF s))] u fun e w3=>∃es,e=.returned (.agg es)/\Hid ((Instr.storeAt 67 (.pointer (some ⟨w.heap.size+1,0,none⟩)) (.agg es)).run Tryz.prog w3=.ok () (w3.setRow (w.heap.size+1) es))/\Hid (w3.heap[w.heap.size+1]? =some (.cells nd0 67))/\Hid (es.size=18)/\Hid (NA es)/\
  Hid (RA W b w o es (w3.setRow (w.heap.size+1) es))):=fun u hu=>(C u (X2.below hu)).mono (by
  rintro e w3 ⟨es,rfl,hn,h⟩;exact⟨es,rfl,RA.aEs hb hn (h.from (bD hu))⟩)
 clear C X X2 f0 f1 f2 f3 h40;generalize ba (upF s)=U at *;generalize ba s=S at *;generalize wcs [] s=cs at *;go_enter Tryz.func246,Tryz.ntmps246;go_wp2_with (first|(go_at_call 156;refine mw OP ?_)|(go_at_call 142;refine UP.mono ?_;rintro e w1 ⟨rfl,hw⟩;have HU:Hid (Below (rw2 w cs).heap.size (rw2 w cs) w1):=hw;clear hw)|(go_at_call 270;refine (C1.out _ HU.out).mono ?_;rintro e w3 ⟨es,rfl,RS,HG,HZ,HNA,HF⟩)|(refine aB rfl 67 _ _ rfl _ _ _ rfl rfl RS.out ?_;clear RS))
 exact bodyPost_ret (aY HG.out HZ.out rfl rfl) rfl ⟨_,rfl,HNA.out,HF.out⟩
theorem aEv (hn:L.length<=256) (hs:s.length<=1000) (h40:¬(bk=[]/\aV L=[40])) (X:QR W b L w):
  Calls Tryz.prog 246 #[pt b,.agg (wcs bk s)] w (RO W b w (match trF s with
   | some n=>some (tree (fM 3 n nb) [],L)
   | none=>some (tree (aAd bk s) [],L))):=by
 have hb:=X.lt;obtain⟨f0,f1,f2,f3⟩:=jL (w:=w) (cs:=wcs bk s);have X2:=X.below f3;have OP:=fG X2 hn;have c3:(rw2 w (wcs bk s)).cell? ⟨w.heap.size,3,none⟩=some (.string (ba bk)):=aDd f0 3 _ rfl;have c2:(rw2 w (wcs bk s)).cell? ⟨w.heap.size,2,none⟩=some (.string (ba s)):=aDd f0 2 _ rfl;have TR:Calls Tryz.prog 92 #[.string (ba s)] (rw2 w (wcs bk s)) fun e w'=>e=.returned (.int .i64 (qN (szF 97 65 s)))/\Hid (Sq W b L (rw2 w (wcs bk s)) w')/\w'.cell? ⟨w.heap.size,2,none⟩=some (.string (ba s))/\Hid ((Instr.loadAt 64 (.pointer (some ⟨w.heap.size,3,none⟩))).run Tryz.prog w'=.ok (dB (ba bk) noB 0 0 false false) w'):=(qO (ba s) (by rw [size_mk];omega) _).mono (by
  rintro e w' ⟨rfl,h⟩;have hk:=(h.block _ (aZ f0)).trans f0;exact⟨rfl,(Sq.refl X2).bel h,aDd hk 2 _ rfl,aBE hk⟩)
 have hcond:((ba (aV L)).toList==[40])=false\/(((ba (aV L)).toList==[40])=true/\(ba bk).toList.isEmpty=false):=by
  by_cases h:aV L=[40]
  ·right;refine ⟨by rw [h,ByteArray.toList_eq];rfl, ?_⟩;rw [ByteArray.toList_eq];show bk.isEmpty=false;cases bk with
   | nil=>exact absurd ⟨rfl,h⟩ h40
   | cons _ _=>rfl
  ·exact .inl (bI h)
 have FT:Hid (∀(n:Int) u,Sq W b L (rw2 w (wcs bk s)) u->_):=fun n u hu=>RA.aEs hb (pV (fM 3 n nb)) (RA.leaf (fM 3 n nb) hu);have FN:Hid (∀u,Sq W b L (rw2 w (wcs bk s)) u->_):=fun u hu=>RA.aEs hb (pV (aAd bk s)) (RA.leaf (aAd bk s) hu);have BT:Hid (∀(n:Int) (u:World),_/\_):=fun n u=>⟨aLX u n,mO u 3 n noB⟩
 have BN:Hid (∀u,(Instr.build 67 #[(0,.int .i64 4),(1,.string (ba s)),(3,dB (ba bk) noB 0 0 false false)]).run Tryz.prog u=.ok (.agg (lcs (aAd bk s) (.slice none 0 0))) u):=fun u=>aLY u (ba s) (ba bk) noB 0 0 false false;clear X X2 f0 f1 f2 f3 h40;rcases aNw s with ⟨n,h1,h2,h3⟩ | ⟨h1,h2⟩
 ·rw [h1];rw [h2] at TR;have FT':=fun u hu=>FT.out n u hu;have BT1:Hid _:=fun u=>(BT.out n u).1;have BT2:Hid _:=fun u=>(BT.out n u).2;clear FT FN BT BN h1 h2;have hz:=fB (fM 3 n nb) (.slice none 0 0);generalize lcs (fM 3 n nb) (.slice none 0 0)=es at *;generalize ba (aV L)=A at *;generalize ba s=S at *;generalize ba bk=B at *;generalize wcs bk s=cs at *;have hge:¬n < 0:=by omega
  rcases hcond with hA | ⟨hA,hB⟩
  ·go_enter Tryz.func246,Tryz.ntmps246;go_wp2_with (first|(go_at_call 156;refine mw OP ?_)|(go_at_call 92;refine TR.mono ?_;rintro e w1 ⟨rfl,HS1,k2,RL1⟩;obtain⟨RS,HG,HZ,HNA,HF⟩:=FT' _ HS1.out)|(refine aM rfl 62 _ rfl _ _ (by go_simp) (BT1.out _) ?_)|(refine aM rfl 67 _ rfl _ _ (by go_simp) (BT2.out _) ?_)|(refine aB rfl 67 _ _ rfl _ _ _ rfl rfl RS.out ?_;clear RS))
   exact bodyPost_ret (aY HG.out HZ.out rfl rfl) rfl ⟨_,rfl,HNA.out,HF.out⟩
  ·go_enter Tryz.func246,Tryz.ntmps246;go_wp2_with (first|(go_at_call 156;refine mw OP ?_)|(go_at_call 92;refine TR.mono ?_;rintro e w1 ⟨rfl,HS1,k2,RL1⟩;obtain⟨RS,HG,HZ,HNA,HF⟩:=FT' _ HS1.out)|(refine aM rfl 62 _ rfl _ _ (by go_simp) (BT1.out _) ?_)|(refine aM rfl 67 _ rfl _ _ (by go_simp) (BT2.out _) ?_)|(refine aB rfl 67 _ _ rfl _ _ _ rfl rfl RS.out ?_;clear RS))
   exact bodyPost_ret (aY HG.out HZ.out rfl rfl) rfl ⟨_,rfl,HNA.out,HF.out⟩
 ·rw [h1];rw [h2] at TR;have FN':=fun u hu=>FN.out u hu;clear FT FN BT h1 h2;generalize lcs (aAd bk s) (.slice none 0 0)=es at *;generalize aAd bk s=lb at *;generalize ba (aV L)=A at *;generalize ba s=S at *;generalize ba bk=B at *;generalize wcs bk s=cs at *;rcases hcond with hA | ⟨hA,hB⟩
  ·go_enter Tryz.func246,Tryz.ntmps246;go_wp2_with (first|(go_at_call 156;refine mw OP ?_)|(go_at_call 92;refine TR.mono ?_;rintro e w1 ⟨rfl,HS1,k2,RL1⟩;obtain⟨RS,HG,HZ,HNA,HF⟩:=FN' _ HS1.out)|(refine aC rfl 64 _ rfl _ _ rfl RL1.out ?_;clear RL1)|(refine aM rfl 67 _ rfl _ _ (by go_simp) (BN.out _) ?_)|(refine aB rfl 67 _ _ rfl _ _ _ rfl rfl RS.out ?_;clear RS))
   exact bodyPost_ret (aY HG.out HZ.out rfl rfl) rfl ⟨_,rfl,HNA.out,HF.out⟩
  ·go_enter Tryz.func246,Tryz.ntmps246;go_wp2_with (first|(go_at_call 156;refine mw OP ?_)|(go_at_call 92;refine TR.mono ?_;rintro e w1 ⟨rfl,HS1,k2,RL1⟩;obtain⟨RS,HG,HZ,HNA,HF⟩:=FN' _ HS1.out)|(refine aC rfl 64 _ rfl _ _ rfl RL1.out ?_;clear RL1)|(refine aM rfl 67 _ rfl _ _ (by go_simp) (BN.out _) ?_)|(refine aB rfl 67 _ _ rfl _ _ _ rfl rfl RS.out ?_;clear RS))
   exact bodyPost_ret (aY HG.out HZ.out rfl rfl) rfl ⟨_,rfl,HNA.out,HF.out⟩
end
theorem aGP {W w:World} {b:Nat} {bk s:List UInt8} {L:List Tk.Tok} (hn:L.length<=256) (hs:s.length<=1000) (X:QR W b L w)
  (C:∀ts' u,ts'.length<=L.tail.length->QR W b ts' u->Calls Tryz.prog 109 #[pt b,.int .i64 1] u (RO W b u (PP 1 ts'))):
  Calls Tryz.prog 246 #[pt b,.agg (tk (Tk.Tok.word bk s)).cs] w (RO W b w (vY bk s L)):=by
 unfold vY;by_cases h:bk=[]/\aV L=[40]
 ·rw [if_pos h];obtain⟨rfl,h40⟩:=h;exact aEu hn hs h40 X (fun u hu=>aGO hn h40 hu C)
 ·rw [if_neg h];exact aEv hn hs h X
theorem aAf (s:List UInt8) (w:World):CW 141 #[.string (ba s)] w (.int .i64 (mJ s:Nat)):=by
  rcases yV s with h | ⟨h0,h1,h2,h3,h4,h5,h6,h7,h8,h9,h10,h11,h12⟩
  · rcases h with rfl | rfl | rfl | rfl | rfl | rfl | rfl | rfl | rfl | rfl | rfl | rfl <;>
      (go_enter Tryz.func141,Tryz.ntmps141
       go_wp2;go_ret;exact⟨rfl,rfl⟩)
  · rw [h0]
    have k1:=bI h1;have k2:=bI h2;have k3:=bI h3;have k4:=bI h4;have k5:=bI h5;have k6:=bI h6;have k7:=bI h7;have k8:=bI h8;have k9:=bI h9;have k10:=bI h10;have k11:=bI h11;have k12:=bI h12;clear h0 h1 h2 h3 h4 h5 h6 h7 h8 h9 h10 h11 h12;generalize ba s=S at *;go_enter Tryz.func141,Tryz.ntmps141;go_wp2;go_ret;exact⟨rfl,rfl⟩
end Go.Proofs.YtlhoklhjbpkgpaaGreatDoor
