/- FParse, SMay, SChk, SChk2, SOwn, SPutB0. -/
import Derived.Defers
import Derived.Recover
import Derived.Test.YtlhoklhjbpkgpaaGreatDoorSWithPu
import Derived.Test.YtlhoklhjbpkgpaaGreatDoorTLexPu
set_option linter.unusedVariables false
set_option linter.unusedSimpArgs false
set_option maxHeartbeats 16000000
set_option maxRecDepth 100000
namespace Go.Proofs.YtlhoklhjbpkgpaaGreatDoor
open Go.RowKit Go.Fm
def qI:T:=tree (bG 0 nb) []
def vC (l:List UInt8):T × Int:=
 if 255 < l.length then (qI,3) else match gP l with
  | none=>(qI,10)
  | some ts=>match qZ ts with
   | none=>(qI,10)
   | some t=>(t,0)
theorem aLC (W:World):(binOp .eql 20 (.iface 33 (.int .i64 10)) (.iface 33 (.int .i64 10))).run Tryz.prog W=.ok (.bool true) W:=by kernel_rfl
theorem eq_nil (W:World):(binOp .eql 20 .nilIface .nilIface).run Tryz.prog W=.ok (.bool true) W:=by kernel_rfl
theorem aOd (W:World):(binOp .eql 20 (.iface 33 (.int .i64 10)) .nilIface).run Tryz.prog W=.ok (.bool false) W:=by kernel_rfl
theorem aEg (p q:Addr) (w:World):CallsD Tryz.prog 106 #[.pointer (some p),.pointer (some q)] .returning w fun e u' w'=>e=.returned (.tuple #[])/\u'=.returning/\w'=w:=by
 have e1:=eq_nil;refine callsD_of_wpS Tryz.func106 rfl fun c₀ cs hu=> ?_;apply wpS_seq;apply wpS_region;simp [wpOpsS,go_sem,recoverD,hu,Tryz.ntmps106,Exit.thenS,Array.replicate,List.replicate];refine wpS_of_wp ?_;go_wp2;cases c₀
 simp_all [bodyPostS,results,Tryz.results106]
theorem aEh {g2 g3:Nat} {zs:Array Value} {x:Value} (w:World) (h2:w.heap[g2]? =some (.cells zs 67)) (hz:zs.size=18) (h3:w.heap[g3]? =some (.cells #[x] 33)) (hne:g3 ≠ g2):
  CallsD Tryz.prog 106 #[pt g2,pt g3] (.panicking dA) w fun e u' w'=>e=.returned (.tuple #[])/\u'=.panicking [{ v:=.iface 33 (.int .i64 10),recovered:=true }]/\w'=(w.setRow g2 nd0).setCell ⟨g3,0,none⟩ (.int .i64 10):=by
 have e1:=aLC;have e2:=aOd;have RS:Hid ((Instr.storeAt 67 (pt g2) (.agg nd0)).run Tryz.prog w=.ok () (w.setRow g2 nd0)):=sto h2 iG hz (nI (bG 0 nb) none 0 0);have H3:(w.setRow g2 nd0).heap[g3]? =some (.cells #[x] 33):=((aL w g2 nd0).block _ (aZ h3) (by intro e;exact hne (Option.some.inj e))).trans h3;have c3:(w.setRow g2 nd0).cell? ⟨g3,0,none⟩=some x:=by rw [cell_of_row _ g3 0 _ 33 (0,0) H3];rfl
 have f3:(w.setRow g2 nd0).frozen? ⟨g3,0,none⟩=false:=by unfold World.frozen?;rw [H3];rfl
 unfold dA;refine callsD_of_wpS Tryz.func106 rfl fun c₀ cs hu=> ?_;apply wpS_seq;apply wpS_region;simp [wpOpsS,go_sem,recoverD,hu,Tryz.ntmps106,Exit.thenS,Array.replicate,List.replicate];refine wpS_of_wp ?_;go_wp2_with (refine aB rfl 67 _ _ rfl _ _ _ rfl rfl RS.out ?_)
 cases c₀
 simp_all [bodyPostS,results,Tryz.results106]
theorem rC {fn:Func} {p u:Tmp} (h:fn.results=#[.cell p 67,.cell u 33]) {tmps:Array Value} {w:World} {g2 g3:Nat} {es:Array Value} {x:Value}
  (hp:tmps.getD p undef=pt g2) (hu:tmps.getD u undef=pt g3) (h2:w.heap[g2]? =some (.cells es 67)) (he:es.size=18) (h3:w.heap[g3]? =some (.cells #[x] 33)):
  (results fn tmps).run Tryz.prog w=.ok (.tuple #[.agg es,x]) w:=by
 have hp':tmps[p]?.getD undef=pt g2:=by simpa using hp
 have hu':tmps[u]?.getD undef=pt g3:=by simpa using hu
 have c3:w.cell? ⟨g3,0,none⟩=some x:=by rw [cell_of_row _ g3 0 _ 33 (0,0) h3];rfl
 have r2:=run_loadVar_row (P:=Tryz.prog) w g2 67 67 es (0,0) _ h2 Tryz.underlying67 rfl (by rw [he];exact iG);have r3:(loadVar 33 ⟨g3,0,none⟩).run Tryz.prog w=.ok x w:=by have h29:=Tryz.underlying33;simp [go_sem,c3]
 simp [results,h,hp',hu',asAddr,r2,r3]
def PA (w:World) (p:T × Int) (e:Ending) (w':World):Prop:=∃es,e=.returned (.tuple #[.agg es,.int .i64 p.2])/\NT w' es p.1/\zT p.1<=256/\Below w.heap.size w w'
abbrev wpa (w:World):World:=(w.alloc (.cells nd0 67)).alloc (.cells #[.int .i64 0] 33)
theorem tK {w u:World} (h:Below (wpa w).heap.size (wpa w) u):u.heap[w.heap.size]? =some (.cells nd0 67)/\u.heap[w.heap.size+1]? =some (.cells #[.int .i64 0] 33)/\Below w.heap.size w u:=by have:=new2 h;exact⟨this.1,this.2,rU h⟩
theorem pO (w:World):NT w nd0 qI:=⟨none,0,0,rfl,rfl,.inl rfl⟩
theorem tL {w:World} {g:Nat} {x y:Value} (h:w.heap[g]? =some (.cells #[x] 33)):(w.setCell ⟨g,0,none⟩ y).heap[g]? =some (.cells #[y] 33):=by simp [World.setCell,Array.getElem?_modify,h]
theorem aAI {A:ByteArray} {c:Int} (hc:(c==0)=false) (w:World) (L:CR 105 #[.string A] (wpa w) (.tuple #[.slice none 0 0,.int .i64 c])):
  Calls Tryz.prog 74 #[.string A] w (PA w (qI,c)):=by
 have hcn:(c !=0)=true:=by simpa using hc
 have L':Calls Tryz.prog 105 #[.string A] (wpa w) fun e w1=>e=.returned (.tuple #[.slice none 0 0,.int .i64 c])/\w1.cell? ⟨w.heap.size+1,0,none⟩=some (.int .i64 0)/\w1.frozen? ⟨w.heap.size+1,0,none⟩=false/\Hid (w1.heap[w.heap.size]? =some (.cells nd0 67)/\w1.heap[w.heap.size+1]? =some (.cells #[.int .i64 0] 33)/\Below w.heap.size w w1):=L.mono (by
  rintro e w1 ⟨rfl,h⟩;have k:=tK h;exact⟨rfl,by rw [cell_of_row _ _ 0 _ 33 (0,0) k.2.1];rfl,by unfold World.frozen?;rw [k.2.1];rfl,k⟩)
 clear L;go_enter Tryz.func74,Tryz.ntmps74;go_wp2_with (go_at_call 105;refine L'.mono ?_;rintro e w1 ⟨rfl,c1,f1,HK⟩)
 obtain⟨w2,hw2⟩:∃w2,w1.setCell ⟨w.heap.size+1,0,none⟩ (.int .i64 c)=w2:=⟨_,rfl⟩
 rw [hw2];have k2:w2.heap[w.heap.size]? =some (.cells nd0 67):=by rw [<-hw2];exact((Lib.grownBy_setCell w1 (w.heap.size+1) 0 (.int .i64 c)).block _ (aZ HK.out.1) (by intro e;have:=Option.some.inj e;omega)).trans HK.out.1
 have k3:w2.heap[w.heap.size+1]? =some (.cells #[.int .i64 c] 33):=by rw [<-hw2];exact tL HK.out.2.1
 have kb:Below w.heap.size w w2:=by rw [<-hw2];exact HK.out.2.2.setCell (by simp) _
 have ld:∀u:World,u.heap[w.heap.size+1]? =some (.cells #[.int .i64 c] 33)->(Instr.loadAt 33 (.pointer (some ⟨w.heap.size+1,0,none⟩))).run Tryz.prog u=.ok (.int .i64 c) u:=fun u hu=>by
  have c3:u.cell? ⟨w.heap.size+1,0,none⟩=some (.int .i64 c):=by rw [cell_of_row _ _ 0 _ 33 (0,0) hu];rfl
  have h29:=Tryz.underlying33;simp [go_sem,c3]
 have LD:Hid _:=ld;have RB:∀u:World,(Instr.build 67 #[]).run Tryz.prog u=.ok (.agg nd0) u:=fun u=>by kernel_rfl
 have RS:Hid ((Instr.storeAt 67 (pt w.heap.size) (.agg nd0)).run Tryz.prog w2.drew=.ok () (w2.drew.setRow w.heap.size nd0)):=sto (w:=w2.drew) k2 iG rfl (nI (bG 0 nb) none 0 0);obtain⟨w3,hw3⟩:∃w3,w2.drew.setRow w.heap.size nd0=w3:=⟨_,rfl⟩
 rw [hw3] at RS;have j2:w3.heap[w.heap.size]? =some (.cells nd0 67):=by rw [<-hw3];exact setRow_heap w2.drew _ _ _ _ _ k2
 have j3:w3.heap[w.heap.size+1]? =some (.cells #[.int .i64 c] 33):=by rw [<-hw3];exact((aL w2.drew w.heap.size nd0).block _ (aZ (u:=w2.drew) k3) (by intro e;have:=Option.some.inj e;omega)).trans k3
 have jb:Below w.heap.size w w3:=by rw [<-hw3];exact kb.drew.grown (aL _ _ _) kb.size (fun k e=>by cases e;exact Nat.le_refl _)
 have RS3:Hid ((Instr.storeAt 33 (.pointer (some ⟨w.heap.size+1,0,none⟩)) (.int .i64 c)).run Tryz.prog w3=.ok () (w3.setCell ⟨w.heap.size+1,0,none⟩ (.int .i64 c))):=by
  have c3:w3.cell? ⟨w.heap.size+1,0,none⟩=some (.int .i64 c):=by rw [cell_of_row _ _ 0 _ 33 (0,0) j3];rfl
  have f3:w3.frozen? ⟨w.heap.size+1,0,none⟩=false:=by unfold World.frozen?;rw [j3];rfl
  have h29:=Tryz.underlying33;show _=_;simp [go_sem,c3,f3]
 have HE:Hid ((w3.setCell ⟨w.heap.size+1,0,none⟩ (.int .i64 c)).heap[w.heap.size]? =some (.cells nd0 67)/\(w3.setCell ⟨w.heap.size+1,0,none⟩ (.int .i64 c)).heap[w.heap.size+1]? =some (.cells #[.int .i64 c] 33)/\Below w.heap.size w (w3.setCell ⟨w.heap.size+1,0,none⟩ (.int .i64 c))):=
  ⟨((Lib.grownBy_setCell w3 (w.heap.size+1) 0 (.int .i64 c)).block _ (aZ j2) (by intro e;have:=Option.some.inj e;omega)).trans j2,tL j3,jb.setCell (by simp) _⟩
 have J3:Hid _:=LD.out w3 j3;have K3:Hid _:=LD.out w2.drew k3;clear ld c1 f1 k2 k3 kb j2 j3 jb hw2 hw3;refine aP (fun u=>(Instr.loadAt 33 (.pointer (some ⟨w.heap.size+1,0,none⟩))).run Tryz.prog u=.ok (.int .i64 c) u) (fun j=>j==3) (by kernel_rfl) ?_;refine dwp 0 (.agg nd0) ?_ (hy:=(by intro u;kernel_rfl));refine dwl 1 (.int .i64 c) ?_ (hS:=K3.out) (hy:=(fun u hSu=>lT rfl rfl hSu));refine aJ (i:=2) (by kernel_rfl) rfl ?_;intro K hK;rw [if_pos (by go_simp)];refine kG none rfl 67 _ _ rfl _ _ rfl rfl RS.out (hK _ _ (.inr fun _=>J3.out) ?_);clear hK;try simp only [Act.put,List.setIfInBounds_toArray,List.set_cons_zero,List.set_cons_succ]
 refine aJ (i:=3) (by kernel_rfl) rfl ?_;intro K hK;rw [if_pos (by go_simp)];refine kG none rfl 33 _ _ rfl _ _ rfl rfl RS3.out (hK _ _ (.inl rfl) ?_);clear hK;try simp only [Act.put,List.setIfInBounds_toArray,List.set_cons_zero,List.set_cons_succ]
 refine aR (by kernel_rfl) ?_ _;go_wp2;refine bodyPost_ret (rC rfl rfl rfl HE.out.1 rfl HE.out.2.1) rfl ⟨nd0,rfl,pO _,by show zT qI<=256;decide,HE.out.2.2⟩
theorem aBv:∀(k:Nat) (l:List UInt8) (L:List Tk.Tok),Tk.nY gnF trB pnF k l=some L->L.length<=l.length
 | 0,l,L,h=>by cases h
 | k+1,[],L,h=>by cases h;exact Nat.le_refl _
 | k+1,c:: r,L,h=>by
  unfold Tk.nY at h;split at h
  ·have:=aBv k r L h;simp;omega
  ·cases ho:Tk.one gnF trB pnF (c:: r) with
   | none=>rw [ho] at h;cases h
   | some p=>
    rw [ho] at h;simp only at h;have hl:=pI (t:=p.1) (m:=p.2) ho;cases hk:Tk.nY gnF trB pnF k p.2 with
    | none=>rw [hk] at h;cases h
    | some M=>
     rw [hk] at h;cases h
     have:=aBv k p.2 M hk;simp only [List.length_cons] at *;omega
theorem aJj {l:List UInt8} {L:List Tk.Tok} (h:gP l=some L) (hl:l.length<=255):L.length<=255:=Nat.le_trans (aBv _ _ _ h) hl
theorem aAJ {w:World} (T:dD w) {l:List UInt8} {ts:List Tk.Tok} (hl:l.length<=255) (hx:gP l=some ts) {w1:World} {v:Value} (hB:Below (wpa w).heap.size (wpa w) w1) (ho:fJ 156 (wpa w).heap.size w1 v (ts.map tk)):
  ∃w2,w1.setCell ⟨w.heap.size+1,0,none⟩ (.int .i64 0)=w2/\PR w2 w2.heap.size ts (w2.alloc (aI2 v))/\Below w.heap.size w w2/\w2.heap[w.heap.size]? =some (.cells nd0 67)/\w2.heap[w.heap.size+1]? =some (.cells #[.int .i64 0] 33)/\w.heap.size+2<=w2.heap.size:=by
 obtain⟨k1,k2,k3⟩:=tK hB;have hz:w.heap.size+2<=w1.heap.size:=by have:=hB.size;simp at this;omega
 have G:=Lib.grownBy_setCell w1 (w.heap.size+1) 0 (.int .i64 0);have hb2:Below w.heap.size w (w1.setCell ⟨w.heap.size+1,0,none⟩ (.int .i64 0)):=k3.setCell (by simp) _;have ho2:fJ 156 (wpa w).heap.size (w1.setCell ⟨w.heap.size+1,0,none⟩ (.int .i64 0)) v (ts.map tk):=ho.kept G (by
  cases hv:v.ownBlock with
  | none=>exact .inl rfl
  | some g=>
   right;intro e;have:=(World.ownsRow.lt ho g hv).1;have:=Option.some.inj e;simp at *;omega)
 have hz2:w1.heap.size=(w1.setCell ⟨w.heap.size+1,0,none⟩ (.int .i64 0)).heap.size:=by simp [World.setCell]
 refine ⟨_,rfl,⟨T.below hb2,aD (Below.refl _ _) _,Nat.le_refl _,fun t ht=>⟨aIZ hx t ht,aI1 hl hx t ht⟩,v,heap_alloc_new _ _,TS.of ho2⟩,hb2, ?_,tL k2,by omega⟩;exact(G.block _ (aZ k1) (by intro e;have:=Option.some.inj e;omega)).trans k1
theorem aGC {l:List UInt8} {ts:List Tk.Tok} (hl:l.length<=255) (hx:gP l=some ts) (hts:ts.length<=255) (ha:qZ ts=none) (w:World) (T:dD w):Calls Tryz.prog 74 #[.string (ba l)] w (PA w (qI,10)):=by
 have hmf:∀(fn:Fn) (first cap:Array Value) (w:World),(Instr.makeFunc fn first cap).run Tryz.prog w=.ok (.func fn first cap) w:=fun _ _ _ _=>rfl;have L:=uZ l (wpa w) (T.below (aD (aD (Below.refl _ _) _) _)) hl;rw [hx] at L;have L':Calls Tryz.prog 105 #[.string (ba l)] (wpa w) fun e w1=>∃a c n w2,e=.returned (.tuple #[.slice a n c,.int .i64 0])/\w1.cell? ⟨w.heap.size+1,0,none⟩=some (.int .i64 0)/\w1.frozen? ⟨w.heap.size+1,0,none⟩=false/\w1.setCell ⟨w.heap.size+1,0,none⟩ (.int .i64 0)=w2/\w2.cell? ⟨w.heap.size+1,0,none⟩=some (.int .i64 0)/\
   (Calls Tryz.prog 107 #[pt w2.heap.size] (w2.alloc (aI2 (.slice a n c))) fun e w4=>e=.panicked dA/\Hid (w4.heap[w.heap.size]? =some (.cells nd0 67)/\w4.heap[w.heap.size+1]? =some (.cells #[.int .i64 0] 33)/\Below w.heap.size w w4)):=L.mono (by
  rintro e w1 ⟨hB,v,rfl,ho,_⟩;obtain⟨w2,e2,X,b2,k2,k3,hz⟩:=aAJ T hl hx hB ho;obtain⟨q1,q2,q3⟩:=tK hB;obtain⟨a,c,rfl⟩:=ho.slice;refine ⟨a,c,_,w2,rfl,by rw [cell_of_row _ _ 0 _ 33 (0,0) q2];rfl,by unfold World.frozen?;rw [q2];rfl,e2,by rw [cell_of_row _ _ 0 _ 33 (0,0) k3];rfl, ?_⟩;have C:=aAH (by omega) X;rw [ha] at C;refine C.mono ?_;rintro e w4 ⟨rfl,hg⟩;refine ⟨rfl,(hg.block _ (by simp;omega) (by intro e;have:=Option.some.inj e;omega)).trans ((Below.heap_alloc _ _ _ (by omega)).trans k2),(hg.block _ (by simp;omega) (by intro e;have:=Option.some.inj e;omega)).trans ((Below.heap_alloc _ _ _ (by omega)).trans k3), ?_⟩;exact(aD b2 _).grown hg (by simp;omega) (fun k e=>by cases e;omega))
 clear L T hx ha;go_enter_defers Tryz.func74,Tryz.ntmps74
 go_wp2_with (first|(go_at_call 105;refine L'.mono ?_;rintro e w1 ⟨a,c,n,w2,rfl,c1,f1,e2,c2,C⟩)|(go_at_call 107;refine C.mono ?_;rintro e w4 ⟨rfl,HK⟩))
 refine leaves_cons (f:=106) (args:=#[pt w.heap.size,.pointer (some ⟨w.heap.size+1,0,none⟩)]) (by simp) (by simp [go_sem]) ?_;refine (aEh _ HK.out.1 rfl HK.out.2.1 (by omega)).mono ?_;rintro e u' w'' ⟨rfl,rfl,rfl⟩;have G:=aL w4 w.heap.size nd0;have h3:(w4.setRow w.heap.size nd0).heap[w.heap.size+1]? =some (.cells #[.int .i64 0] 33):=(G.block _ (aZ HK.out.2.1) (by intro e;have:=Option.some.inj e;omega)).trans HK.out.2.1;have h2:(w4.setRow w.heap.size nd0).heap[w.heap.size]? =some (.cells nd0 67):=setRow_heap _ _ _ _ _ _ HK.out.1;have h2':=((Lib.grownBy_setCell (w4.setRow w.heap.size nd0) (w.heap.size+1) 0 (.int .i64 10)).block _ (aZ h2) (by intro e;have:=Option.some.inj e;omega)).trans h2;have hb:Below w.heap.size w (w4.setRow w.heap.size nd0):=HK.out.2.2.grown G HK.out.2.2.size (fun k e=>by cases e;exact Nat.le_refl _);exact⟨_,rC rfl rfl rfl h2' rfl (tL h3),nd0,rfl,pO _,by show zT qI<=256;decide,hb.setCell (by simp) _⟩
theorem aEi {l:List UInt8} {ts:List Tk.Tok} {t:T} (hl:l.length<=255) (hx:gP l=some ts) (hts:ts.length<=255) (ha:qZ ts=some t) (w:World) (T:dD w):Calls Tryz.prog 74 #[.string (ba l)] w (PA w (t,0)):=by
 have hmf:∀(fn:Fn) (first cap:Array Value) (w:World),(Instr.makeFunc fn first cap).run Tryz.prog w=.ok (.func fn first cap) w:=fun _ _ _ _=>rfl;have L:=uZ l (wpa w) (T.below (aD (aD (Below.refl _ _) _) _)) hl;rw [hx] at L;have L':Calls Tryz.prog 105 #[.string (ba l)] (wpa w) fun e w1=>∃a c n w2,e=.returned (.tuple #[.slice a n c,.int .i64 0])/\w1.cell? ⟨w.heap.size+1,0,none⟩=some (.int .i64 0)/\w1.frozen? ⟨w.heap.size+1,0,none⟩=false/\w1.setCell ⟨w.heap.size+1,0,none⟩ (.int .i64 0)=w2/\w2.cell? ⟨w.heap.size+1,0,none⟩=some (.int .i64 0)/\
   (Calls Tryz.prog 107 #[pt w2.heap.size] (w2.alloc (aI2 (.slice a n c))) fun e w4=>∃es,e=.returned (.agg es)/\Hid ((Instr.storeAt 67 (pt w.heap.size) (.agg es)).run Tryz.prog w4=.ok () (w4.setRow w.heap.size es))/\(w4.setRow w.heap.size es).cell? ⟨w.heap.size+1,0,none⟩=some (.int .i64 0)/\(w4.setRow w.heap.size es).frozen? ⟨w.heap.size+1,0,none⟩=false/\
    Hid (((w4.setRow w.heap.size es).setCell ⟨w.heap.size+1,0,none⟩ (.int .i64 0)).heap[w.heap.size]? =some (.cells es 67)/\((w4.setRow w.heap.size es).setCell ⟨w.heap.size+1,0,none⟩ (.int .i64 0)).heap[w.heap.size+1]? =some (.cells #[.int .i64 0] 33)/\Below w.heap.size w ((w4.setRow w.heap.size es).setCell ⟨w.heap.size+1,0,none⟩ (.int .i64 0))/\
     NT ((w4.setRow w.heap.size es).setCell ⟨w.heap.size+1,0,none⟩ (.int .i64 0)) es t/\zT t<=256/\es.size=18)):=L.mono (by
  rintro e w1 ⟨hB,v,rfl,ho,_⟩;obtain⟨w2,e2,X,b2,k2,k3,hz⟩:=aAJ T hl hx hB ho;obtain⟨q1,q2,q3⟩:=tK hB;obtain⟨a,c,rfl⟩:=ho.slice;refine ⟨a,c,_,w2,rfl,by rw [cell_of_row _ _ 0 _ 33 (0,0) q2];rfl,by unfold World.frozen?;rw [q2];rfl,e2,by rw [cell_of_row _ _ 0 _ 33 (0,0) k3];rfl, ?_⟩;have C:=aAH (by omega) X;rw [ha] at C;refine C.mono ?_;rintro e w4 ⟨es,rfl,hN,hg,hzt⟩;have m2:w4.heap[w.heap.size]? =some (.cells nd0 67):=(hg.block _ (by simp;omega) (by intro e;have:=Option.some.inj e;omega)).trans ((Below.heap_alloc _ _ _ (by omega)).trans k2);have m3:w4.heap[w.heap.size+1]? =some (.cells #[.int .i64 0] 33):=(hg.block _ (by simp;omega) (by intro e;have:=Option.some.inj e;omega)).trans ((Below.heap_alloc _ _ _ (by omega)).trans k3);have mb:Below w.heap.size w w4:=(aD b2 _).grown hg (by simp;omega) (fun k e=>by cases e;omega);have G:=aL w4 w.heap.size es;have h3:(w4.setRow w.heap.size es).heap[w.heap.size+1]? =some (.cells #[.int .i64 0] 33):=(G.block _ (aZ m3) (by intro e;have:=Option.some.inj e;omega)).trans m3;have h2:(w4.setRow w.heap.size es).heap[w.heap.size]? =some (.cells es 67):=setRow_heap _ _ _ _ _ _ m2;have G2:=Lib.grownBy_setCell (w4.setRow w.heap.size es) (w.heap.size+1) 0 (.int .i64 0);have h2':=(G2.block _ (aZ h2) (by intro e;have:=Option.some.inj e;omega)).trans h2;have hb:Below w.heap.size w (w4.setRow w.heap.size es):=mb.grown G mb.size (fun k e=>by cases e;exact Nat.le_refl _);have hn1:NK (fun i=>w.heap.size+2<=i) w4 es t:=hN.mono (fun i hi _=>by simp at hi;omega);refine ⟨es,rfl,hN.sto m2 rfl,by rw [cell_of_row _ _ 0 _ 33 (0,0) h3];rfl,by unfold World.frozen?;rw [h3];rfl,h2',tL h3,hb.setCell (by simp) _, ?_,hzt,hN.size⟩;exact((hn1.grown G (fun g e hk=>by cases e;omega)).grown G2 (fun g e hk=>by cases e;omega)).nt)
 clear L T hx ha;go_enter_defers Tryz.func74,Tryz.ntmps74
 go_wp2_with (first|(go_at_call 105;refine L'.mono ?_;rintro e w1 ⟨a,c,n,w2,rfl,c1,f1,e2,c2,C⟩)|(go_at_call 107;refine C.mono ?_;rintro e w4 ⟨es,rfl,RS,c4,f4,HK⟩)|(refine aB rfl 67 _ _ rfl _ _ _ rfl rfl RS.out ?_))
 refine leaves_cons (f:=106) (args:=#[pt w.heap.size,.pointer (some ⟨w.heap.size+1,0,none⟩)]) (by simp) (by simp [go_sem]) ?_;refine (aEg _ _ _).mono ?_;rintro e u' w'' ⟨rfl,rfl,rfl⟩;exact⟨_,rC rfl rfl rfl HK.out.1 HK.out.2.2.2.2.2 HK.out.2.1,es,rfl,HK.out.2.2.2.1,HK.out.2.2.2.2.1,HK.out.2.2.1⟩
theorem aEj (l:List UInt8) (w:World) (T:dD w):Calls Tryz.prog 74 #[.string (ba l)] w (PA w (vC l)):=by
 have TW:dD (wpa w):=T.below (aD (aD (Below.refl _ _) _) _);unfold vC;by_cases h:255 < l.length
 ·rw [if_pos h];exact aAI (by decide) w ((aJi l (wpa w) h).mono (by rintro e w1 ⟨rfl,rfl⟩;exact⟨rfl,Below.refl _ _⟩))
 ·rw [if_neg h];have L:=uZ l (wpa w) TW (by omega);cases hx:gP l with
  | none=>
   rw [hx] at L;exact aAI (by decide) w (L.mono (by rintro e w1 ⟨h1,rfl⟩;exact⟨rfl,h1⟩))
  | some ts=>
   have hts:ts.length<=255:=aJj hx (by omega);cases ha:qZ ts with
   | none=>simp only [ha];exact aGC (by omega) hx hts ha w T
   | some t=>simp only [ha];exact aEi (by omega) hx hts ha w T
end Go.Proofs.YtlhoklhjbpkgpaaGreatDoor
namespace Go.Proofs.YtlhoklhjbpkgpaaGreatDoor.Sh
open Go.RowKit Go.Fm
def dI (s:ByteArray):Int:=if 255 < s.size then 3 else if (Ad.strip 61 s.data.toList).1=true then (if (vC (Ad.strip 61 s.data.toList).2).2=0 then 0 else 10) else 0
theorem aBw (s:ByteArray) (w:World) (T:dD w):CR 26 #[.string s] w (.int .i64 (dI s)):=by
 have hs:s=⟨s.data.toList.toArray⟩:=by cases s;rfl
 have CP:=mE 61 s.data.toList w;rw [<-hs] at CP;have PR:=aEj (Ad.strip 61 s.data.toList).2 w T;have P2:Calls Tryz.prog 74 #[.string ⟨(Ad.strip 61 s.data.toList).2.toArray⟩] w fun e w'=>∃es,e=.returned (.tuple #[.agg es,.int .i64 (vC (Ad.strip 61 s.data.toList).2).2])/\Hid ((Instr.storeAt 67 (pt w'.heap.size) (.agg es)).run Tryz.prog (w'.alloc (.cells nd0 67))=.ok () (w'.alloc (.cells es 67)))/\Hid (Below w.heap.size w (w'.alloc (.cells es 67))):=PR.mono (by
  rintro e w1 ⟨es,rfl,hN,_,hb⟩;exact⟨es,rfl,(aCE w1 hN).1,Sh.aD hb (Nat.le_refl _) _⟩)
 unfold dI;generalize (vC (Ad.strip 61 s.data.toList).2).2=pe at *;generalize (Ad.strip 61 s.data.toList).2=rs at *;generalize (Ad.strip 61 s.data.toList).1=sb at *;clear PR hs T;generalize hz:s.size=n at *;have HZ:(s.size:Int)=(n:Int):=by omega
 clear hz;by_cases hlong:255 < n
 ·rw [if_pos hlong];have hli:(255:Int) < n:=by omega
  go_enter Tryz.func26,Tryz.ntmps26;go_wp2;go_ret;exact⟨rfl,Below.refl _ _⟩
 ·rw [if_neg hlong];have hli:¬(255:Int) < n:=by omega
  cases sb with
  | false=>
   rw [if_neg (by decide)];go_enter Tryz.func26,Tryz.ntmps26;go_wp2_with (go_at_call 73;refine CP.mono ?_;clear CP;rintro e w1 ⟨rfl,hw⟩;obtain rfl:=hw.symm;clear hw)
   go_ret;exact⟨rfl,Below.refl _ _⟩
  | true=>
   rw [if_pos rfl];by_cases hp:pe=0
   ·subst hp;rw [if_pos rfl];go_enter Tryz.func26,Tryz.ntmps26;go_wp2_with (first|(go_at_call 73;refine CP.mono ?_;clear CP;rintro e w1 ⟨rfl,hw⟩;obtain rfl:=hw.symm;clear hw)|(go_at_call 74;refine P2.mono ?_;clear P2;rintro e w1 ⟨es,rfl,RS,HB⟩)|(refine aB rfl 67 _ _ rfl _ _ _ rfl rfl RS.out ?_;clear RS))
    go_ret;exact⟨rfl,HB.out⟩
   ·rw [if_neg hp];have hpb:(pe !=0)=true:=by simpa using hp
    go_enter Tryz.func26,Tryz.ntmps26;go_wp2_with (first|(go_at_call 73;refine CP.mono ?_;clear CP;rintro e w1 ⟨rfl,hw⟩;obtain rfl:=hw.symm;clear hw)|(go_at_call 74;refine P2.mono ?_;clear P2;rintro e w1 ⟨es,rfl,RS,HB⟩)|(refine aB rfl 67 _ _ rfl _ _ _ rfl rfl RS.out ?_;clear RS))
    go_ret;exact⟨rfl,HB.out⟩
def bW:List aK->Int
 | []=>0
 | c:: r=>if dI c.text ≠ 0 then dI c.text else bW r
theorem aGD {lo hi:Nat} {w:World} {a:Option Addr} {c:Nat} {L:List aK} (h:Cls lo hi w (.slice a L.length c) L) (hhi:hi<=w.heap.size) (T:dD w):
  CR 55 #[.slice a L.length c] w (.int .i64 (bW L)):=by
 obtain⟨_,_,he,hz1,hz2⟩:=h.slice;cases he
 have hlen:L.length<=9223372036854775807:=by unfold maxLen at hz2;omega
 have HS:Hid (Cls lo hi w (.slice a L.length c) L):=h;have HT:Hid (dD w):=T;generalize hO:bW L=tf;have HO:Hid (bW (L.drop 0)=tf):=by show _=_;rw [List.drop_zero];exact hO
 clear h hz1 hz2 hO T;go_enter Tryz.func55,Tryz.ntmps55;go_wp2;go_loopw [8] (fun i wr=>∃(k:Nat),k<=L.length/\i=.int .i64 (k:Nat)/\Hid (bW (L.drop k)=tf)/\Hid (Below w.heap.size w wr)) (fun i _=>L.length - (intOf i).toNat)
 case atStart=>exact⟨0,Nat.zero_le _,rfl,HO,Below.refl _ _⟩
 case round=>
  obtain⟨k,hk,rfl,HA,HD⟩:=hrel;clear HO;by_cases hkL:k < L.length
  ·have hki:(k:Int) < L.length:=by omega
   obtain⟨a',ov,W',rfl,rfl,hW',R2,R3, -⟩:=(HS.out.below hhi HD.out).runs hkL;obtain⟨_,_,c2⟩:=bZ (show W'.heap[wr.heap.size]? =some (.cells (cellC L[k]).toArray 57) by rw [hW'];exact heap_alloc_new wr _);have HD2:Hid (Below w.heap.size w W'):=by rw [hW'];exact Sh.aD HD.out (Nat.le_refl _) _
   have C:=aBw L[k].text W' (HT.out.below HD2.out);have iJ:k < 9223372036854775807:=by omega
   have HX:Hid (dI L[k].text ≠ 0->tf=dI L[k].text):=fun e=>by rw [<-HA.out,List.drop_eq_getElem_cons hkL];unfold bW;rw [if_pos e]
   have HY:Hid (dI L[k].text=0->bW (L.drop (k+1))=tf):=fun e=>by rw [<-HA.out,List.drop_eq_getElem_cons hkL,bW,if_neg (by simpa using e)]
   clear hW';generalize L[k]=y at *;obtain⟨yr,yc,yt⟩:=y;dsimp only at *;generalize dI yt=me at *;by_cases e1:me=0
   ·have HY2:Hid _:=HY.out e1;subst e1;clear HX HY;go_wp2_with (first|(refine aC rfl 57 _ rfl _ _ rfl R2.out ?_;clear R2)|(refine aB rfl 57 _ _ rfl _ _ _ rfl rfl R3.out ?_;clear R3)|(go_at_call 26;refine C.mono ?_;clear C;rintro e w1 ⟨rfl,hb⟩;have HB1:Hid _:=Sh.aF HD2.out HD2.out.size hb;clear hb))
    go_roundw
    case rel=>exact⟨k+1,by omega,by go_num,HY2,HB1⟩
    case measure=>simp [intOf];omega
   ·have hpb:(me !=0)=true:=by simpa using e1
    obtain rfl:=HX.out e1;clear HX HY;go_wp2_with (first|(refine aC rfl 57 _ rfl _ _ rfl R2.out ?_;clear R2)|(refine aB rfl 57 _ _ rfl _ _ _ rfl rfl R3.out ?_;clear R3)|(go_at_call 26;refine C.mono ?_;clear C;rintro e w1 ⟨rfl,hb⟩;have HB1:Hid _:=Sh.aF HD2.out HD2.out.size hb;clear hb))
    go_ret;exact⟨rfl,HB1.out⟩
  ·have hki:¬(k:Int) < L.length:=by omega
   obtain rfl:tf=0:=by rw [<-HA.out,List.drop_of_length_le (by omega)];rfl
   go_wp2;go_ret;exact⟨rfl,HD.out⟩
theorem aCV {L:List aK} {k:Nat} (hk:k < L.length) (h0:k=0):stB L k=(iZ L[k].row L[k].col && !(L[k].text.toList==[])):=by subst h0;unfold stB;simp only [List.getElem?_eq_getElem hk];simp
theorem aCW {L:List aK} {k j:Nat} (hk:k < L.length) (hj:k=j+1):stB L k=(iZ L[k].row L[k].col && (!(L[k].text.toList==[]) && decide (jU (L[j]'(by omega)) L[k] < 0))):=by subst hj;unfold stB;simp only [List.getElem?_eq_getElem hk,Nat.add_sub_cancel,List.getElem?_eq_getElem (show j < L.length by omega)];simp
theorem aJk {lo hi:Nat} {w:World} {a:Option Addr} {c:Nat} {L:List aK} (h:Cls lo hi w (.slice a L.length c) L) (hhi:hi<=w.heap.size):
  CR 77 #[.slice a L.length c] w (.bool (laidB L)):=by
 obtain⟨_,_,he,hz1,hz2⟩:=h.slice;cases he
 have hlen:L.length<=9223372036854775807:=by unfold maxLen at hz2;omega
 have HS0:Hid (Cls lo hi w (.slice a L.length c) L):=h;generalize hO:laidB L=lb;have HO:Hid (laidB L=lb):=hO;clear h hz1 hz2 hO;go_enter Tryz.func77,Tryz.ntmps77;go_wp2;go_loopw [7] (fun i wr=>∃(k:Nat),k<=L.length/\i=.int .i64 (k:Nat)/\Hid (∀j,j < k->stB L j=true)/\Hid (Below w.heap.size w wr)) (fun i _=>L.length - (intOf i).toNat)
 case atStart=>exact⟨0,Nat.zero_le _,rfl,fun j hj=>by omega,Below.refl _ _⟩
 case round=>
  obtain⟨k,hk,rfl,HA,HD⟩:=hrel;by_cases hkL:k < L.length
  ·have hki:(k:Int) < L.length:=by omega
   have HF:=HS0.out.below hhi HD.out;obtain⟨a',ov,W',rfl,rfl,hW',R2,R3,R4⟩:=HF.runs hkL;have HD2:Hid (Below w.heap.size w W'):=by rw [hW'];exact Sh.aD HD.out (Nat.le_refl _) _
   have HDd:Hid (Below w.heap.size w W'.drew):=HD2.out.drew;have hX:W'.drew.heap[wr.heap.size]? =some (.cells (cellC L[k]).toArray 57):=by rw [hW'];exact heap_alloc_new wr _
   obtain⟨c0,c1,c2⟩:=bZ hX;have C1:=iC L[k].row L[k].col W'.drew;have iJ:k < 9223372036854775807:=by omega
   have HNO:Hid (stB L k=false->lb=false):=fun e=>by rw [<-HO.out];exact aFa hkL e
   have kT:Hid (stB L k=true->∀j,j < k+1->stB L j=true):=fun e j hj=>by
    by_cases hjk:j=k
    ·subst hjk;exact e
    ·exact HA.out j (by omega)
   have hLX:=ldC hX;by_cases hk0:k=0
   ·have hkz:decide ((0:Int) < (k:Int))=false:=by simpa using hk0
    have zF:=aCV hkL hk0;have HST:Hid (stB L k=(iZ L[k].row L[k].col && !(L[k].text.toList==[]))):=zF;have HK0:Hid (k=0):=hk0;clear zF HF hW' R4 hX hk0;generalize L[k]=y at *;obtain⟨yr,yc,yt⟩:=y;dsimp only at *;have HS:Hid (W'.drew.cell? ⟨wr.heap.size,0,none⟩=some (.int .i64 yr)/\W'.drew.cell? ⟨wr.heap.size,1,none⟩=some (.int .i64 yc)/\W'.drew.cell? ⟨wr.heap.size,2,none⟩=some (.string yt)/\(Instr.loadAt 57 (pt wr.heap.size)).run Tryz.prog W'.drew=.ok (cellV ⟨yr,yc,yt⟩) W'.drew):=⟨c0,c1,c2,hLX⟩
    clear c0 c1 c2 hLX;cases hin:iZ yr yc with
    | false=>
     rw [hin] at C1 HST;obtain rfl:=HNO.out (by rw [HST.out];rfl);clear HNO kT;go_wp2_with (first|(refine aC rfl 57 _ rfl _ _ rfl R2.out ?_;clear R2)|(refine aB rfl 57 _ _ rfl _ _ _ rfl rfl R3.out ?_;clear R3))
     refine aP (fun u=>u.cell? ⟨wr.heap.size,0,none⟩=some (.int .i64 yr)/\u.cell? ⟨wr.heap.size,1,none⟩=some (.int .i64 yc)/\u.cell? ⟨wr.heap.size,2,none⟩=some (.string yt)/\(Instr.loadAt 57 (pt wr.heap.size)).run Tryz.prog u=.ok (cellV ⟨yr,yc,yt⟩) u) (fun j=>false) (by kernel_rfl) ?_;refine dwp 0 ((pt wr.heap.size)) ?_;refine dwl 1 ((.int .i64 yr)) ?_ (hS:=HS.out) (hy:=(fun u hSu=>aG rfl rfl (ld1 hSu.1 (Tryz.isAgg3 _))));refine dwp 2 ((.pointer (some ⟨wr.heap.size,1,none⟩))) ?_;refine dwl 3 ((.int .i64 yc)) ?_ (hS:=HS.out) (hy:=(fun u hSu=>aG rfl rfl (ld1 hSu.2.1 (Tryz.isAgg3 _))));refine aJ (i:=4) (by kernel_rfl) rfl ?_;intro K' hK';go_simp;refine C1.mono ?_;clear C1;rintro e w1 ⟨rfl,hw⟩;obtain rfl:=hw.symm;clear hw;refine hK' _ _ (.inr id) ?_;clear hK';try simp only [Act.put,List.setIfInBounds_toArray,List.set_cons_zero,List.set_cons_succ]
     refine dwp 5 ((.bool true)) ?_;refine dwp 6 ((.bool true)) ?_;refine dws 7 ?_;refine dws 8 ?_;refine dws 9 ?_;refine dwp 10 ((.bool true)) ?_;refine dwp 11 ((.bool true)) ?_;refine dws 12 ?_;refine dws 13 ?_;refine dws 14 ?_;refine dws 15 ?_;refine dws 16 ?_;refine dws 17 ?_;refine dws 18 ?_;refine dws 19 ?_;refine dws 20 ?_;refine dws 21 ?_;refine dws 22 ?_;refine dws 23 ?_;refine dwp 24 ((.bool true)) ?_;refine aR (by kernel_rfl) ?_ _;go_wp2;go_ret;exact⟨rfl,HDd.out⟩
    | true=>
     rw [hin] at C1 HST;cases hte:yt.toList==[] with
     | true=>
      rw [hte] at HST;obtain rfl:=HNO.out (by rw [HST.out];rfl);clear HNO kT;go_wp2_with (first|(refine aC rfl 57 _ rfl _ _ rfl R2.out ?_;clear R2)|(refine aB rfl 57 _ _ rfl _ _ _ rfl rfl R3.out ?_;clear R3))
      refine aP (fun u=>u.cell? ⟨wr.heap.size,0,none⟩=some (.int .i64 yr)/\u.cell? ⟨wr.heap.size,1,none⟩=some (.int .i64 yc)/\u.cell? ⟨wr.heap.size,2,none⟩=some (.string yt)/\(Instr.loadAt 57 (pt wr.heap.size)).run Tryz.prog u=.ok (cellV ⟨yr,yc,yt⟩) u) (fun j=>false) (by kernel_rfl) ?_;refine dwp 0 ((pt wr.heap.size)) ?_;refine dwl 1 ((.int .i64 yr)) ?_ (hS:=HS.out) (hy:=(fun u hSu=>aG rfl rfl (ld1 hSu.1 (Tryz.isAgg3 _))));refine dwp 2 ((.pointer (some ⟨wr.heap.size,1,none⟩))) ?_;refine dwl 3 ((.int .i64 yc)) ?_ (hS:=HS.out) (hy:=(fun u hSu=>aG rfl rfl (ld1 hSu.2.1 (Tryz.isAgg3 _))));refine aJ (i:=4) (by kernel_rfl) rfl ?_;intro K' hK';go_simp;refine C1.mono ?_;clear C1;rintro e w1 ⟨rfl,hw⟩;obtain rfl:=hw.symm;clear hw;refine hK' _ _ (.inr id) ?_;clear hK';try simp only [Act.put,List.setIfInBounds_toArray,List.set_cons_zero,List.set_cons_succ]
      refine dwp 5 ((.bool false)) ?_;refine dwp 6 ((.bool false)) ?_;refine dwp 7 ((.pointer (some ⟨wr.heap.size,2,none⟩))) ?_;refine dwl 8 ((.string yt)) ?_ (hS:=HS.out) (hy:=(fun u hSu=>aG rfl rfl (ld1 hSu.2.2.1 (Tryz.isAgg9 _))));refine dwp 9 ((.bool true)) ?_;refine dwp 10 ((.bool true)) ?_;refine dwp 11 ((.bool true)) ?_;refine dws 12 ?_;refine dws 13 ?_;refine dws 14 ?_;refine dws 15 ?_;refine dws 16 ?_;refine dws 17 ?_;refine dws 18 ?_;refine dws 19 ?_;refine dws 20 ?_;refine dws 21 ?_;refine dws 22 ?_;refine dws 23 ?_;refine dwp 24 ((.bool true)) ?_;refine aR (by kernel_rfl) ?_ _;go_wp2;go_ret;exact⟨rfl,HDd.out⟩
     | false=>
      rw [hte] at HST;have HY2:Hid _:=kT.out (by rw [HST.out];rfl);clear HNO kT;go_wp2_with (first|(refine aC rfl 57 _ rfl _ _ rfl R2.out ?_;clear R2)|(refine aB rfl 57 _ _ rfl _ _ _ rfl rfl R3.out ?_;clear R3))
      refine aP (fun u=>u.cell? ⟨wr.heap.size,0,none⟩=some (.int .i64 yr)/\u.cell? ⟨wr.heap.size,1,none⟩=some (.int .i64 yc)/\u.cell? ⟨wr.heap.size,2,none⟩=some (.string yt)/\(Instr.loadAt 57 (pt wr.heap.size)).run Tryz.prog u=.ok (cellV ⟨yr,yc,yt⟩) u) (fun j=>false) (by kernel_rfl) ?_;refine dwp 0 ((pt wr.heap.size)) ?_;refine dwl 1 ((.int .i64 yr)) ?_ (hS:=HS.out) (hy:=(fun u hSu=>aG rfl rfl (ld1 hSu.1 (Tryz.isAgg3 _))));refine dwp 2 ((.pointer (some ⟨wr.heap.size,1,none⟩))) ?_;refine dwl 3 ((.int .i64 yc)) ?_ (hS:=HS.out) (hy:=(fun u hSu=>aG rfl rfl (ld1 hSu.2.1 (Tryz.isAgg3 _))));refine aJ (i:=4) (by kernel_rfl) rfl ?_;intro K' hK';go_simp;refine C1.mono ?_;clear C1;rintro e w1 ⟨rfl,hw⟩;obtain rfl:=hw.symm;clear hw;refine hK' _ _ (.inr id) ?_;clear hK';try simp only [Act.put,List.setIfInBounds_toArray,List.set_cons_zero,List.set_cons_succ]
      refine dwp 5 ((.bool false)) ?_;refine dwp 6 ((.bool false)) ?_;refine dwp 7 ((.pointer (some ⟨wr.heap.size,2,none⟩))) ?_;refine dwl 8 ((.string yt)) ?_ (hS:=HS.out) (hy:=(fun u hSu=>aG rfl rfl (ld1 hSu.2.2.1 (Tryz.isAgg9 _))));refine dwp 9 ((.bool false)) ?_;refine dwp 10 ((.bool false)) ?_;refine dwp 11 ((.bool false)) ?_;refine dwp 12 ((.int .i64 (k:Int))) ?_;refine dwp 13 ((.bool false)) ?_ (hy:=(by intro u;go_simp;have:=HK0.out;omega));refine dwp 14 ((.bool false)) ?_;refine dws 15 ?_;refine dws 16 ?_;refine dws 17 ?_;refine dws 18 ?_;refine dws 19 ?_;refine dws 20 ?_;refine dws 21 ?_;refine dws 22 ?_;refine dwp 23 ((.bool false)) ?_;refine dwp 24 ((.bool false)) ?_;refine aR (by kernel_rfl) ?_ _;go_wp2;go_roundw
      case rel=>exact⟨k+1,by omega,by go_num,HY2,HDd⟩
      case measure=>simp [intOf];omega
   ·obtain ⟨j,hj⟩:∃j,k=j+1:=⟨k - 1,by omega⟩
    have hjL:j < L.length:=by omega
    have hkz:(0:Int) < k:=by omega
    have hji:(k:Int) - 1=(j:Int):=by omega
    have hjw:IntKind.i64.wrap (j:Int)=(j:Int):=by rw [IntKind.wrap_i64];omega
    have hjn:(j:Int) < L.length:=by omega
    have HFd:=HS0.out.below hhi HDd.out;obtain⟨b',_,_,e2,rfl,_,RJ, -, -⟩:=HFd.runs hjL;cases e2
    have zF:=aCW hkL hj;have HST:Hid (stB L k=(iZ L[k].row L[k].col && (!(L[k].text.toList==[]) && decide (jU L[j] L[k] < 0)))):=zF;have C2:=uQ L[j] L[k] W'.drew;have jV:Hid (∀u,Below W'.drew.heap.size W'.drew u->u.cell? ⟨wr.heap.size,0,none⟩=some (.int .i64 L[k].row)/\u.cell? ⟨wr.heap.size,1,none⟩=some (.int .i64 L[k].col)/\u.cell? ⟨wr.heap.size,2,none⟩=some (.string L[k].text)/\(Instr.loadAt 57 (pt wr.heap.size)).run Tryz.prog u=.ok (cellV L[k]) u/\(Instr.loadAt 57 (.pointer (some (a'.add (j * 3))))).run Tryz.prog u=.ok (cellV L[j]) u):=fun u hu=>by
     have hXu:=(hu.block _ (aN hX)).trans hX;obtain⟨q0,q1,q2⟩:=bZ hXu;obtain⟨_,_,_,e3,rfl,_,RJ2, -, -⟩:=(HS0.out.below hhi (Sh.aF HDd.out HDd.out.size hu)).runs hjL;cases e3
     exact⟨q0,q1,q2,ldC hXu,RJ2.out⟩
    clear zF HF HFd hW' R4 hX hk0 hj;generalize L[j]=p at *;generalize L[k]=y at *;obtain⟨yr,yc,yt⟩:=y;dsimp only at *;have HS:Hid (W'.drew.cell? ⟨wr.heap.size,0,none⟩=some (.int .i64 yr)/\W'.drew.cell? ⟨wr.heap.size,1,none⟩=some (.int .i64 yc)/\W'.drew.cell? ⟨wr.heap.size,2,none⟩=some (.string yt)/\(Instr.loadAt 57 (pt wr.heap.size)).run Tryz.prog W'.drew=.ok (cellV ⟨yr,yc,yt⟩) W'.drew/\(Instr.loadAt 57 (.pointer (some (a'.add (j * 3))))).run Tryz.prog W'.drew=.ok (cellV p) W'.drew):=⟨c0,c1,c2,hLX,RJ.out⟩
    clear c0 c1 c2 hLX RJ;generalize jU p ⟨yr,yc,yt⟩=cv at *;cases hin:iZ yr yc with
    | false=>
     rw [hin] at C1 HST;obtain rfl:=HNO.out (by rw [HST.out];rfl);clear HNO kT C2 jV;go_wp2_with (first|(refine aC rfl 57 _ rfl _ _ rfl R2.out ?_;clear R2)|(refine aB rfl 57 _ _ rfl _ _ _ rfl rfl R3.out ?_;clear R3))
     refine aP (fun u=>u.cell? ⟨wr.heap.size,0,none⟩=some (.int .i64 yr)/\u.cell? ⟨wr.heap.size,1,none⟩=some (.int .i64 yc)/\u.cell? ⟨wr.heap.size,2,none⟩=some (.string yt)/\(Instr.loadAt 57 (pt wr.heap.size)).run Tryz.prog u=.ok (cellV ⟨yr,yc,yt⟩) u/\(Instr.loadAt 57 (.pointer (some (a'.add (j * 3))))).run Tryz.prog u=.ok (cellV p) u) (fun j=>false) (by kernel_rfl) ?_;refine dwp 0 ((pt wr.heap.size)) ?_;refine dwl 1 ((.int .i64 yr)) ?_ (hS:=HS.out) (hy:=(fun u hSu=>aG rfl rfl (ld1 hSu.1 (Tryz.isAgg3 _))));refine dwp 2 ((.pointer (some ⟨wr.heap.size,1,none⟩))) ?_;refine dwl 3 ((.int .i64 yc)) ?_ (hS:=HS.out) (hy:=(fun u hSu=>aG rfl rfl (ld1 hSu.2.1 (Tryz.isAgg3 _))));refine aJ (i:=4) (by kernel_rfl) rfl ?_;intro K' hK';go_simp;refine C1.mono ?_;clear C1;rintro e w1 ⟨rfl,hw⟩;obtain rfl:=hw.symm;clear hw;refine hK' _ _ (.inr id) ?_;clear hK';try simp only [Act.put,List.setIfInBounds_toArray,List.set_cons_zero,List.set_cons_succ]
     refine dwp 5 ((.bool true)) ?_;refine dwp 6 ((.bool true)) ?_;refine dws 7 ?_;refine dws 8 ?_;refine dws 9 ?_;refine dwp 10 ((.bool true)) ?_;refine dwp 11 ((.bool true)) ?_;refine dws 12 ?_;refine dws 13 ?_;refine dws 14 ?_;refine dws 15 ?_;refine dws 16 ?_;refine dws 17 ?_;refine dws 18 ?_;refine dws 19 ?_;refine dws 20 ?_;refine dws 21 ?_;refine dws 22 ?_;refine dws 23 ?_;refine dwp 24 ((.bool true)) ?_;refine aR (by kernel_rfl) ?_ _;go_wp2;go_ret;exact⟨rfl,HDd.out⟩
    | true=>
     rw [hin] at C1 HST;cases hte:yt.toList==[] with
     | true=>
      rw [hte] at HST;obtain rfl:=HNO.out (by rw [HST.out];rfl);clear HNO kT C2 jV;go_wp2_with (first|(refine aC rfl 57 _ rfl _ _ rfl R2.out ?_;clear R2)|(refine aB rfl 57 _ _ rfl _ _ _ rfl rfl R3.out ?_;clear R3))
      refine aP (fun u=>u.cell? ⟨wr.heap.size,0,none⟩=some (.int .i64 yr)/\u.cell? ⟨wr.heap.size,1,none⟩=some (.int .i64 yc)/\u.cell? ⟨wr.heap.size,2,none⟩=some (.string yt)/\(Instr.loadAt 57 (pt wr.heap.size)).run Tryz.prog u=.ok (cellV ⟨yr,yc,yt⟩) u/\(Instr.loadAt 57 (.pointer (some (a'.add (j * 3))))).run Tryz.prog u=.ok (cellV p) u) (fun j=>false) (by kernel_rfl) ?_;refine dwp 0 ((pt wr.heap.size)) ?_;refine dwl 1 ((.int .i64 yr)) ?_ (hS:=HS.out) (hy:=(fun u hSu=>aG rfl rfl (ld1 hSu.1 (Tryz.isAgg3 _))));refine dwp 2 ((.pointer (some ⟨wr.heap.size,1,none⟩))) ?_;refine dwl 3 ((.int .i64 yc)) ?_ (hS:=HS.out) (hy:=(fun u hSu=>aG rfl rfl (ld1 hSu.2.1 (Tryz.isAgg3 _))));refine aJ (i:=4) (by kernel_rfl) rfl ?_;intro K' hK';go_simp;refine C1.mono ?_;clear C1;rintro e w1 ⟨rfl,hw⟩;obtain rfl:=hw.symm;clear hw;refine hK' _ _ (.inr id) ?_;clear hK';try simp only [Act.put,List.setIfInBounds_toArray,List.set_cons_zero,List.set_cons_succ]
      refine dwp 5 ((.bool false)) ?_;refine dwp 6 ((.bool false)) ?_;refine dwp 7 ((.pointer (some ⟨wr.heap.size,2,none⟩))) ?_;refine dwl 8 ((.string yt)) ?_ (hS:=HS.out) (hy:=(fun u hSu=>aG rfl rfl (ld1 hSu.2.2.1 (Tryz.isAgg9 _))));refine dwp 9 ((.bool true)) ?_;refine dwp 10 ((.bool true)) ?_;refine dwp 11 ((.bool true)) ?_;refine dws 12 ?_;refine dws 13 ?_;refine dws 14 ?_;refine dws 15 ?_;refine dws 16 ?_;refine dws 17 ?_;refine dws 18 ?_;refine dws 19 ?_;refine dws 20 ?_;refine dws 21 ?_;refine dws 22 ?_;refine dws 23 ?_;refine dwp 24 ((.bool true)) ?_;refine aR (by kernel_rfl) ?_ _;go_wp2;go_ret;exact⟨rfl,HDd.out⟩
     | false=>
      rw [hte] at HST;by_cases hc:cv < 0
      ·have HY2:Hid _:=kT.out (by rw [HST.out];simp [hc]);have hc2:¬0<=cv:=by omega
       clear HNO kT;go_wp2_with (first|(refine aC rfl 57 _ rfl _ _ rfl R2.out ?_;clear R2)|(refine aB rfl 57 _ _ rfl _ _ _ rfl rfl R3.out ?_;clear R3))
       refine aP (fun u=>u.cell? ⟨wr.heap.size,0,none⟩=some (.int .i64 yr)/\u.cell? ⟨wr.heap.size,1,none⟩=some (.int .i64 yc)/\u.cell? ⟨wr.heap.size,2,none⟩=some (.string yt)/\(Instr.loadAt 57 (pt wr.heap.size)).run Tryz.prog u=.ok (cellV ⟨yr,yc,yt⟩) u/\(Instr.loadAt 57 (.pointer (some (a'.add (j * 3))))).run Tryz.prog u=.ok (cellV p) u) (fun j=>false) (by kernel_rfl) ?_;refine dwp 0 ((pt wr.heap.size)) ?_;refine dwl 1 ((.int .i64 yr)) ?_ (hS:=HS.out) (hy:=(fun u hSu=>aG rfl rfl (ld1 hSu.1 (Tryz.isAgg3 _))));refine dwp 2 ((.pointer (some ⟨wr.heap.size,1,none⟩))) ?_;refine dwl 3 ((.int .i64 yc)) ?_ (hS:=HS.out) (hy:=(fun u hSu=>aG rfl rfl (ld1 hSu.2.1 (Tryz.isAgg3 _))));refine aJ (i:=4) (by kernel_rfl) rfl ?_;intro K' hK';go_simp;refine C1.mono ?_;clear C1;rintro e w1 ⟨rfl,hw⟩;obtain rfl:=hw.symm;clear hw;refine hK' _ _ (.inr id) ?_;clear hK';try simp only [Act.put,List.setIfInBounds_toArray,List.set_cons_zero,List.set_cons_succ]
       refine dwp 5 ((.bool false)) ?_;refine dwp 6 ((.bool false)) ?_;refine dwp 7 ((.pointer (some ⟨wr.heap.size,2,none⟩))) ?_;refine dwl 8 ((.string yt)) ?_ (hS:=HS.out) (hy:=(fun u hSu=>aG rfl rfl (ld1 hSu.2.2.1 (Tryz.isAgg9 _))));refine dwp 9 ((.bool false)) ?_;refine dwp 10 ((.bool false)) ?_;refine dwp 11 ((.bool false)) ?_;refine dwp 12 ((.int .i64 (k:Int))) ?_;refine dwp 13 ((.bool true)) ?_ (hy:=(by intro u;go_simp;omega));refine dwp 14 ((.bool true)) ?_;refine dwp 15 ((.slice (some a') L.length c)) ?_;refine dwp 16 ((.int .i64 (k:Int))) ?_;refine dwp 17 ((.int .i64 (j:Int))) ?_;refine dwp 18 ((.pointer (some (a'.add (j * 3))))) ?_;refine dwl 19 ((cellV p)) ?_ (hS:=HS.out) (hy:=(fun u hSu=>aG rfl rfl hSu.2.2.2.2));refine dwl 20 ((cellV ⟨yr,yc,yt⟩)) ?_ (hS:=HS.out) (hy:=(fun u hSu=>aG rfl rfl hSu.2.2.2.1));refine aJ (i:=21) (by kernel_rfl) rfl ?_;intro K' hK';go_simp;refine C2.mono ?_;clear C2;rintro e w2 ⟨rfl,hb⟩;have HB1:Hid (Below w.heap.size w w2):=Sh.aF HDd.out HDd.out.size hb;have HKP:=jV.out w2 hb;clear hb;refine hK' _ _ (.inr fun _=>HKP) ?_;clear hK';try simp only [Act.put,List.setIfInBounds_toArray,List.set_cons_zero,List.set_cons_succ]
       refine dwp 22 ((.bool false)) ?_;refine dwp 23 ((.bool false)) ?_;refine dwp 24 ((.bool false)) ?_;refine aR (by kernel_rfl) ?_ _;go_wp2;go_roundw
       case rel=>exact⟨k+1,by omega,by go_num,HY2,HB1⟩
       case measure=>simp [intOf];omega
      ·obtain rfl:=HNO.out (by rw [HST.out];simp [hc]);have hc2:0<=cv:=by omega
       clear HNO kT;go_wp2_with (first|(refine aC rfl 57 _ rfl _ _ rfl R2.out ?_;clear R2)|(refine aB rfl 57 _ _ rfl _ _ _ rfl rfl R3.out ?_;clear R3))
       refine aP (fun u=>u.cell? ⟨wr.heap.size,0,none⟩=some (.int .i64 yr)/\u.cell? ⟨wr.heap.size,1,none⟩=some (.int .i64 yc)/\u.cell? ⟨wr.heap.size,2,none⟩=some (.string yt)/\(Instr.loadAt 57 (pt wr.heap.size)).run Tryz.prog u=.ok (cellV ⟨yr,yc,yt⟩) u/\(Instr.loadAt 57 (.pointer (some (a'.add (j * 3))))).run Tryz.prog u=.ok (cellV p) u) (fun j=>false) (by kernel_rfl) ?_;refine dwp 0 ((pt wr.heap.size)) ?_;refine dwl 1 ((.int .i64 yr)) ?_ (hS:=HS.out) (hy:=(fun u hSu=>aG rfl rfl (ld1 hSu.1 (Tryz.isAgg3 _))));refine dwp 2 ((.pointer (some ⟨wr.heap.size,1,none⟩))) ?_;refine dwl 3 ((.int .i64 yc)) ?_ (hS:=HS.out) (hy:=(fun u hSu=>aG rfl rfl (ld1 hSu.2.1 (Tryz.isAgg3 _))));refine aJ (i:=4) (by kernel_rfl) rfl ?_;intro K' hK';go_simp;refine C1.mono ?_;clear C1;rintro e w1 ⟨rfl,hw⟩;obtain rfl:=hw.symm;clear hw;refine hK' _ _ (.inr id) ?_;clear hK';try simp only [Act.put,List.setIfInBounds_toArray,List.set_cons_zero,List.set_cons_succ]
       refine dwp 5 ((.bool false)) ?_;refine dwp 6 ((.bool false)) ?_;refine dwp 7 ((.pointer (some ⟨wr.heap.size,2,none⟩))) ?_;refine dwl 8 ((.string yt)) ?_ (hS:=HS.out) (hy:=(fun u hSu=>aG rfl rfl (ld1 hSu.2.2.1 (Tryz.isAgg9 _))));refine dwp 9 ((.bool false)) ?_;refine dwp 10 ((.bool false)) ?_;refine dwp 11 ((.bool false)) ?_;refine dwp 12 ((.int .i64 (k:Int))) ?_;refine dwp 13 ((.bool true)) ?_ (hy:=(by intro u;go_simp;omega));refine dwp 14 ((.bool true)) ?_;refine dwp 15 ((.slice (some a') L.length c)) ?_;refine dwp 16 ((.int .i64 (k:Int))) ?_;refine dwp 17 ((.int .i64 (j:Int))) ?_;refine dwp 18 ((.pointer (some (a'.add (j * 3))))) ?_;refine dwl 19 ((cellV p)) ?_ (hS:=HS.out) (hy:=(fun u hSu=>aG rfl rfl hSu.2.2.2.2));refine dwl 20 ((cellV ⟨yr,yc,yt⟩)) ?_ (hS:=HS.out) (hy:=(fun u hSu=>aG rfl rfl hSu.2.2.2.1));refine aJ (i:=21) (by kernel_rfl) rfl ?_;intro K' hK';go_simp;refine C2.mono ?_;clear C2;rintro e w2 ⟨rfl,hb⟩;have HB1:Hid (Below w.heap.size w w2):=Sh.aF HDd.out HDd.out.size hb;have HKP:=jV.out w2 hb;clear hb;refine hK' _ _ (.inr fun _=>HKP) ?_;clear hK';try simp only [Act.put,List.setIfInBounds_toArray,List.set_cons_zero,List.set_cons_succ]
       refine dwp 22 ((.bool true)) ?_;refine dwp 23 ((.bool true)) ?_;refine dwp 24 ((.bool true)) ?_;refine aR (by kernel_rfl) ?_ _;go_wp2;go_ret;exact⟨rfl,HB1.out⟩
  ·have hki:¬(k:Int) < L.length:=by omega
   obtain rfl:lb=true:=by rw [<-HO.out];exact yH fun i hi=>HA.out i (by omega)
   go_wp2;go_ret;exact⟨rfl,HD.out⟩
def lC (s:aO):Bool:= !gnF s.name.data.toList
def mlB (s:aO):Bool:= !laidB s.cells
def kU (L:List aO) (i:Nat):Bool:=match L[i]? with
 | none=>false
 | some s=> !(dK (eZ L s.name)==(i:Int))
def twB (L:List aO):Bool:=(List.range L.length).any (kU L)
def dO:List aO->Int
 | []=>0
 | s:: r=>if bW s.cells ≠ 0 then bW s.cells else dO r
def fO (L:List aO):Int:=
 if L.length=0\/4 < L.length then 15 else if 0<=dK (L.findIdx? lC) then 8 else if twB L=true then 7 else if 0<=dK (L.findIdx? mlB) then 9 else if dO L ≠ 0 then dO L else if 200 < bK L then 5 else 0
def pQ (L:List aO):Prop:=∀s ∈ L,s.name.size<=9223372036854775807
theorem aFt {L:List aO} (h:∀i,i < L.length->kU L i=false):twB L=false:=by unfold twB;rw [List.any_eq_false];intro i hi;simp [h i (List.mem_range.1 hi)]
theorem aEk {L:List aO} {i:Nat} (hi:i < L.length) (h:kU L i=true):twB L=true:=by unfold twB;rw [List.any_eq_true];exact⟨i,List.mem_range.2 hi,h⟩
theorem aBx (t:ByteArray) (p:Option Addr) (n c:Nat) (ht:t.size<=9223372036854775807) (w:World) (T:dD w):
  CR 52 #[.agg #[.string t,.slice p n c]] w (.bool (!gnF t.data.toList)):=by
 have HB:Below w.heap.size w (w.alloc (.cells #[.string t,.slice p n c] 78)):=Sh.aD (Below.refl _ _) (Nat.le_refl _) _;have c0:=aH (heap_alloc_new w (.cells #[.string t,.slice p n c] 78)) (j:=0) rfl;have C:=kE t ht _ (T.below HB).t.t;have HBh:Hid _:=HB;generalize gnF t.data.toList=b at *;clear T HB;go_enter Tryz.func52,Tryz.ntmps52;go_wp2_with (go_at_call 76;refine C.mono ?_;clear C;rintro e w1 ⟨rfl,hb⟩;have HB1:Hid _:=Sh.aF HBh.out HBh.out.size hb;clear hb)
 go_ret;exact⟨rfl,HB1.out⟩
theorem aCX {lo hi:Nat} (t:ByteArray) (p:Option Addr) (n c:Nat) {L:List aK} {w:World} (h:Cls lo hi w (.slice p n c) L) (hhi:hi<=w.heap.size):
  CR 54 #[.agg #[.string t,.slice p n c]] w (.bool (!laidB L)):=by
 obtain⟨_,_,he,_,_⟩:=h.slice;cases he
 have HB:Below w.heap.size w (w.alloc (.cells #[.string t,.slice p L.length c] 78)):=Sh.aD (Below.refl _ _) (Nat.le_refl _) _;have c1:=aH (heap_alloc_new w (.cells #[.string t,.slice p L.length c] 78)) (j:=1) rfl;have C:=aJk (h.below hhi HB) (Nat.le_trans hhi HB.size);have HBh:Hid _:=HB;generalize laidB L=b at *;clear HB h;go_enter Tryz.func54,Tryz.ntmps54;go_wp2_with (go_at_call 77;refine C.mono ?_;clear C;rintro e w1 ⟨rfl,hb⟩;have HB1:Hid _:=Sh.aF HBh.out HBh.out.size hb;clear hb)
 go_ret;exact⟨rfl,HB1.out⟩
theorem aCY {lo hi:Nat} {w:World} {a:Option Addr} {c:Nat} {L:List aO} (h:Shs lo hi w (.slice a L.length c) L) (hhi:hi<=w.heap.size) (hN:pQ L) (T:dD w):
  CR 51 #[.slice a L.length c,.func (.func 52) #[] #[]] w (.bool (decide (0<=dK (L.findIdx? lC)))):=by
 have C:=aK0 h hhi lC (fun k hk u q m d hu hc=>aBx _ q m d (hN _ (List.getElem_mem hk)) u (T.below hu));generalize dK (L.findIdx? lC)=o at *;clear h;go_enter Tryz.func51,Tryz.ntmps51;go_wp2_with (go_at_call 70;refine C.mono ?_;clear C;rintro e w1 ⟨rfl,hb⟩;have HB1:Hid _:=hb;clear hb)
 go_ret;exact⟨rfl,HB1.out⟩
theorem aCZ {lo hi:Nat} {w:World} {a:Option Addr} {c:Nat} {L:List aO} (h:Shs lo hi w (.slice a L.length c) L) (hhi:hi<=w.heap.size):
  CR 51 #[.slice a L.length c,.func (.func 54) #[] #[]] w (.bool (decide (0<=dK (L.findIdx? mlB)))):=by
 have C:=aK1 h hhi mlB (fun k hk u q m d hu hc=>aCX _ q m d hc (Nat.le_trans hhi hu.size));generalize dK (L.findIdx? mlB)=o at *;clear h;go_enter Tryz.func51,Tryz.ntmps51;go_wp2_with (go_at_call 70;refine C.mono ?_;clear C;rintro e w1 ⟨rfl,hb⟩;have HB1:Hid _:=hb;clear hb)
 go_ret;exact⟨rfl,HB1.out⟩
theorem aGE {lo hi:Nat} {w:World} {sv nv lv:Value} {x:aU} (h:BkM lo hi w sv nv lv x) (hhi:hi<=w.heap.size):
  CR 53 #[.agg #[sv,nv,lv]] w (.bool (twB x.aA)):=by
 obtain⟨sa,sc,rfl,hs1,hs2⟩:=h.sh.slice;obtain⟨na,nc,rfl,_,_⟩:=h.nm.slice;obtain⟨la,lc,rfl,_,_⟩:=h.lk.slice;have HB0:Hid (Below w.heap.size w (w.alloc (bkO (.slice sa x.aA.length sc) (.slice na x.names.length nc) (.slice la x.links.length lc)))):=Sh.aD (Below.refl _ _) (Nat.le_refl _) _;have c0:=aH (heap_alloc_new w (bkO (.slice sa x.aA.length sc) (.slice na x.names.length nc) (.slice la x.links.length lc))) (j:=0) rfl;have HX0:Hid ((w.alloc (bkO (.slice sa x.aA.length sc) (.slice na x.names.length nc) (.slice la x.links.length lc))).heap[w.heap.size]? =some (bkO (.slice sa x.aA.length sc) (.slice na x.names.length nc) (.slice la x.links.length lc))):=heap_alloc_new w _;have HH:Hid (BkM lo hi w (.slice sa x.aA.length sc) (.slice na x.names.length nc) (.slice la x.links.length lc) x):=h;have hlen:x.aA.length<=9223372036854775807:=by unfold maxLen at hs2;omega
 generalize hT:twB x.aA=tb at *;have HT:Hid (twB x.aA=tb):=hT;clear h hs1 hs2 hT;go_enter Tryz.func53,Tryz.ntmps53;go_wp2;go_loopw [8] (fun i wr=>∃(k:Nat),k<=x.aA.length/\i=.int .i64 (k:Nat)/\Hid (∀j,j < k->kU x.aA j=false)/\Hid (Below w.heap.size w wr)/\Hid (wr.heap[w.heap.size]? =some (bkO (.slice sa x.aA.length sc) (.slice na x.names.length nc) (.slice la x.links.length lc)))) (fun i _=>x.aA.length - (intOf i).toNat)
 case atStart=>exact⟨0,Nat.zero_le _,rfl,fun j hj=>by omega,HB0,HX0⟩
 case round=>
  obtain⟨k,hk,rfl,HA,HD,HX⟩:=hrel;clear HB0 HX0;by_cases hkL:k < x.aA.length
  ·have hki:(k:Int) < x.aA.length:=by omega
   obtain⟨a',cv,ov,W,rfl,rfl,hcl,hW,R1,R2, -⟩:=(HH.out.sh.below hhi HD.out).runs hkL;obtain⟨ca,cc,rfl,_,_⟩:=hcl.slice;have cn:=aH (show W.heap[wr.heap.size]? =some (.cells #[.string x.aA[k].name,.slice ca x.aA[k].cells.length cc] 78) by rw [hW];exact heap_alloc_new wr _) (j:=0) rfl;have HD2:Hid (Below w.heap.size w W):=by rw [hW];exact Sh.aD HD.out (Nat.le_refl _) _
   have hX2:W.heap[w.heap.size]? =some (bkO (.slice (some a') x.aA.length sc) (.slice na x.names.length nc) (.slice la x.links.length lc)):=by rw [hW];exact(Below.heap_alloc wr _ _ (aN HX.out)).trans HX.out
   have RL:Hid _:=ldB hX2;have HX2:Hid (W.heap[w.heap.size]? =some (bkO (.slice (some a') x.aA.length sc) (.slice na x.names.length nc) (.slice la x.links.length lc))):=hX2;have C:=mI (HH.out.below hhi HD2.out) (Nat.le_trans hhi HD2.out.size) x.aA[k].name;have iJ:k < 9223372036854775807:=by omega
   have hat:kU x.aA k= !(dK (eZ x.aA x.aA[k].name)==(k:Int)):=by unfold kU;simp only [List.getElem?_eq_getElem hkL]
   have kT:Hid (kU x.aA k=true->tb=true):=fun e=>by rw [<-HT.out];exact aEk hkL e
   have HNO:Hid (kU x.aA k=false->∀j,j < k+1->kU x.aA j=false):=fun e j hj=>by
    by_cases hjk:j=k
    ·subst hjk;exact e
    ·exact HA.out j (by omega)
   have HAT:Hid _:=hat;clear hcl hW hX2 hat;generalize dK (eZ x.aA x.aA[k].name)=o at *;generalize x.aA[k]=y at *;obtain⟨yn,yc⟩:=y;dsimp only at *;by_cases e1:o=(k:Int)
   ·have HN2:Hid _:=HNO.out (by rw [HAT.out];simp [e1]);subst e1;clear kT HNO;go_wp2_with (first|(refine aC rfl 78 _ rfl _ _ rfl R1.out ?_;clear R1)|(refine aB rfl 78 _ _ rfl _ _ _ rfl rfl R2.out ?_;clear R2)|(refine aC rfl 26 _ rfl _ _ rfl RL.out ?_;clear RL)|(go_at_call 20;refine C.mono ?_;clear C;rintro e w1 ⟨rfl,hb⟩;have HB1:Hid _:=Sh.aF HD2.out HD2.out.size hb;have HX3:Hid _:=(hb.block _ (aN HX2.out)).trans HX2.out;clear hb))
    go_roundw
    case rel=>exact⟨k+1,by omega,by go_num,HN2,HB1,HX3⟩
    case measure=>simp [intOf];omega
   ·obtain rfl:=kT.out (by rw [HAT.out];simp [e1]);have hob:(o !=(k:Int))=true:=by simpa using e1
    clear kT HNO;go_wp2_with (first|(refine aC rfl 78 _ rfl _ _ rfl R1.out ?_;clear R1)|(refine aB rfl 78 _ _ rfl _ _ _ rfl rfl R2.out ?_;clear R2)|(refine aC rfl 26 _ rfl _ _ rfl RL.out ?_;clear RL)|(go_at_call 20;refine C.mono ?_;clear C;rintro e w1 ⟨rfl,hb⟩;have HB1:Hid _:=Sh.aF HD2.out HD2.out.size hb;clear hb))
    go_ret;exact⟨rfl,HB1.out⟩
  ·have hki:¬(k:Int) < x.aA.length:=by omega
   obtain rfl:tb=false:=by rw [<-HT.out];exact aFt fun i hi=>HA.out i (by omega)
   go_wp2;go_ret;exact⟨rfl,HD.out⟩
def nM (L:List aO):Prop:=∀s ∈ L,s.cells.length<=1125899906842624
theorem aC0 {L:List aO} (h:nM L) (hn:L.length<=4):bK L<=4503599627370496:=by
 have:∀(L:List aO),nM L->bK L<=L.length * 1125899906842624:=by
  intro L;induction L with
  | nil=>intro _;simp [bK]
  | cons s r ih=>
   intro h;have h1:=h s (by simp);have h2:=ih (fun t ht=>h t (by simp [ht]));unfold bK at *;simp only [List.map_cons,List.sum_cons,List.length_cons];omega
 have:=this L h;omega
theorem aAK {lo hi:Nat} {w:World} {sv nv lv:Value} {x:aU} (h:BkM lo hi w sv nv lv x) (hhi:hi<=w.heap.size) (hN:pQ x.aA) (hC:nM x.aA) (T:dD w):
  CR 11 #[.agg #[sv,nv,lv]] w (.int .i64 (fO x.aA)):=by
 obtain⟨sa,sc,rfl,hs1,hs2⟩:=h.sh.slice;obtain⟨na,nc,rfl,_,_⟩:=h.nm.slice;obtain⟨la,lc,rfl,_,_⟩:=h.lk.slice;obtain⟨W,hW⟩:∃W,W=w.alloc (bkO (.slice sa x.aA.length sc) (.slice na x.names.length nc) (.slice la x.links.length lc)):=⟨_,rfl⟩
 have HB0:Below w.heap.size w W:=by rw [hW];exact Sh.aD (Below.refl _ _) (Nat.le_refl _) _
 have hX0:W.heap[w.heap.size]? =some (bkO (.slice sa x.aA.length sc) (.slice na x.names.length nc) (.slice la x.links.length lc)):=by rw [hW];exact heap_alloc_new w _
 have hlen:x.aA.length<=9223372036854775807:=by unfold maxLen at hs2;omega
 have c0:=aH hX0 (j:=0) rfl;unfold fO;by_cases hz:x.aA.length=0\/4 < x.aA.length
 ·rw [if_pos hz];have aNk:Hid _:=HB0;rw [hW] at c0 aNk;generalize hl:x.aA.length=n at *;clear h HB0 hX0 hW hN hC T hs1 hs2 hl;by_cases hz0:n=0
  ·subst hz0;go_enter Tryz.func11,Tryz.ntmps11;go_wp2;go_ret;exact⟨rfl,aNk.out⟩
  ·have h4:(4:Int) < n:=by omega
   have h0:((n:Int)==0)=false:=by simpa using hz0
   clear hz;go_enter Tryz.func11,Tryz.ntmps11;go_wp2;go_ret;exact⟨rfl,aNk.out⟩
 ·rw [if_neg hz];have hn1:¬(4:Int) < x.aA.length:=by omega
  have hn0:((x.aA.length:Int)==0)=false:=by simp only [beq_eq_false_iff_ne];omega
  have hcz:=aC0 hC (by omega);have KX:∀u,Below W.heap.size W u->u.heap[w.heap.size]? =some (bkO (.slice sa x.aA.length sc) (.slice na x.names.length nc) (.slice la x.links.length lc))/\Below w.heap.size w u:=fun u hu=>⟨(hu.block _ (aN hX0)).trans hX0,Sh.aF HB0 HB0.size hu⟩
  have C1:Calls Tryz.prog 51 _ W fun e u=>e=.returned (.bool (decide (0<=dK (x.aA.findIdx? lC))))/\Hid (Below W.heap.size W u)/\u.cell? ⟨w.heap.size,0,none⟩=some (.slice sa x.aA.length sc)/\Hid ((Instr.loadAt 26 (pt w.heap.size)).run Tryz.prog u=.ok (.agg #[.slice sa x.aA.length sc,.slice na x.names.length nc,.slice la x.links.length lc]) u):=
   (aCY (h.sh.below hhi HB0) (Nat.le_trans hhi HB0.size) hN (T.below HB0)).mono (by
    rintro e u ⟨rfl,hu⟩;exact⟨rfl,hu,aH (KX u hu).1 rfl,ldB (KX u hu).1⟩)
  have C2:Hid (∀u,Below W.heap.size W u->Calls Tryz.prog 53 #[.agg #[.slice sa x.aA.length sc,.slice na x.names.length nc,.slice la x.links.length lc]] u fun e v=>e=.returned (.bool (twB x.aA))/\Hid (Below W.heap.size W v)/\v.cell? ⟨w.heap.size,0,none⟩=some (.slice sa x.aA.length sc)):=fun u hu=>
   (aGE (h.below hhi (KX u hu).2) (Nat.le_trans hhi (KX u hu).2.size)).mono (by
    rintro e v ⟨rfl,hv⟩;have hv2:=Sh.aF hu hu.size hv;exact⟨rfl,hv2,aH (KX v hv2).1 rfl⟩)
  have C3:Hid (∀u,Below W.heap.size W u->Calls Tryz.prog 51 #[.slice sa x.aA.length sc,.func (.func 54) #[] #[]] u fun e v=>e=.returned (.bool (decide (0<=dK (x.aA.findIdx? mlB))))/\Hid (Below W.heap.size W v)/\v.cell? ⟨w.heap.size,0,none⟩=some (.slice sa x.aA.length sc)):=fun u hu=>
   (aCZ (h.sh.below hhi (KX u hu).2) (Nat.le_trans hhi (KX u hu).2.size)).mono (by
    rintro e v ⟨rfl,hv⟩;have hv2:=Sh.aF hu hu.size hv;exact⟨rfl,hv2,aH (KX v hv2).1 rfl⟩)
  have C4:Hid (∀u,Below W.heap.size W u->Calls Tryz.prog 24 #[.agg #[.slice sa x.aA.length sc,.slice na x.names.length nc,.slice la x.links.length lc]] u fun e v=>e=.returned (.int .i64 (bK x.aA:Nat))/\Hid (Below w.heap.size w v)):=fun u hu=>
   (lZ (h.below hhi (KX u hu).2) (Nat.le_trans hhi (KX u hu).2.size) (by omega)).mono (by
    rintro e v ⟨rfl,hv⟩;exact⟨rfl,Sh.aF (KX u hu).2 (KX u hu).2.size hv⟩)
  have HKX:Hid _:=KX;have HH:Hid (BkM lo hi w (.slice sa x.aA.length sc) (.slice na x.names.length nc) (.slice la x.links.length lc) x):=h;have HT:Hid (dD w):=T;rw [hW] at C1 c0;rw [<-hW] at C1;have HW:Hid (w.alloc (bkO (.slice sa x.aA.length sc) (.slice na x.names.length nc) (.slice la x.links.length lc))=W):=hW.symm;clear h HB0 hX0 hW hN hC T hs1 hs2 KX hz;by_cases h8:0<=dK (x.aA.findIdx? lC)
  ·rw [if_pos h8];have hd:decide (0<=dK (x.aA.findIdx? lC))=true:=by simpa using h8
   rw [hd] at C1;clear h8 hd;go_enter Tryz.func11,Tryz.ntmps11;go_wp2_with (go_at_call 51;rw [HW.out];refine C1.mono ?_;clear C1;rintro e w1 ⟨rfl,HB1,c1,R1⟩)
   go_ret;exact⟨rfl,(HKX.out _ HB1.out).2⟩
  ·rw [if_neg h8];have hd:decide (0<=dK (x.aA.findIdx? lC))=false:=by simpa using h8
   rw [hd] at C1;clear h8 hd;by_cases h7:twB x.aA=true
   ·rw [if_pos h7];rw [h7] at C2;go_enter Tryz.func11,Tryz.ntmps11;go_wp2_with (first|(go_at_call 51;rw [HW.out];refine C1.mono ?_;clear C1;rintro e w1 ⟨rfl,HB1,c1,R1⟩)|(refine aC rfl 26 _ rfl _ _ rfl R1.out ?_;clear R1)|(go_at_call 53;refine (C2.out _ HB1.out).mono ?_;clear C2;rintro e w2 ⟨rfl,HB2,c2⟩))
    go_ret;exact⟨rfl,(HKX.out _ HB2.out).2⟩
   ·rw [if_neg h7];rw [show twB x.aA=false by simpa using h7] at C2;by_cases h9:0<=dK (x.aA.findIdx? mlB)
    ·rw [if_pos h9];rw [show decide (0<=dK (x.aA.findIdx? mlB))=true by simpa using h9] at C3;clear h9;go_enter Tryz.func11,Tryz.ntmps11;go_wp2_with (first|(go_at_call 51;rw [HW.out];refine C1.mono ?_;clear C1;rintro e w1 ⟨rfl,HB1,c1,R1⟩)|(refine aC rfl 26 _ rfl _ _ rfl R1.out ?_;clear R1)|(go_at_call 53;refine (C2.out _ HB1.out).mono ?_;clear C2;rintro e w2 ⟨rfl,HB2,c2⟩)|(go_at_call 51;refine (C3.out _ HB2.out).mono ?_;clear C3;rintro e w3 ⟨rfl,HB3,c3⟩))
     go_ret;exact⟨rfl,(HKX.out _ HB3.out).2⟩
    ·rw [if_neg h9];rw [show decide (0<=dK (x.aA.findIdx? mlB))=false by simpa using h9] at C3;clear h9 h7;obtain⟨tf,htf⟩:∃tf,tf=dO x.aA:=⟨_,rfl⟩
     have HTF:Hid (dO (x.aA.drop 0)=tf):=by show _=_;rw [List.drop_zero];exact htf.symm
     rw [<-htf];generalize hr:(if tf ≠ 0 then tf else if 200 < bK x.aA then (5:Int) else 0)=rr;have HRR:Hid ((if tf ≠ 0 then tf else if 200 < bK x.aA then (5:Int) else 0)=rr):=hr;clear htf hr;go_enter Tryz.func11,Tryz.ntmps11;go_wp2_with (first|(go_at_call 51;rw [HW.out];refine C1.mono ?_;clear C1;rintro e w1 ⟨rfl,HB1,c1,R1⟩)|(refine aC rfl 26 _ rfl _ _ rfl R1.out ?_;clear R1)|(go_at_call 53;refine (C2.out _ HB1.out).mono ?_;clear C2;rintro e w2 ⟨rfl,HB2,c2⟩)|(go_at_call 51;refine (C3.out _ HB2.out).mono ?_;clear C3;rintro e w3 ⟨rfl,HB3,c3⟩))
     go_loopw [31] (fun i wr=>∃(k:Nat),k<=x.aA.length/\i=.int .i64 (k:Nat)/\Hid (dO (x.aA.drop k)=tf)/\Hid (Below W.heap.size W wr)) (fun i _=>x.aA.length - (intOf i).toNat)
     case atStart=>exact⟨0,Nat.zero_le _,rfl,HTF,HB3⟩
     case round=>
      obtain⟨k,hk,rfl,HA,HD⟩:=hrel;clear HTF HB3;by_cases hkL:k < x.aA.length
      ·have hki:(k:Int) < x.aA.length:=by omega
       have HDw:=(HKX.out wr HD.out).2;obtain⟨a',cv,ov,V,rfl,rfl,hcl,hV,RA,RB, -⟩:=(HH.out.sh.below hhi HDw).runs hkL;obtain⟨ca,cc,rfl,_,_⟩:=hcl.slice;have cn:=aH (show V.heap[wr.heap.size]? =some (.cells #[.string x.aA[k].name,.slice ca x.aA[k].cells.length cc] 78) by rw [hV];exact heap_alloc_new wr _) (j:=1) rfl;have HD2:Hid (Below W.heap.size W V):=by rw [hV];exact Sh.aD HD.out (Nat.le_refl _) _
       have hV2:Below wr.heap.size wr V:=by rw [hV];exact Sh.aD (Below.refl _ _) (Nat.le_refl _) _
       have C:=aGD (hcl.below (Nat.le_trans hhi HDw.size) hV2) (Nat.le_trans (Nat.le_trans hhi HDw.size) hV2.size) (HT.out.below (HKX.out V HD2.out).2);have iJ:k < 9223372036854775807:=by omega
       have HXX:Hid (bW x.aA[k].cells ≠ 0->tf=bW x.aA[k].cells):=fun e=>by rw [<-HA.out,List.drop_eq_getElem_cons hkL,dO,if_pos e]
       have HYY:Hid (bW x.aA[k].cells=0->dO (x.aA.drop (k+1))=tf):=fun e=>by rw [<-HA.out,List.drop_eq_getElem_cons hkL,dO,if_neg (by simpa using e)]
       clear hcl hV hV2 HDw;generalize bW x.aA[k].cells=me at *;generalize x.aA[k]=y at *;obtain⟨yn,yc⟩:=y;dsimp only at *;by_cases e1:me=0
       ·have HY2:Hid _:=HYY.out e1;subst e1;clear HXX HYY;go_wp2_with (first|(refine aC rfl 78 _ rfl _ _ rfl RA.out ?_;clear RA)|(refine aB rfl 78 _ _ rfl _ _ _ rfl rfl RB.out ?_;clear RB)|(go_at_call 55;refine C.mono ?_;clear C;rintro e w4 ⟨rfl,hb⟩;have HB4:Hid _:=Sh.aF HD2.out HD2.out.size hb;clear hb))
        go_roundw
        case rel=>exact⟨k+1,by omega,by go_num,HY2,HB4⟩
        case measure=>simp [intOf];omega
       ·have hpb:(me !=0)=true:=by simpa using e1
        obtain rfl:=HXX.out e1;obtain rfl:tf=rr:=by rw [<-HRR.out,if_pos e1]
        clear HXX HYY e1 HRR;go_wp2_with (first|(refine aC rfl 78 _ rfl _ _ rfl RA.out ?_;clear RA)|(refine aB rfl 78 _ _ rfl _ _ _ rfl rfl RB.out ?_;clear RB)|(go_at_call 55;refine C.mono ?_;clear C;rintro e w4 ⟨rfl,hb⟩;have HB4:Hid _:=Sh.aF HD2.out HD2.out.size hb;clear hb))
        go_ret;exact⟨rfl,(HKX.out _ HB4.out).2⟩
      ·have hki:¬(k:Int) < x.aA.length:=by omega
       obtain rfl:tf=0:=by rw [<-HA.out,List.drop_of_length_le (by omega)];rfl
       have RL:Hid _:=ldB (HKX.out wr HD.out).1;have C:=C4.out wr HD.out;clear C4;generalize bK x.aA=m at *;by_cases h5:200 < m
       ·have h5i:(200:Int) < m:=by omega
        obtain rfl:5=rr:=by rw [<-HRR.out,if_neg (by simp),if_pos h5]
        clear HRR;go_wp2_with (first|(refine aC rfl 26 _ rfl _ _ rfl RL.out ?_;clear RL)|(go_at_call 24;refine C.mono ?_;clear C;rintro e w4 ⟨rfl,HB4⟩))
        go_ret;exact⟨rfl,HB4.out⟩
       ·have h5i:¬(200:Int) < m:=by omega
        obtain rfl:0=rr:=by rw [<-HRR.out,if_neg (by simp),if_neg h5]
        clear HRR;go_wp2_with (first|(refine aC rfl 26 _ rfl _ _ rfl RL.out ?_;clear RL)|(go_at_call 24;refine C.mono ?_;clear C;rintro e w4 ⟨rfl,HB4⟩))
        go_ret;exact⟨rfl,HB4.out⟩
abbrev pairs (L:List aO) (cv:Nat->Value):List (aO × Value):=L.mapIdx fun j s=>(s,cv j)
abbrev iV (p:aO × Value):List Value:=bN p.1 p.2
structure gQ (base:Nat) (w:World) (sv nv lv:Value) (x:aU):Prop where
 sh:∃cv,w.ownsRow base 78 2 sv x.aA.length ((pairs x.aA cv).flatMap iV)/\∀j o,x.aA[j]? =some o->w.ownsRow base 57 3 (cv j) o.cells.length (o.cells.flatMap cellC)
 nm:w.ownsRow base 89 3 nv x.names.length (x.names.flatMap kQ)
 lk:w.ownsRow base 91 7 lv x.links.length (x.links.flatMap kR)
theorem oJ {α:Type} {enc:α->List Value} {sz base:Nat} {t:TypeId} {w:World} {v:Value} {L:List α} (he:∀x,(enc x).length=sz) (h:w.ownsRow base t sz v L.length (L.flatMap enc)):Rws base w.heap.size sz w v L.length fun j=>(L[j]?.map enc).getD []:=by
 rcases h.2 with ⟨rfl,h0⟩ | ⟨g,cap,cur,rfl,hb,hg,hn,hm,hs,hx⟩
 ·exact .inl ⟨rfl,h0⟩
 ·exact (aIE he hg hx hn hm).mono hb (aN hg)
theorem gQ.bkm {base:Nat} {w:World} {sv nv lv:Value} {x:aU} (h:gQ base w sv nv lv x):BkM base w.heap.size w sv nv lv x:=by
 obtain⟨cv,h1,h2⟩:=h.sh;refine ⟨⟨cv, ?_,fun j o hj=>oJ bP (h2 j o hj)⟩,oJ jH h.nm,oJ jI h.lk⟩;have hl:(pairs x.aA cv).length=x.aA.length:=by simp
 have:=oJ (enc:=iV) (L:=pairs x.aA cv) bY (by rw [hl];exact h1);rw [hl] at this;refine this.congr fun j hj=> ?_;simp [iP,List.getElem?_eq_getElem hj]
theorem bL {base:Nat} {t:TypeId} {sz n:Nat} {w:World} {v:Value} {xs:List Value} (h:w.ownsRow base t sz v n xs):∃a c,v=.slice a n c:=by
 rcases h.2 with ⟨rfl,rfl⟩ | ⟨g,cap,cur,rfl,_⟩
 ·exact ⟨_,_,rfl⟩
 ·exact ⟨_,_,rfl⟩
theorem pR {base:Nat} {t:TypeId} {sz n:Nat} {w w':World} {v:Value} {xs:List Value} (h:w.ownsRow base t sz v n xs) (hk:∀g cur,w.heap[g]? =some (.cells cur t (0,0))->v.ownBlock=some g->w'.heap[g]? =w.heap[g]?):w'.ownsRow base t sz v n xs:=by
 refine bO h fun g hg=> ?_;rcases h.2 with ⟨rfl,_⟩ | ⟨g',cap,cur,rfl,_,h3,_⟩
 ·cases hg
 ·cases hg
  exact hk _ _ h3 rfl
theorem tN {L:List aO} {cv:Nat->Value} {cur:Array Value} (hs:cur.size=L.length * 2) (hc:∀j (hj:j < L.length),cur[j * 2]? =some (.string L[j].name)/\cur[j * 2+1]? =some (cv j)):cur.toList=(pairs L cv).flatMap iV:=by
 have hl:(pairs L cv).length=L.length:=by simp
 apply List.ext_getElem?
 intro k;by_cases hk:k < L.length * 2
 ·have hq:k / 2 < L.length:=by omega
  have hd:k / 2 * 2+k % 2=k:=by omega
  have hf:=sU (enc:=iV) bY (pairs L cv) (k / 2) (k % 2) (by rw [hl];exact hq) (by omega);rw [hd] at hf;rw [hf,Array.getElem?_toList];have hh:=hc (k / 2) hq;rcases Nat.mod_two_eq_zero_or_one k with e | e
  ·rw [e];have h1:=hh.1;rw [show k / 2 * 2=k by omega] at h1;rw [h1];simp [bN]
  ·rw [e];have h1:=hh.2;rw [show k / 2 * 2+1=k by omega] at h1;rw [h1];simp [bN]
 ·rw [List.getElem?_eq_none (by rw [Array.length_toList,hs];omega),List.getElem?_eq_none (by rw [cK (enc:=iV) bY,hl];omega)]
def putAt (x:aU) (i:Nat) (t:aK):aU:=⟨x.aA.modify i fun s=>⟨s.name,dU s.cells t⟩,x.names,x.links⟩
theorem vD (x:aU) (i:Nat) (t:aK):(putAt x i t).aA.length=x.aA.length:=by simp [putAt]
theorem aLD {base gs gn gl i:Nat} {w1 w2 w3:World} {x:aU} {t:aK} {v:Value} (h:CpB base w1 gs gn gl x) (hz:Small x) (hi:i < x.aA.length)
  (h2:w2.ownsRow base 57 3 v (dU x.aA[i].cells t).length ((dU x.aA[i].cells t).flatMap cellC)) (hg:w1.grownBy w2 (some (gs+1+i))) (hnew:v.ownBlock ≠ some gs)
  (h3:∀cur,w2.heap[gs]? =some (.cells cur 78 (0,0))->w3.heap[gs]? =some (.cells (cur.setIfInBounds (i * 2+1) v) 78 (0,0))) (hk:∀g cur (t:TypeId),g ≠ gs->t ≠ 26->w2.heap[g]? =some (.cells cur t (0,0))->w3.heap[g]? =w2.heap[g]?):
  gQ base w3 (newS gs x.aA.length) (newS gn x.names.length) (newS gl x.links.length) (putAt x i t):=by
 obtain⟨cur,r1,r2,r3⟩:=h.row;have b1:=h.b1;have b2:=h.b2;have b3:=h.b3;have k2:∀g o,w1.heap[g]? =some o->g ≠ gs+1+i->w2.heap[g]? =some o:=fun g o hgo hne=>(hg.block g (aN hgo) (by simpa using hne)).trans hgo;have k3:∀g cur (t:TypeId),g ≠ gs->t ≠ 26->w2.heap[g]? =some (.cells cur t (0,0))->w3.heap[g]? =some (.cells cur t (0,0)):=fun g cur t hne ht ho=>(hk g cur t hne ht ho).trans ho;have q1:=h3 _ (k2 _ _ r1 (by omega));have hxs:(putAt x i t).aA.length=x.aA.length:=vD x i t;have hgx:∀j (hj:j < x.aA.length),(putAt x i t).aA[j]'(by omega)=if i=j then ⟨x.aA[j].name,dU x.aA[j].cells t⟩ else x.aA[j]:=fun j hj=>by simp only [putAt,List.getElem_modify]
 refine ⟨⟨fun j=>if j=i then v else newS (gs+1+j) ((x.aA[j]?.map (·.cells.length)).getD 0),⟨?_,.inr ⟨gs,x.aA.length,_,by rw [hxs],b1,q1,by omega,bT hz.sh,by simpa using r2, ?_⟩⟩,fun j o hj=> ?_⟩, ?_, ?_⟩
 ·rw [cK (enc:=iV) bY];simp
 ·rw [hxs,List.take_of_length_le (by rw [Array.length_toList,Array.size_setIfInBounds];omega)];refine tN (by rw [Array.size_setIfInBounds,hxs];exact r2) fun j hj=> ?_;rw [hxs] at hj;have hr:=r3 j hj;rw [hgx j hj,Array.getElem?_setIfInBounds_ne (by omega),hr.1];refine ⟨by split <;> rfl, ?_⟩;by_cases e:j=i
  ·subst e;rw [Array.getElem?_setIfInBounds_self_of_lt (by omega),if_pos rfl]
  ·rw [Array.getElem?_setIfInBounds_ne (by omega),if_neg e,hr.2];simp [List.getElem?_eq_getElem hj]
 ·obtain ⟨hjl,ho⟩:=List.getElem?_eq_some_iff.1 hj;rw [hxs] at hjl;rw [hgx j hjl] at ho;by_cases e:j=i
  ·subst e;rw [if_pos rfl] at ho;subst ho;dsimp only;rw [if_pos rfl];refine pR h2 fun g cur' hgc he=>hk g cur' 57 (fun eq=>hnew (by rw [he,eq])) (by decide) hgc
  ·rw [if_neg (fun eq=>e eq.symm)] at ho;subst ho;dsimp only;rw [if_neg e,List.getElem?_eq_getElem hjl];have hc:=k3 _ _ _ (by omega) (by decide) (k2 _ _ (h.cls j hjl) (by omega));exact eO hc (by rw [cK bP];rfl) (by omega) (bT (hz.cl _ (List.getElem_mem hjl)))
 ·exact eO (k3 _ _ _ (by omega) (by decide) (k2 _ _ h.nms (by omega))) (by rw [cK jH];rfl) (by omega) (bT hz.nm)
 ·exact eO (k3 _ _ _ (by omega) (by decide) (k2 _ _ h.lks (by omega))) (by rw [cK jI];rfl) (by omega) (bT hz.lk)
def vZ (x:aU):Prop:=∀s ∈ x.aA,iB s.cells
def full (x:aU) (i:Nat) (r c:Int) (t:ByteArray):Bool:= !(t.toList==[]) && (decide (200<=bK x.aA) && !(((x.aA[i]?.map (·.cells)).getD []).any (atB r c)))
def nU (x:aU) (s:ByteArray) (r c:Int) (t:ByteArray):Int:=
 if dI t=3 then 3 else match eZ x.aA s with
  | none=>6
  | some i=>if iZ r c=false then 9 else if dI t ≠ 0 then dI t else if full x i r c t=true then 5 else 0
abbrev aEl:Value:=.agg #[.slice none 0 0,.slice none 0 0,.slice none 0 0]
def oK (w:World) (err:Int) (y:aU) (e:Ending) (w':World):Prop:=
 (if err=0 then ∃sv nv lv,e=.returned (.tuple #[.agg #[sv,nv,lv],.int .i64 0])/\gQ w.heap.size w' sv nv lv y else e=.returned (.tuple #[aEl,.int .i64 err]))/\Below w.heap.size w w'
theorem fF (u:World):(Instr.build 26 #[]).run Tryz.prog u=.ok aEl u:=by kernel_rfl
theorem res2 {fn:Func} {p q:Tmp} (h:fn.results=#[.cell p 26,.tmp q]) {tmps:Array Value} {w:World} {g:Nat} {y:Array Value} {v2:Value} (hp:tmps.getD p undef=pt g) (hg:w.heap[g]? =some (.cells y 26)) (hy:y.size=3) (hv:tmps.getD q undef=v2):
  (results fn tmps).run Tryz.prog w=.ok (.tuple #[.agg y,v2]) w:=by
 have hi:(Tryz.prog.info? 26).map (·.size)=some y.size:=by rw [hy];kernel_rfl
 rw [results_cell_tmp h,hp,hv];simp [asAddr,run_loadVar_row (P:=Tryz.prog) w g 26 26 y (0,0) _ hg Tryz.underlying26 rfl hi,Result.andThen]
theorem wU {w u:World} (hu:Below w.heap.size w u) {g:Nat} (hg:u.heap[g]? =some (.cells #[.slice none 0 0,.slice none 0 0,.slice none 0 0] 26)) (hb:w.heap.size<=g):
  Hid ((Instr.storeAt 26 (pt g) aEl).run Tryz.prog u=.ok () (u.setRow g #[.slice none 0 0,.slice none 0 0,.slice none 0 0]))/\Hid ((u.setRow g #[.slice none 0 0,.slice none 0 0,.slice none 0 0]).heap[g]? =some (.cells #[.slice none 0 0,.slice none 0 0,.slice none 0 0] 26))/\Hid (Below w.heap.size w (u.setRow g #[.slice none 0 0,.slice none 0 0,.slice none 0 0])):=
 ⟨aGm hg rfl rfl (by simp [Value.oneCell']),setRow_heap _ _ _ _ _ _ hg,below_setRow hu hb _⟩
theorem vE {x:aU} (h:Small x):bK x.aA<=1000000:=by
 have:∀(L:List aO),(∀s ∈ L,s.cells.length<=1000)->bK L<=L.length * 1000:=by
  intro L;induction L with
  | nil=>intro _;simp [bK]
  | cons s r ih=>
   intro h;have h1:=h s (by simp);have h2:=ih (fun t ht=>h t (by simp [ht]));unfold bK at *;simp only [List.map_cons,List.sum_cons,List.length_cons];omega
 have h1:=this _ h.cl;have h2:=h.sh;have:x.aA.length * 1000<=1000 * 1000:=Nat.mul_le_mul_right _ h2;omega
theorem iH {P:Program} {ops:Array Oper} {rest:List Oper} {o:Oper} {a:Act} {w:World} {Q:Exit->Act->World->Prop} (ty:TypeId) (x:Operand) (ho:o.op=.load ty x)
  (p v:Value) (hx:a.eval x=p) (hrun:(Instr.loadAt ty p).run P w=.ok v w) (hw:Region.wanted o (yielded ops a.tmps)=true) (h:wpList P ops Q rest (a.put o.dst v) w):wpList P ops Q (o:: rest) a w:=by
 refine wpList_step fun K hK=> ?_;rw [if_pos hw];unfold Oper.wp execOp;simp only [ho,hx,Sem.run_bind,Sem.run_pure,hrun,Result.andThen_ok];exact hK _ _ h
theorem bU {u:World} {g:Nat} {a b c:Value} {z:Nat × Nat} (h:u.heap[g]? =some (.cells #[a,b,c] 26 z)):u.cell? ⟨g,0,none⟩=some a/\u.cell? ⟨g,1,none⟩=some b/\u.cell? ⟨g,2,none⟩=some c:=
 ⟨aH h rfl,aH h rfl,aH h rfl⟩
theorem CpB.mono {base base' gs gn gl:Nat} {w:World} {x:aU} (h:CpB base w gs gn gl x) (hb:base'<=base):CpB base' w gs gn gl x:=⟨h.row,h.cls,h.nms,h.lks,Nat.le_trans hb h.b1,h.b2,h.b3⟩
theorem CpB.below {base gs gn gl:Nat} {w w':World} {x:aU} (h:CpB base w gs gn gl x) (hb:Below w.heap.size w w'):CpB base w' gs gn gl x:=by obtain⟨cur,r1,r2,r3⟩:=h.row;have k:∀g o,w.heap[g]? =some o->w'.heap[g]? =some o:=fun g o ho=>(hb.block g (aN ho)).trans ho;exact⟨⟨cur,k _ _ r1,r2,r3⟩,fun j hj=>k _ _ (h.cls j hj),k _ _ h.nms,k _ _ h.lks,h.b1,h.b2,h.b3⟩
theorem aJl {w v:World} {gs gn gl i:Nat} {x:aU} (h:CpB w.heap.size v gs gn gl x) (hz:Small x) (hR:vZ x) (hi:i < x.aA.length) (hb:Below w.heap.size w v) (hgs:w.heap.size+1 < gs) (hX1:v.heap[w.heap.size+1]? =some (.cells #[.slice none 0 0,.slice none 0 0,.slice none 0 0] 26)) (t:aK):
  ∃V:World,V=v.alloc (.cells #[newS gs x.aA.length,newS gn x.names.length,newS gl x.links.length] 26)/\V.cell? ⟨v.heap.size,0,none⟩=some (newS gs x.aA.length)/\V.cell? ⟨gs,i * 2+1,none⟩=some (newS (gs+1+i) x.aA[i].cells.length)/\
   Calls Tryz.prog 58 #[newS (gs+1+i) x.aA[i].cells.length,cellV t] V fun e w4=>∃pa pn pc w6,e=.returned (.slice pa pn pc)/\w4.cell? ⟨gs,i * 2+1,none⟩=some (newS (gs+1+i) x.aA[i].cells.length)/\w4.frozen? ⟨gs,i * 2+1,none⟩=false/\
    Hid ((Instr.loadAt 26 (pt v.heap.size)).run Tryz.prog (w4.setCell ⟨gs,i * 2+1,none⟩ (.slice pa pn pc))=.ok (.agg #[newS gs x.aA.length,newS gn x.names.length,newS gl x.links.length]) (w4.setCell ⟨gs,i * 2+1,none⟩ (.slice pa pn pc)))/\
    Hid ((Instr.storeAt 26 (.pointer (some ⟨w.heap.size+1,0,none⟩)) (.agg #[newS gs x.aA.length,newS gn x.names.length,newS gl x.links.length])).run Tryz.prog (w4.setCell ⟨gs,i * 2+1,none⟩ (.slice pa pn pc))=.ok () w6)/\
    Hid (w6.heap[w.heap.size+1]? =some (.cells #[newS gs x.aA.length,newS gn x.names.length,newS gl x.links.length] 26))/\
    Hid (gQ w.heap.size w6 (newS gs x.aA.length) (newS gn x.names.length) (newS gl x.links.length) (putAt x i t))/\Hid (Below w.heap.size w w6):=by
 have b1:=h.b1;have hbV:Below v.heap.size v (v.alloc (.cells #[newS gs x.aA.length,newS gn x.names.length,newS gl x.links.length] 26)):=Sh.aD (Below.refl _ _) (Nat.le_refl _) _;obtain⟨V,hV⟩:∃V,V=v.alloc (.cells #[newS gs x.aA.length,newS gn x.names.length,newS gl x.links.length] 26):=⟨_,rfl⟩
 rw [<-hV] at hbV;have hX:V.heap[v.heap.size]? =some (.cells #[newS gs x.aA.length,newS gn x.names.length,newS gl x.links.length] 26):=by rw [hV];exact heap_alloc_new v _
 have hC:=h.below hbV;obtain⟨cur,r1,r2,r3⟩:=hC.row;have hcl:=hC.cls i hi;have hgv:=aN r1;have hbw:Below w.heap.size w V:=Sh.aF hb hb.size hbV;have aPW:gs < v.heap.size:=by obtain⟨_,q,_⟩:=h.row;exact aN q
 have aJm:=(hbV.block _ (aN hX1)).trans hX1;refine ⟨V,hV,aH hX rfl,aH r1 (r3 i hi).2, ?_⟩;refine (aIG (base:=w.heap.size) hcl (by omega) (hz.cl _ (List.getElem_mem hi)) (hR _ (List.getElem_mem hi)) t).mono ?_;rintro e w4 ⟨⟨v',rfl,ho⟩,hg⟩;have k4:∀g o,V.heap[g]? =some o->g ≠ gs+1+i->w4.heap[g]? =some o:=fun g o hgo hne=>(hg.block g (aN hgo) (by simpa using hne)).trans hgo;have s4:=k4 _ _ r1 (by omega);obtain⟨pa,pc,rfl⟩:=bL ho;have hnew:(Value.slice pa (dU x.aA[i].cells t).length pc).ownBlock ≠ some gs:=by
  intro eq;rcases ho.2 with ⟨e,_⟩ | ⟨g,cap,cur',e,_,h3,_⟩
  ·rw [e] at eq;cases eq
  ·rw [e] at eq;cases eq
   rw [s4] at h3;cases h3
 have hxne:v.heap.size ≠ gs+1+i:=by have:=hC.cls i hi;intro eq;rw [<-eq,hX] at this;simp at this
 have aMx:w.heap.size+1 ≠ gs+1+i:=by omega
 have hset:=yN (i:=i * 2+1) (v:=.slice pa (dU x.aA[i].cells t).length pc) s4;have aNl:(w4.setCell ⟨gs,i * 2+1,none⟩ (.slice pa (dU x.aA[i].cells t).length pc)).heap[v.heap.size]? =some (.cells #[newS gs x.aA.length,newS gn x.names.length,newS gl x.links.length] 26):=by rw [hset,setRow_other _ _ _ _ (by omega)];exact k4 _ _ hX hxne
 have hres:(w4.setCell ⟨gs,i * 2+1,none⟩ (.slice pa (dU x.aA[i].cells t).length pc)).heap[w.heap.size+1]? =some (.cells #[.slice none 0 0,.slice none 0 0,.slice none 0 0] 26):=by rw [hset,setRow_other _ _ _ _ (by omega)];exact k4 _ _ aJm aMx
 refine ⟨pa,_,pc,_,rfl,aH s4 (r3 i hi).2,by simp [World.frozen?,s4],ldB aNl,aGm hres rfl rfl (by simp [Value.oneCell']),setRow_heap _ _ _ _ _ _ hres, ?_, ?_⟩
 ·refine aLD hC hz hi ho hg hnew (fun cur' hc'=> ?_) (fun g cur' ty hne hty hgc=> ?_)
  ·rw [setRow_other _ _ _ _ (by omega),yN hc'];exact setRow_heap _ _ _ _ _ _ hc'
  ·have hg1:g ≠ w.heap.size+1:=by
    intro eq;rw [eq,k4 _ _ aJm aMx] at hgc;cases hgc
    exact hty rfl
   rw [setRow_other _ _ _ _ hg1,hset,setRow_other _ _ _ _ hne]
 ·rw [hset];have hb4:Below w.heap.size w w4:=hbw.grown hg hbw.size (fun k hk=>by cases hk;omega);exact below_setRow (below_setRow hb4 (by omega) _) (by omega) _
end Go.Proofs.YtlhoklhjbpkgpaaGreatDoor.Sh
