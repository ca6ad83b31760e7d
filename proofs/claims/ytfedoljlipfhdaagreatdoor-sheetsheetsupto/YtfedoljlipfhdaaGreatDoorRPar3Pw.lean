/- RPar1, RPar2, RPar3b, RPar4, RPar5, RPar6, RPar7, RPar8, RPar3a, RPar3. -/
import Derived.Test.YtfedoljlipfhdaaGreatDoorFParsePw
set_option linter.unusedVariables false
set_option linter.unusedSimpArgs false
set_option maxHeartbeats 16000000
set_option maxRecDepth 100000
open Go.Proofs.Tryz renaming prog->Z
open Go renaming World->Y,Calls->J,bodyPost_ret->H,Value->R,heap_alloc_new->β,cell_of_row->σ,run_storeAt_new->τ,Addr->Ω
open Go.RowKit renaming Hid->V,Below->π
open Go.Instr renaming storeAt->I,loadAt->η,build->ν,buildSlice->ξ
open List renaming setIfInBounds_toArray->E,set_cons_zero->δ,set_cons_succ->ε,length_map->ω,not_mem_nil->Δ,mem_cons->Ξ,map_cons->Φ
open Bool renaming false->f,true->φ
open Option.some renaming inj->α
open Go.RowKit.Below renaming heap_alloc->γ,refl->ζ
open Go.Value renaming slice->θ
open Go.Lib renaming grownBy_setCell->ι
open Nat renaming le_refl->κ,zero_add->Ψ,le_trans->z0
open Go.ByteArray renaming toList_eq->μ
open Go.World renaming grownBy_alloc->ο,frozen?->Γ,setCell->Θ
open Go.World.grownBy renaming andThen->ρ
open Go.Act renaming put->υ
open Option renaming bind_some->χ
open Array renaming getElem?_modify->ψ
namespace Go.Proofs.YtfedoljlipfhdaaGreatDoor
open Go.RowKit Go.Fm
abbrev rpO (v:R) (x:Bool):Obj:=.cells #[v,.bool x] 145
structure QR (W:Y) (b:Nat) (L:List Tk.Tok) (w:Y):Prop where
 tab:dS W
 bel:π W.heap.size W w
 lo:W.heap.size<=b
 ok:OkL L
 blk:∃v,w.heap[b]? =some (rpO v f)/\TS W v (L.map tk)
structure QW (W:Y) (b:Nat) (w:Y):Prop where
 tab:dS W
 bel:π W.heap.size W w
 lo:W.heap.size<=b
 blk:w.heap[b]? =some (rpO (.slice none 0 0) φ)
structure QB (W:Y) (b:Nat) (w:Y):Prop where
 tab:dS W
 bel:π W.heap.size W w
 lo:W.heap.size<=b
 blk:∃v x,w.heap[b]? =some (rpO v x)
theorem QR.b {W w:Y} {b:Nat} {L:List Tk.Tok} (h:QR W b L w):QB W b w:=by obtain⟨v,h1,_⟩:=h.blk;exact⟨h.tab,h.bel,h.lo,_,_,h1⟩
theorem QW.b {W w:Y} {b:Nat} (h:QW W b w):QB W b w:=⟨h.tab,h.bel,h.lo,_,_,h.blk⟩
theorem QB.lt {W w:Y} {b:Nat} (h:QB W b w):b < w.heap.size:=by obtain⟨v,x,h1⟩:=h.blk;exact bA h1
theorem QR.lt {W w:Y} {b:Nat} {L:List Tk.Tok} (h:QR W b L w):b < w.heap.size:=h.b.lt
theorem QW.lt {W w:Y} {b:Nat} (h:QW W b w):b < w.heap.size:=h.b.lt
theorem QR.grown {W w w':Y} {b:Nat} {L:List Tk.Tok} (h:QR W b L w) {row:Option Nat} (hg:w.grownBy w' row) (hr:∀k,row=some k->W.heap.size<=k/\k ≠ b):QR W b L w':=by obtain⟨v,h1,h2⟩:=h.blk;exact⟨h.tab,h.bel.grown hg h.bel.size (fun k hk=>(hr k hk).1),h.lo,h.ok,v,(hg.block b h.lt (fun e=>(hr b e.symm).2 rfl)).trans h1,h2⟩
theorem QW.grown {W w w':Y} {b:Nat} (h:QW W b w) {row:Option Nat} (hg:w.grownBy w' row) (hr:∀k,row=some k->W.heap.size<=k/\k ≠ b):QW W b w':=
 ⟨h.tab,h.bel.grown hg h.bel.size (fun k hk=>(hr k hk).1),h.lo,(hg.block b h.lt (fun e=>(hr b e.symm).2 rfl)).trans h.blk⟩
theorem QR.below {W w w':Y} {b:Nat} {L:List Tk.Tok} (h:QR W b L w) (hb:π w.heap.size w w'):QR W b L w':=h.grown (bH (row:=none) hb) (fun k e=>by cases e)
theorem QW.below {W w w':Y} {b:Nat} (h:QW W b w) (hb:π w.heap.size w w'):QW W b w':=h.grown (bH (row:=none) hb) (fun k e=>by cases e)
theorem QR.alloc {W w:Y} {b:Nat} {L:List Tk.Tok} (h:QR W b L w) (o:Obj):QR W b L (w.alloc o):=h.below (aC (ζ _ _) o)
theorem QR.drew {W w:Y} {b:Nat} {L:List Tk.Tok} (h:QR W b L w):QR W b L w.drew:=h.below (ζ _ _).drew
def Sq (W:Y) (b:Nat) (L:List Tk.Tok) (w w':Y):Prop:=QR W b L w'/\w.grownBy w' (some b)
def Sw (W:Y) (b:Nat) (w w':Y):Prop:=QW W b w'/\w.grownBy w' (some b)
theorem Sq.step {W w w1 w2:Y} {b:Nat} {L M:List Tk.Tok} (h:Sq W b L w w1) (k:Sq W b M w1 w2):Sq W b M w w2:=⟨k.1,aG h.2 k.2⟩
theorem Sq.bad {W w w1 w2:Y} {b:Nat} {L:List Tk.Tok} (h:Sq W b L w w1) (k:Sw W b w1 w2):Sw W b w w2:=⟨k.1,aG h.2 k.2⟩
theorem Sw.step {W w w1 w2:Y} {b:Nat} (h:Sw W b w w1) (k:Sw W b w1 w2):Sw W b w w2:=⟨k.1,aG h.2 k.2⟩
theorem Sq.refl {W w:Y} {b:Nat} {L:List Tk.Tok} (h:QR W b L w):Sq W b L w w:=⟨h,World.grownBy.refl _ _⟩
theorem Sq.bel {W w w1 w2:Y} {b:Nat} {L:List Tk.Tok} (h:Sq W b L w w1) (hb:π w1.heap.size w1 w2):Sq W b L w w2:=⟨h.1.below hb,aG h.2 (bH hb)⟩
theorem Sw.bel {W w w1 w2:Y} {b:Nat} (h:Sw W b w w1) (hb:π w1.heap.size w1 w2):Sw W b w w2:=⟨h.1.below hb,aG h.2 (bH hb)⟩
theorem Sq.alloc {W w w1:Y} {b:Nat} {L:List Tk.Tok} (h:Sq W b L w w1) (o:Obj):Sq W b L w (w1.alloc o):=h.bel (aC (ζ _ _) o)
theorem Sw.alloc {W w w1:Y} {b:Nat} (h:Sw W b w w1) (o:Obj):Sw W b w (w1.alloc o):=h.bel (aC (ζ _ _) o)
theorem Sq.dW {W w w1:Y} {b:Nat} {L:List Tk.Tok} {o:Obj} (h:Sq W b L (w.alloc o) w1):Sq W b L w w1:=⟨h.1,aG (ο w o _) h.2⟩
theorem Sw.dW {W w w1:Y} {b:Nat} {o:Obj} (h:Sw W b (w.alloc o) w1):Sw W b w w1:=⟨h.1,aG (ο w o _) h.2⟩
theorem Sq.kept {W w w1:Y} {b:Nat} {L:List Tk.Tok} (h:Sq W b L w w1) {i:Nat} {o:Obj} (hi:w.heap[i]? =some o) (hb:i ≠ b):w1.heap[i]? =some o:=
 (h.2.block i (bA hi) (fun e=>hb (α e))).trans hi
theorem Sw.kept {W w w1:Y} {b:Nat} (h:Sw W b w w1) {i:Nat} {o:Obj} (hi:w.heap[i]? =some o) (hb:i ≠ b):w1.heap[i]? =some o:=
 (h.2.block i (bA hi) (fun e=>hb (α e))).trans hi
theorem Sq.grown {W w w1 w2:Y} {b g:Nat} {L:List Tk.Tok} (h:Sq W b L w w1) (hg:w1.grownBy w2 (some g)) (h1:w.heap.size<=g) (h2:b < w.heap.size):Sq W b L w w2:=
 ⟨h.1.grown hg (fun k hk=>by cases hk;exact⟨by have:=h.1.lo;omega,by omega⟩),ρ h.2 hg (fun j hj=>by cases hj;exact .inl h1)⟩
theorem Sw.grown {W w w1 w2:Y} {b g:Nat} (h:Sw W b w w1) (hg:w1.grownBy w2 (some g)) (h1:w.heap.size<=g) (h2:b < w.heap.size):Sw W b w w2:=
 ⟨h.1.grown hg (fun k hk=>by cases hk;exact⟨by have:=h.1.lo;omega,by omega⟩),ρ h.2 hg (fun j hj=>by cases hj;exact .inl h1)⟩
def NA (es:Array R):Prop:=∃a p n c,es=lcs a (.slice p n c)
theorem NA.size {es:Array R} (h:NA es):es.size=18:=by obtain⟨a,p,n,c,e⟩:=h;rw [e];rfl
theorem NA.one {es:Array R} (h:NA es):es.all (·.oneCell')=φ:=by obtain⟨a,p,n,c,e⟩:=h;rw [e];exact nC _ _ _ _
theorem NA.sto {u:Y} {es:Array R} (h:NA es) {g:Nat} {zs:Array R} (hg:u.heap[g]? =some (.cells zs 67)) (hz:zs.size=18):
  V ((I 67 (pt g) (.agg es)).run Z u=.ok () (u.setRow g es)):=YtfedoljlipfhdaaGreatDoor.sto hg (by rw [h.size];exact iO) (by rw [h.size];exact hz) h.one
theorem NA.lod {u:Y} {es:Array R} (h:NA es) {g:Nat} (hg:u.heap[g]? =some (.cells es 67)):
  V ((η 67 (pt g)).run Z u=.ok (.agg es) u):=YtfedoljlipfhdaaGreatDoor.lod (z:=(0,0)) hg rfl Tryz.underlying67 (by rw [h.size];exact iO)
theorem NA.zero:NA nd0:=⟨bN 0 nb,none,0,0,rfl⟩
def RA (W:Y) (b:Nat) (w:Y) (o:Option (T × List Tk.Tok)) (es:Array R) (w':Y):Prop:=
 match o with
 | none=>Sw W b w w'
 | some p=>NK (fun i=>w.heap.size<=i) w' es p.1/\Sq W b p.2 w w'
def RO (W:Y) (b:Nat) (w:Y) (o:Option (T × List Tk.Tok)) (e:Ending) (w':Y):Prop:=∃es,e=.returned (.agg es)/\NA es/\RA W b w o es w'
theorem RA.grow {W w w':Y} {b:Nat} {o:Option (T × List Tk.Tok)} {es:Array R} (h:RA W b w o es w'):w.grownBy w' (some b):=by
 cases o with
 | none=>exact h.2
 | some p=>exact h.2.2
theorem RA.kept {W w w':Y} {b:Nat} {o:Option (T × List Tk.Tok)} {es:Array R} (h:RA W b w o es w') {i:Nat} {x:Obj} (hi:w.heap[i]? =some x) (hb:i ≠ b):w'.heap[i]? =some x:=
 (h.grow.block i (bA hi) (fun e=>hb (α e))).trans hi
theorem RA.fin {W w w1:Y} {b:Nat} {o:Option (T × List Tk.Tok)} {es:Array R} (hb:b < w.heap.size) (hn:NA es) (h:RA W b (w.alloc (.cells nd0 67)) o es w1):
  V ((I 67 (pt w.heap.size) (.agg es)).run Z w1=.ok () (w1.setRow w.heap.size es))/\V (w1.heap[w.heap.size]? =some (.cells nd0 67))/\V (es.size=18)/\
  V (RA W b w o es (w1.setRow w.heap.size es)):=by
 have hg:=h.kept (β w _) (by omega);refine ⟨hn.sto hg rfl,hg,hn.size, ?_⟩;cases o with
 | none=>
  have h':Sw W b (w.alloc (.cells nd0 67)) w1:=h;show Sw W b w _;exact h'.dW.grown (aK _ _ _) (κ _) hb
 | some p=>
  obtain⟨h1,h2⟩:=h;show NK _ _ _ _/\Sq _ _ _ _ _;exact⟨((qW h1).grown (aK _ _ _) (fun g e hk=>by cases e;exact Nat.lt_irrefl _ hk)).mono (fun i hi _=>Nat.le_of_lt hi),h2.dW.grown (aK _ _ _) (κ _) hb⟩
theorem aDd {w:Y} {b:Nat} {a:Option Ω} {c:Nat} {x:Bool} (hv:w.heap[b]? =some (rpO (.slice a 0 c) x)):CW 156 #[pt b] w (.string noB):=by
 have hc:w.cell? ⟨b,0,none⟩=some (.slice a 0 c):=by rw [σ w b 0 _ 145 (0,0) hv];rfl
 go_enter Tryz.func156,Tryz.ntmps156;go_wp2;go_ret;exact⟨rfl,rfl⟩
theorem aFO {W w:Y} {b:Nat} (X:QW W b w):CW 156 #[pt b] w (.string noB):=aDd X.blk
theorem aL3 {W w:Y} {b:Nat} (X:QR W b [] w):CW 156 #[pt b] w (.string noB):=by obtain⟨v,hv,hs⟩:=X.blk;obtain⟨a,c,rfl⟩:=hs.slice;exact aDd hv
theorem aJM {W w:Y} {b:Nat} {t:Tk.Tok} {L:List Tk.Tok} (X:QR W b (t:: L) w) (hn:L.length<=255):CW 156 #[pt b] w (.string (if (tk t).k=5 then (tk t).s else noB)):=by
 obtain⟨v,hv,hs⟩:=X.blk;rw [Φ] at hs;obtain⟨g,o,c,rfl,hlc,hcs,_⟩:=hs.cons;rw [ω] at hv hlc;have hc:w.cell? ⟨b,0,none⟩=some (.slice (some ⟨g,o,none⟩) (L.length+1) c):=by rw [σ w b 0 _ 145 (0,0) hv];rfl
 have h0:w.cell? ⟨g,o,none⟩=some (.int .i64 (tk t).k):=iU X.bel (hcs 0 _ rfl);have h2:w.cell? ⟨g,o+2,none⟩=some (.string (tk t).s):=iU X.bel (hcs 2 _ rfl);have hl:(0:Int) < (L.length:Int)+1:=by omega
 generalize (tk t).k=k at *;generalize (tk t).s=s at *;generalize L.length=n at *;clear hs hcs X hv;by_cases h5:k=5
 ·subst h5;rw [if_pos rfl];go_enter Tryz.func156,Tryz.ntmps156;go_wp2;all_goals (go_ret;exact⟨rfl,rfl⟩)
 ·rw [if_neg h5];have h5b:(k==5)=f:=by simpa using h5
  go_enter Tryz.func156,Tryz.ntmps156;go_wp2;all_goals (go_ret;exact⟨rfl,rfl⟩)
theorem fJ {W w:Y} {b:Nat} {L:List Tk.Tok} (X:QR W b L w) (hn:L.length<=256):CW 156 #[pt b] w (.string (ba (aU L))):=by
 rw [<-aJp L];cases L with
 | nil=>exact aL3 X
 | cons t L=>exact aJM X (by simpa using hn)
theorem bX {u:Y} {b:Nat} {v:R} {x:Bool} (h:u.heap[b]? =some (rpO v x)):u.cell? ⟨b,0,none⟩=some v/\u.cell? ⟨b,1,none⟩=some (.bool x)/\u.frozen? ⟨b,0,none⟩=f/\u.frozen? ⟨b,1,none⟩=f/\
  (∀y,(u.setCell ⟨b,1,none⟩ (.bool y)).heap[b]? =some (rpO v y))/\∀y,(u.setCell ⟨b,0,none⟩ y).heap[b]? =some (rpO y x):=by
 refine ⟨by rw [σ u b 0 _ 145 (0,0) h];rfl,by rw [σ u b 1 _ 145 (0,0) h];rfl,by unfold Γ;rw [h];rfl,by unfold Γ;rw [h];rfl,fun y=> ?_,fun y=> ?_⟩
 ·simp [Θ,ψ,h]
 ·simp [Θ,ψ,h]
abbrev aJN (u:Y) (b:Nat):Y:=(u.setCell ⟨b,1,none⟩ (.bool φ)).setCell ⟨b,0,none⟩ (.slice none 0 0)
theorem aDe {W w u:Y} {b:Nat} (X:QB W b w) (hg:∀row,w.grownBy u row):Sw W b w (aJN u b)/\∃v,(u.setCell ⟨b,1,none⟩ (.bool φ)).heap[b]? =some (rpO v φ):=by obtain⟨v,x,hv⟩:=X.blk;have hu:u.heap[b]? =some (rpO v x):=((hg none).block b (bA hv) (by simp)).trans hv;have f1:=(bX hu).2.2.2.2.1 φ;have f2:=(bX f1).2.2.2.2.2 (.slice none 0 0);have hB:π W.heap.size W u:=X.bel.grown (hg none) X.bel.size (fun k hk=>by cases hk);refine ⟨⟨⟨X.tab,(hB.setCell X.lo _).setCell X.lo _,X.lo,f2⟩, ?_⟩,v,f1⟩;exact aG (aG (hg _) (ι _ _ _ _)) (ι _ _ _ _)
theorem aOz {W w:Y} {b:Nat} (X:QB W b w) {u:Y} (hg:∀row,w.grownBy u row):∃v x,u.heap[b]? =some (rpO v x):=by obtain⟨v,x,hv⟩:=X.blk;exact⟨v,x,((hg none).block b (bA hv) (by simp)).trans hv⟩
theorem yX {W w:Y} {b:Nat} {S A:ByteArray} (X:QB W b w) (O:CW 156 #[pt b] w (.string A)) (hne:(A.toList==S.toList)=f):
  J Z 157 #[pt b,.string S] w fun e w'=>e=.returned (.tuple #[])/\Sw W b w w':=by
 obtain⟨h1,v1,h2⟩:=aDe (u:=w) X (fun _=>World.grownBy.refl _ _);obtain⟨v,x,h0⟩:=X.blk;obtain⟨c0,c1,f0,f1,_⟩:=bX h0;obtain⟨d0,d1,g0,g1,_⟩:=bX h2;have HF:V (Sw W b w (aJN w b)):=h1;clear h1 h2 h0 X;go_enter Tryz.func157,Tryz.ntmps157;go_wp2_with (go_at_call 156;refine mw O ?_)
 exact H (results_none rfl _ _ _) rfl ⟨rfl,HF.out⟩
theorem aJO {l m:List UInt8} (h:l ≠ m):((ba l).toList==(ba m).toList)=f:=by rw [μ,μ];simpa using h
theorem aNC (l:List UInt8):((ba l).toList==(ba l).toList)=φ:=by simp
theorem aDf {W w:Y} {b:Nat} {L:List Tk.Tok} (X:QR W b L w) (hn:L.length<=256) {s:List UInt8} (h:aU L ≠ s):J Z 157 #[pt b,.string (ba s)] w fun e w'=>e=.returned (.tuple #[])/\Sw W b w w':=
 yX X.b (fJ X hn) (aJO h)
theorem aAL {W w:Y} {b:Nat} (X:QW W b w) {s:List UInt8} (h:s ≠ []):J Z 157 #[pt b,.string (ba s)] w fun e w'=>e=.returned (.tuple #[])/\Sw W b w w':=
 yX X.b (aFO X) (aJO (l:=[]) (Ne.symm h))
theorem eT {W w:Y} {b:Nat} {L:List Tk.Tok} (X:QR W b L w) (hn:L.length<=256) {s:List UInt8} (hs:s ≠ []) (h:aU L=s):J Z 157 #[pt b,.string (ba s)] w fun e w'=>e=.returned (.tuple #[])/\Sq W b L.tail w w':=by
 have O:=fJ X hn;rw [h] at O;have heq:=aNC s;obtain⟨h1,h2⟩:=bB (ts:=L) h hs;obtain⟨v,hv,ht⟩:=X.blk;rw [h2,Φ] at ht;obtain⟨g,o,c,rfl,hlc,hcs,hts⟩:=ht.cons;rw [ω] at hv hlc hts;obtain⟨c0,c1,f0,f1,_,hset⟩:=bX hv;obtain⟨A,hA⟩:∃A,(if c=1 then some (⟨g,o,none⟩:Ω) else some ⟨g,o+9,none⟩)=A:=⟨_,rfl⟩
 rw [hA] at hts;have HF:V (Sq W b L.tail w (w.setCell ⟨b,0,none⟩ (.slice A L.tail.length (c - 1)))):=
  ⟨⟨X.tab,X.bel.setCell X.lo _,X.lo,fun x hx=>X.ok x (List.mem_of_mem_tail hx),_,hset _,hts⟩,ι _ _ _ _⟩
 generalize L.tail.length=n at *;generalize ba s=S at *;clear hts hv ht hcs X h h1 h2 hset;go_enter Tryz.func157,Tryz.ntmps157;go_wp2_with (go_at_call 156;refine mw O ?_)
 go_end0
 exact⟨rfl,HF.out⟩
theorem rA (u:Y):(ν 67 #[]).run Z u=.ok (.agg nd0) u:=by kernel_rfl
theorem mM {W w:Y} {b:Nat} (X:QB W b w):J Z 244 #[pt b] w fun e w'=>e=.returned (.agg nd0)/\Sw W b w w':=by
 have hg:∀row,w.grownBy (w.alloc (.cells nd0 67)) row:=fun _=>ο _ _ _;have hb:=X.lt;obtain⟨h1,v1,h2⟩:=aDe (u:=w.alloc (.cells nd0 67)) X hg;obtain⟨v,x,h0⟩:=aOz X hg;obtain⟨c0,c1,f0,f1,_⟩:=bX h0;obtain⟨d0,d1,g0,g1,_⟩:=bX h2;have G1:=ι (w.alloc (.cells nd0 67)) b 1 (.bool φ);have H1:=(G1.block w.heap.size (by simp) (by intro e;have:=α e;omega)).trans (β w (.cells nd0 67));obtain⟨w2,hw2⟩:∃w2,(w.alloc (.cells nd0 67)).setCell ⟨b,1,none⟩ (.bool φ)=w2:=⟨_,rfl⟩
 have h1':Sw W b w (w2.setCell ⟨b,0,none⟩ (.slice none 0 0)):=by rw [<-hw2];exact h1
 rw [hw2] at H1 d0 d1 g0 g1;have G2:=ι w2 b 0 (.slice none 0 0);have H2:=(G2.block w.heap.size (bA H1) (by intro e;have:=α e;omega)).trans H1;obtain⟨w3,hw3⟩:∃w3,w2.setCell ⟨b,0,none⟩ (.slice none 0 0)=w3:=⟨_,rfl⟩
 rw [hw3] at H2 h1';have RB:V _:=rA w3;have RS:=NA.zero.sto H2 rfl;have HF:V (Sw W b w (w3.setRow w.heap.size nd0)):=h1'.grown (aK _ _ _) (κ _) hb;have HR:V (w3.heap[w.heap.size]? =some (.cells nd0 67)):=H2;clear H1 H2 h1 h1' h2 h0 X hg G1 G2;go_enter Tryz.func244,Tryz.ntmps244;go_wp2_with (first|(refine aL rfl 67 _ rfl _ _ rfl RB.out ?_)|(refine aA rfl 67 _ _ rfl _ _ _ rfl rfl RS.out ?_))
 exact H (aZ HR.out rfl rfl rfl) rfl ⟨rfl,HF.out⟩
theorem aJP {W w:Y} {b:Nat} {o:Option (T × List Tk.Tok)} (hb:b < w.heap.size) (C:J Z 155 #[pt b] (w.alloc (.cells nd0 67)) (RO W b (w.alloc (.cells nd0 67)) o)):
  J Z 109 #[pt b,.int .i64 6] w (RO W b w o):=by
 have C':J Z 155 #[pt b] (w.alloc (.cells nd0 67)) fun e w1=>∃es,e=.returned (.agg es)/\V ((I 67 (pt w.heap.size) (.agg es)).run Z w1=.ok () (w1.setRow w.heap.size es))/\V (w1.heap[w.heap.size]? =some (.cells nd0 67))/\V (es.size=18)/\V (NA es)/\V (RA W b w o es (w1.setRow w.heap.size es)):=C.mono (by
  rintro e w1 ⟨es,rfl,hn,h⟩;obtain⟨a1,a2,a3,a4⟩:=RA.fin hb hn h;exact⟨es,rfl,a1,a2,a3,hn,a4⟩)
 clear C;go_enter Tryz.func109,Tryz.ntmps109;go_wp2_with (first|(go_at_call 155;refine C'.mono ?_;rintro e w1 ⟨es,rfl,RS,HG,HZ,HN,HF⟩)|(refine aA rfl 67 _ _ rfl _ _ _ rfl rfl RS.out ?_))
 exact H (aZ HG.out HZ.out rfl rfl) rfl ⟨es,rfl,HN.out,HF.out⟩
theorem aND {u:Y} {es es2:Array R} (h:NA es) (h2:NA es2):(ξ 65 2 #[(0,.agg es),(1,.agg es2)]).run Z u=.ok (.slice (some ⟨u.heap.size,0,none⟩) 2 2) (u.alloc (.cells (es.toList++es2.toList).toArray 67)):=by obtain⟨a,p,n,c,rfl⟩:=h;obtain⟨a',p',n',c',rfl⟩:=h2;exact aAE u _ _ _ _ _ _ _ _
structure BI (W:Y) (b:Nat) (w:Y) (g:Nat) (cur:Option (T × List Tk.Tok)) (es:Array R) (u:Y):Prop where
 box:u.heap[g]? =some (.cells es 67)
 res:u.heap[w.heap.size]? =some (.cells nd0 67)
 na:NA es
 st:match cur with
  | none=>Sw W b w u
  | some p=>NK (fun i=>w.heap.size < i/\i ≠ g) u es p.1/\Sq W b p.2 w u
theorem BI.begin {W w w1:Y} {b:Nat} {o:Option (T × List Tk.Tok)} {es:Array R} (hb:b < w.heap.size) (hn:NA es) (h:RA W b (w.alloc (.cells nd0 67)) o es w1):
  V ((I 67 (pt w1.heap.size) (.agg es)).run Z (w1.alloc (.cells nd0 67))=.ok () (w1.alloc (.cells es 67)))/\V (BI W b w w1.heap.size o es (w1.alloc (.cells es 67)))/\V (w.heap.size < w1.heap.size):=by
 have hlt:w.heap.size < w1.heap.size:=by have:=h.grow.size;simp at this;omega
 refine ⟨τ w1 67 nd0 _ (by rw [hn.size];exact iO) (by rw [hn.size];rfl) hn.one,⟨β _ _,(γ _ _ _ hlt).trans (h.kept (β w _) (by omega)),hn, ?_⟩,hlt⟩;cases o with
 | none=>exact(show Sw W b (w.alloc (.cells nd0 67)) w1 from h).dW.alloc _
 | some p=>
  obtain⟨h1,h2⟩:=h;refine ⟨NK.below (K:=fun i=>w.heap.size < i/\i ≠ w1.heap.size) (h1.mono (fun i hi hl=> ?_)) (aC (ζ _ _) (.cells es 67)),h2.dW.alloc _⟩;simp at hi;exact⟨by omega,by omega⟩
theorem BI.fin {W w u:Y} {b g:Nat} {cur:Option (T × List Tk.Tok)} {es:Array R} (h:BI W b w g cur es u) (hb:b < w.heap.size):
  V ((η 67 (pt g)).run Z u=.ok (.agg es) u)/\V ((I 67 (pt w.heap.size) (.agg es)).run Z u=.ok () (u.setRow w.heap.size es))/\V (es.size=18)/\V (RA W b w cur es (u.setRow w.heap.size es)):=by
 refine ⟨h.na.lod h.box,h.na.sto h.res rfl,h.na.size, ?_⟩;have hs:=h.st;cases cur with
 | none=>exact Sw.grown hs (aK _ _ _) (κ _) hb
 | some p=>
  obtain⟨h1,h2⟩:=hs;exact⟨(h1.grown (aK _ _ _) (fun g e hk=>by cases e;exact Nat.lt_irrefl _ hk.1)).mono (fun i hi _=>Nat.le_of_lt hi.1),h2.grown (aK _ _ _) (κ _) hb⟩
theorem QR.left {W w:Y} {b:Nat} {L:List Tk.Tok} (h:QR W b L w):nM b w=L.length:=by obtain⟨v,h1,h2⟩:=h.blk;obtain⟨a,c,rfl⟩:=h2.slice;unfold nM;rw [h1];simp
theorem QW.left {W w:Y} {b:Nat} (h:QW W b w):nM b w=0:=by unfold nM;rw [h.blk];simp
theorem QR.not {W w:Y} {b:Nat} {L:List Tk.Tok} (h:QR W b L w):w.cell? ⟨b,1,none⟩=some (.bool f):=by obtain⟨v,h1,h2⟩:=h.blk;exact(bX h1).2.1
theorem QW.yes {W w:Y} {b:Nat} (h:QW W b w):w.cell? ⟨b,1,none⟩=some (.bool φ):=(bX h.blk).2.1
theorem BI.two {W w u u2 w3:Y} {b g:Nat} {n:T} {r r':List Tk.Tok} {es es2:Array R} {sg:List UInt8} {o2:Option (T × List Tk.Tok)} (h:BI W b w g (some (n,r)) es u) (hb:b < w.heap.size) (hg:w.heap.size < g)
  (h2:Sq W b r' u u2) (hn:NA es2) (h3:RA W b u2 o2 es2 w3):
  V ((I 67 (pt w3.heap.size) (.agg es2)).run Z (w3.alloc (.cells nd0 67))=.ok () (w3.alloc (.cells es2 67)))/\
  V ((η 67 (pt g)).run Z (w3.alloc (.cells es2 67))=.ok (.agg es) (w3.alloc (.cells es2 67)))/\
  V ((η 67 (pt w3.heap.size)).run Z (w3.alloc (.cells es2 67))=.ok (.agg es2) (w3.alloc (.cells es2 67)))/\
  ∃w5,V ((ξ 65 2 #[(0,.agg es),(1,.agg es2)]).run Z (w3.alloc (.cells es2 67))=.ok (.slice (some ⟨w3.heap.size+1,0,none⟩) 2 2) w5)/\
  V ((ν 67 #[(0,.int .i64 6),(1,.string (ba sg)),(5,.slice (some ⟨w3.heap.size+1,0,none⟩) 2 2)]).run Z w5=.ok (.agg (lcs (bN 6 (ba sg)) (.slice (some ⟨w3.heap.size+1,0,none⟩) 2 2))) w5)/\
  V ((I 67 (pt g) (.agg (lcs (bN 6 (ba sg)) (.slice (some ⟨w3.heap.size+1,0,none⟩) 2 2)))).run Z w5=.ok () (w5.setRow g (lcs (bN 6 (ba sg)) (.slice (some ⟨w3.heap.size+1,0,none⟩) 2 2))))/\
  V (BI W b w g (o2.map fun p=>(yG sg n p.1,p.2)) (lcs (bN 6 (ba sg)) (.slice (some ⟨w3.heap.size+1,0,none⟩) 2 2)) (w5.setRow g (lcs (bN 6 (ba sg)) (.slice (some ⟨w3.heap.size+1,0,none⟩) 2 2)))):=by
 have hgl:g < u.heap.size:=bA h.box;have hgu2:=h2.2.size;have aQb:=h3.grow.size;have B2:u2.heap[g]? =some (.cells es 67):=h2.kept h.box (by omega);have B3:w3.heap[g]? =some (.cells es 67):=h3.kept B2 (by omega);have R2:u2.heap[w.heap.size]? =some (.cells nd0 67):=h2.kept h.res (by omega);have R3:w3.heap[w.heap.size]? =some (.cells nd0 67):=h3.kept R2 (by omega);have B4:(w3.alloc (.cells es2 67)).heap[g]? =some (.cells es 67):=(γ _ _ _ (by omega)).trans B3;have R4:(w3.alloc (.cells es2 67)).heap[w.heap.size]? =some (.cells nd0 67):=(γ _ _ _ (by omega)).trans R3;have hz4:(w3.alloc (.cells es2 67)).heap.size=w3.heap.size+1:=by simp
 refine ⟨τ w3 67 nd0 _ (by rw [hn.size];exact iO) (by rw [hn.size];rfl) hn.one,h.na.lod B4,hn.lod (β _ _),(w3.alloc (.cells es2 67)).alloc (.cells (es.toList++es2.toList).toArray 67),by have:=aND (u:=w3.alloc (.cells es2 67)) h.na hn;rw [hz4] at this;exact this,mI _ _ _ _ _ _, ?_⟩;obtain⟨w5,hw5⟩:∃w5,(w3.alloc (.cells es2 67)).alloc (.cells (es.toList++es2.toList).toArray 67)=w5:=⟨_,rfl⟩
 rw [hw5];have B5:w5.heap[g]? =some (.cells es 67):=by rw [<-hw5];exact(γ _ _ _ (by omega)).trans B4
 have R5:w5.heap[w.heap.size]? =some (.cells nd0 67):=by rw [<-hw5];exact(γ _ _ _ (by omega)).trans R4
 have N5:w5.heap[w3.heap.size+1]? =some (.cells (es.toList++es2.toList).toArray 67):=by rw [<-hw5];have:=β (w3.alloc (.cells es2 67)) (.cells (es.toList++es2.toList).toArray 67);rw [hz4] at this;exact this
 have hz5:w5.heap.size=w3.heap.size+2:=by rw [<-hw5];simp
 have L5:π w3.heap.size w3 w5:=by rw [<-hw5];exact aC (aC (ζ _ _) _) _
 refine ⟨qV B5 h.na.size _ _ _ _, ?_⟩;generalize hfs:lcs (bN 6 (ba sg)) (.slice (some ⟨w3.heap.size+1,0,none⟩) 2 2)=fs;have G6:=aK w5 g fs;refine ⟨setRow_heap _ _ _ _ _ _ B5,(G6.block _ (by omega) (by intro e;have:=α e;omega)).trans R5,⟨_,_,_,_,hfs.symm⟩, ?_⟩;obtain⟨hN,hS⟩:=h.st;cases o2 with
 | none=>
  have h3':Sw W b u2 w3:=h3;show Sw W b w _;exact(((hS.step h2).bad h3').bel L5).grown G6 (by omega) hb
 | some p=>
  obtain⟨m,r2⟩:=p;obtain⟨hM,hS3⟩:=h3;show NK _ _ _ (yG sg n m)/\Sq W b r2 w _;have K6:∀k,(some g:Option Nat)=some k->¬(fun i=>w.heap.size < i/\i ≠ g) k:=fun k e hk=>by cases e;exact hk.2 rfl
  have K1:∀i,(fun i=>w.heap.size < i/\i ≠ g) i->i ≠ b:=fun i hi e=>by have:=hi.1;omega
  have HA:NK (fun i=>w.heap.size < i/\i ≠ g) (w5.setRow g fs) es n:=(((hN.grown h2.2 (fun k e hk=>by cases e;exact K1 _ hk rfl)).grown hS3.2 (fun k e hk=>by cases e;exact K1 _ hk rfl)).below L5).grown G6 K6;have HB:NK (fun i=>w.heap.size < i/\i ≠ g) (w5.setRow g fs) es2 m:=((hM.mono (K':=fun i=>w.heap.size < i/\i ≠ g) (fun i hi _=>by
   have hi':u2.heap.size<=i:=hi;exact⟨by omega,by omega⟩)).below L5).grown G6 K6
  refine ⟨?_,(((hS.step h2).step hS3).bel L5).grown G6 (by omega) hb⟩;rw [<-hfs] at HA HB ⊢;refine NK.newAt (g:=w3.heap.size+1) ⟨by omega,by omega⟩ (k:=6) (s:=ba sg) [(es,n),(es2,m)] (fun x hx=> ?_) (es:=(es.toList++es2.toList).toArray) (z:=(0,0)) (o:=0) (((aK w5 g _).block _ (by omega) (by intro e;have:=α e;omega)).trans N5) (fun j v hj=>by simpa using hj) 2;simp only [Ξ,Δ,or_false] at hx;rcases hx with rfl | rfl
  ·exact HA
  ·exact HB
theorem aEB {u:Y} {es:Array R} (h:NA es):(ξ 65 1 #[(0,.agg es)]).run Z u=.ok (.slice (some ⟨u.heap.size,0,none⟩) 1 1) (u.alloc (.cells es 67)):=by obtain⟨a,p,n,c,rfl⟩:=h;exact pF u _ _ _ _
theorem aFP {K K':Nat->Prop} {u:Y} {es:Array R} {n:T} {sg:List UInt8} {g:Nat} (h:NK K u es n) (hK:∀i,K i->i < u.heap.size->K' i) (hn:K' u.heap.size) (hg:¬K' g):
  NK K' ((u.alloc (.cells es 67)).setRow g (lcs (bN 5 (ba sg)) (.slice (some ⟨u.heap.size,0,none⟩) 1 1))) (lcs (bN 5 (ba sg)) (.slice (some ⟨u.heap.size,0,none⟩) 1 1)) (unT sg n):=by
 generalize hfs:lcs (bN 5 (ba sg)) (.slice (some ⟨u.heap.size,0,none⟩) 1 1)=fs;have G6:=aK (u.alloc (.cells es 67)) g fs;have HA:NK K' ((u.alloc (.cells es 67)).setRow g fs) es n:=((h.mono hK).below (aC (ζ _ _) _)).grown G6 (fun k e hk=>by cases e;exact hg hk);rw [<-hfs] at HA ⊢;refine NK.newAt (g:=u.heap.size) hn (k:=5) (s:=ba sg) [(es,n)] (fun x hx=> ?_) (es:=es) (z:=(0,0)) (o:=0) (((aK _ g _).block _ (by simp) (by intro e;exact hg (α e ▸ hn))).trans (β _ _)) (fun j v hj=>by simpa using hj) 1;simp only [Ξ,Δ,or_false] at hx;subst hx;exact HA
theorem aNE {W w u2 w3:Y} {b:Nat} {r':List Tk.Tok} {es2:Array R} {o2:Option (T × List Tk.Tok)} (hb:b < w.heap.size) (h2:Sq W b r' (w.alloc (.cells nd0 67)) u2) (hn:NA es2) (h3:RA W b u2 o2 es2 w3):
  V ((I 67 (pt w3.heap.size) (.agg es2)).run Z (w3.alloc (.cells nd0 67))=.ok () (w3.alloc (.cells es2 67)))/\
  V ((η 67 (pt w3.heap.size)).run Z (w3.alloc (.cells es2 67))=.ok (.agg es2) (w3.alloc (.cells es2 67)))/\
  ∃w5,V ((ξ 65 1 #[(0,.agg es2)]).run Z (w3.alloc (.cells es2 67))=.ok (.slice (some ⟨w3.heap.size+1,0,none⟩) 1 1) w5)/\
  V ((ν 67 #[(0,.int .i64 5),(1,.string ⟨#[45]⟩),(5,.slice (some ⟨w3.heap.size+1,0,none⟩) 1 1)]).run Z w5=.ok (.agg (lcs (bN 5 ⟨#[45]⟩) (.slice (some ⟨w3.heap.size+1,0,none⟩) 1 1))) w5)/\
  V ((I 67 (pt w.heap.size) (.agg (lcs (bN 5 ⟨#[45]⟩) (.slice (some ⟨w3.heap.size+1,0,none⟩) 1 1)))).run Z w5=.ok () (w5.setRow w.heap.size (lcs (bN 5 ⟨#[45]⟩) (.slice (some ⟨w3.heap.size+1,0,none⟩) 1 1))))/\
  V (w5.heap[w.heap.size]? =some (.cells nd0 67))/\V ((lcs (bN 5 ⟨#[45]⟩) (.slice (some ⟨w3.heap.size+1,0,none⟩) 1 1)).size=18)/\V (NA (lcs (bN 5 ⟨#[45]⟩) (.slice (some ⟨w3.heap.size+1,0,none⟩) 1 1)))/\
  V (RA W b w (o2.map fun p=>(unT [45] p.1,p.2)) (lcs (bN 5 ⟨#[45]⟩) (.slice (some ⟨w3.heap.size+1,0,none⟩) 1 1)) (w5.setRow w.heap.size (lcs (bN 5 ⟨#[45]⟩) (.slice (some ⟨w3.heap.size+1,0,none⟩) 1 1)))):=by
 have hs2:=h2.2.size;have hs3:=h3.grow.size;simp at hs2;have R2:u2.heap[w.heap.size]? =some (.cells nd0 67):=h2.kept (β w _) (by omega);have R3:w3.heap[w.heap.size]? =some (.cells nd0 67):=h3.kept R2 (by omega);have R4:(w3.alloc (.cells es2 67)).heap[w.heap.size]? =some (.cells nd0 67):=(γ _ _ _ (by omega)).trans R3;have hz4:(w3.alloc (.cells es2 67)).heap.size=w3.heap.size+1:=by simp
 have R5:((w3.alloc (.cells es2 67)).alloc (.cells es2 67)).heap[w.heap.size]? =some (.cells nd0 67):=(γ _ _ _ (by omega)).trans R4;refine ⟨τ w3 67 nd0 _ (by rw [hn.size];exact iO) (by rw [hn.size];rfl) hn.one,hn.lod (β _ _),(w3.alloc (.cells es2 67)).alloc (.cells es2 67),by have:=aEB (u:=w3.alloc (.cells es2 67)) hn;rw [hz4] at this;exact this,mI _ _ _ _ _ _,qV R5 rfl _ _ _ _,R5,rfl,⟨_,_,_,_,rfl⟩, ?_⟩;have L5:π w3.heap.size w3 ((w3.alloc (.cells es2 67)).alloc (.cells es2 67)):=aC (aC (ζ _ _) _) _;cases o2 with
 | none=>exact(((h2.bad (show Sw W b u2 w3 from h3)).dW).bel L5).grown (aK _ _ _) (κ _) hb
 | some p=>
  obtain⟨hM,hS3⟩:=h3;refine ⟨?_,(((h2.step hS3).dW).bel L5).grown (aK _ _ _) (κ _) hb⟩;have hM4:NK (fun i=>u2.heap.size<=i) (w3.alloc (.cells es2 67)) es2 p.1:=hM.below (aC (ζ _ _) _);have:=aFP (K':=fun i=>w.heap.size < i) (sg:=[45]) (g:=w.heap.size) hM4 (fun i hi _=>by have hi':u2.heap.size<=i:=hi;omega) (by omega) (Nat.lt_irrefl _);rw [hz4] at this;exact this.mono (fun i hi _=>Nat.le_of_lt hi)
theorem BI.pct {W w u u2:Y} {b g:Nat} {n:T} {r r':List Tk.Tok} {es:Array R} (h:BI W b w g (some (n,r)) es u) (hb:b < w.heap.size) (hg:w.heap.size < g) (h2:Sq W b r' u u2):
  V ((η 67 (pt g)).run Z u2=.ok (.agg es) u2)/\
  V ((ξ 65 1 #[(0,.agg es)]).run Z u2=.ok (.slice (some ⟨u2.heap.size,0,none⟩) 1 1) (u2.alloc (.cells es 67)))/\
  V ((ν 67 #[(0,.int .i64 5),(1,.string ⟨#[37]⟩),(5,.slice (some ⟨u2.heap.size,0,none⟩) 1 1)]).run Z (u2.alloc (.cells es 67))=.ok (.agg (lcs (bN 5 ⟨#[37]⟩) (.slice (some ⟨u2.heap.size,0,none⟩) 1 1))) (u2.alloc (.cells es 67)))/\
  V ((I 67 (pt g) (.agg (lcs (bN 5 ⟨#[37]⟩) (.slice (some ⟨u2.heap.size,0,none⟩) 1 1)))).run Z (u2.alloc (.cells es 67))=.ok () ((u2.alloc (.cells es 67)).setRow g (lcs (bN 5 ⟨#[37]⟩) (.slice (some ⟨u2.heap.size,0,none⟩) 1 1))))/\
  V (BI W b w g (some (unT [37] n,r')) (lcs (bN 5 ⟨#[37]⟩) (.slice (some ⟨u2.heap.size,0,none⟩) 1 1)) ((u2.alloc (.cells es 67)).setRow g (lcs (bN 5 ⟨#[37]⟩) (.slice (some ⟨u2.heap.size,0,none⟩) 1 1)))):=by
 have hgl:g < u.heap.size:=bA h.box;have hs2:=h2.2.size;have B2:u2.heap[g]? =some (.cells es 67):=h2.kept h.box (by omega);have R2:u2.heap[w.heap.size]? =some (.cells nd0 67):=h2.kept h.res (by omega);have B3:(u2.alloc (.cells es 67)).heap[g]? =some (.cells es 67):=(γ _ _ _ (by omega)).trans B2;have R3:(u2.alloc (.cells es 67)).heap[w.heap.size]? =some (.cells nd0 67):=(γ _ _ _ (by omega)).trans R2;have G6:=aK (u2.alloc (.cells es 67)) g (lcs (bN 5 ⟨#[37]⟩) (.slice (some ⟨u2.heap.size,0,none⟩) 1 1));obtain⟨hN,hS⟩:=h.st;refine ⟨h.na.lod B2,aEB h.na,mI _ _ _ _ _ _,qV B3 h.na.size _ _ _ _,setRow_heap _ _ _ _ _ _ B3,(G6.block _ (bA R3) (by intro e;have:=α e;omega)).trans R3,⟨_,_,_,_,rfl⟩, ?_⟩;show NK _ _ _ (unT [37] n)/\Sq W b r' w _;refine ⟨?_,((hS.step h2).alloc _).grown G6 (by omega) hb⟩;have hN2:NK (fun i=>w.heap.size < i/\i ≠ g) u2 es n:=hN.grown h2.2 (fun k e hk=>by cases e;have:=hk.1;omega);exact aFP (K':=fun i=>w.heap.size < i/\i ≠ g) (sg:=[37]) (g:=g) hN2 (fun i hi _=>hi) ⟨by omega,by omega⟩ (fun hk=>hk.2 rfl)
theorem aJQ {n:T} {r:List Tk.Tok} (h:aU r=[37]):gX r.length n r=gX r.tail.length (unT [37] n) r.tail:=by
 have h2:=(bB (ts:=r) h (by decide)).1;rw [<-h2]
 conv=>lhs;unfold gX
 rw [if_pos h]
theorem aL4 {n:T} {r:List Tk.Tok} (h:aU r ≠ [37]) (k:Nat):gX k n r=(n,r):=by
 cases k with
 | zero=>rfl
 | succ k=>unfold gX;rw [if_neg h]
theorem aL5 {W:Y} {b:Nat} {ts:List Tk.Tok} (hn:ts.length<=256) (h:aU ts=[45]) (C:∀u,QR W b ts.tail u->J Z 155 #[pt b] u (RO W b u (PP 6 ts.tail))) {w:Y} (X:QR W b ts w):
  J Z 155 #[pt b] w (RO W b w ((PP 6 ts.tail).map fun p=>(unT [45] p.1,p.2))):=by
 have hb:=X.lt;have OP:=fJ (X.alloc (.cells nd0 67)) hn;rw [h] at OP;have OP':J Z 156 #[pt b] (w.alloc (.cells nd0 67)) fun e w'=>e=.returned (.string ⟨#[45]⟩)/\w'=w.alloc (.cells nd0 67):=OP;have TK:J Z 157 #[pt b,.string ⟨#[45]⟩] (w.alloc (.cells nd0 67)) fun e w'=>e=.returned (.tuple #[])/\Sq W b ts.tail (w.alloc (.cells nd0 67)) w':=eT (s:=[45]) (X.alloc (.cells nd0 67)) hn (by decide) h;have C1:V (∀u2,Sq W b ts.tail (w.alloc (.cells nd0 67)) u2->J Z 155 #[pt b] u2 fun e w3=>∃es2,e=.returned (.agg es2)/\NA es2/\RA W b u2 (PP 6 ts.tail) es2 w3):=fun u2 h2=>C u2 h2.1;clear C X OP h;generalize PP 6 ts.tail=o2 at *;go_enter Tryz.func155,Tryz.ntmps155;go_wp2_with (first|(go_at_call 156;refine mw OP' ?_)|(go_at_call 157;refine TK.mono ?_;rintro e w2 ⟨rfl,hw⟩;have HS2:V (Sq W b ts.tail (w.alloc (.cells nd0 67)) w2):=hw;clear hw TK)|(go_at_call 155;refine (C1.out _ HS2.out).mono ?_;rintro e w3 ⟨es2,rfl,hn2,h3⟩;obtain⟨R1,R2,w5,R4,R5,R6,HG,HZ,HNA,HF⟩:=aNE hb HS2.out hn2 h3;clear hn2 h3)|(refine aA rfl 67 _ _ rfl _ _ _ rfl rfl R1.out ?_;clear R1)|(refine aB rfl 67 _ rfl _ _ rfl R2.out ?_;clear R2)|(refine dQ rfl 65 1 _ rfl _ _ _ (by go_simp) R4.out ?_;clear R4)|(refine aL rfl 67 _ rfl _ _ (by go_simp) R5.out ?_;clear R5)|(refine aA rfl 67 _ _ rfl _ _ _ rfl rfl R6.out ?_;clear R6))
 exact H (aZ HG.out HZ.out rfl rfl) rfl ⟨_,rfl,HNA.out,HF.out⟩
theorem aL6 {W:Y} {b:Nat} {ts:List Tk.Tok} (hn:ts.length<=256) (h:aU ts ≠ [45]) (C:∀u,QR W b ts u->J Z 201 #[pt b] u (RO W b u (PP 8 ts))) {w:Y} (X:QR W b ts w):
  J Z 155 #[pt b] w (RO W b w ((PP 8 ts).map fun p=>gX p.2.length p.1 p.2)):=by
 have hb:=X.lt;have hlen:∀p,PP 8 ts=some p->p.2.length<=256:=fun p hp=>z0 (Nat.le_of_lt (jC upF trF (by omega) _ p.1 p.2 hp)) hn;have OP:=fJ (X.alloc (.cells nd0 67)) hn;have hne:((ba (aU ts)).toList==[45])=f:=bP h;have C0:J Z 201 #[pt b] (w.alloc (.cells nd0 67)) fun e w1=>∃es,e=.returned (.agg es)/\V ((I 67 (pt w1.heap.size) (.agg es)).run Z (w1.alloc (.cells nd0 67))=.ok () (w1.alloc (.cells es 67)))/\V (BI W b w w1.heap.size (PP 8 ts) es (w1.alloc (.cells es 67)))/\V (w.heap.size < w1.heap.size):=(C _ (X.alloc _)).mono (by
  rintro e w1 ⟨es,rfl,hn,h⟩;exact⟨es,rfl,BI.begin hb hn h⟩)
 generalize ho:((PP 8 ts).map fun p=>gX p.2.length p.1 p.2)=o;have HO:V (((PP 8 ts).map fun p=>gX p.2.length p.1 p.2)=o):=ho;have HLE:V (∀p,PP 8 ts=some p->p.2.length<=256):=hlen;clear ho C hlen X h;generalize PP 8 ts=o1 at C0 HO HLE;generalize ba (aU ts)=A at *;go_enter Tryz.func155,Tryz.ntmps155;go_wp2_with (first|(go_at_call 156;refine mw OP ?_)|(go_at_call 201;refine C0.mono ?_;rintro e w1 ⟨es0,rfl,RS0,HB0,HLT⟩)|(refine aA rfl 67 _ _ rfl _ _ _ rfl rfl RS0.out ?_;clear RS0))
 clear C0 OP hne;try simp only [υ,E,δ,ε]
 generalize hg7:w1.heap.size=g7 at *;clear hg7;go_loopw [] (fun wr=>∃(cur:Option (T × List Tk.Tok)) (es:Array R),V ((cur.map fun p=>gX p.2.length p.1 p.2)=o)/\V (BI W b w g7 cur es wr)/\V (∀p,cur=some p->p.2.length<=256)) (fun wr=>nM b wr)
 case atStart=>exact⟨o1,es0,HO,HB0,HLE⟩
 case round=>
  obtain⟨cur,es,HL,HB,HR⟩:=hrel;clear HO HB0 HLE;cases cur with
  | none=>
   obtain⟨RL,RS,HZ,HF⟩:=HB.out.fin hb;have hyes:wr.cell? ⟨b,1,none⟩=some (.bool φ):=(show Sw W b w wr from HB.out.st).1.yes;have HQ:V (none=o):=HL.out;have HNA:V (NA es):=HB.out.na;have HG:V (wr.heap[w.heap.size]? =some (.cells nd0 67)):=HB.out.res;clear HL HB HR;go_wp2_with (first|(refine aB rfl 67 _ rfl _ _ rfl RL.out ?_;clear RL)|(refine aA rfl 67 _ _ rfl _ _ _ rfl rfl RS.out ?_;clear RS))
   refine H (aZ HG.out HZ.out rfl rfl) rfl ?_;rw [<-HQ.out];exact⟨es,rfl,HNA.out,HF.out⟩
  | some p=>
   obtain⟨n,r⟩:=p;have hr:r.length<=256:=HR.out _ rfl;have hS:Sq W b r w wr:=(HB.out.st).2;have hnot:wr.cell? ⟨b,1,none⟩=some (.bool f):=hS.1.not;have OP:=fJ hS.1 hr;have hleft:=hS.1.left;by_cases hq:aU r=[37]
   ·have hrt:=(bB (ts:=r) hq (by decide)).1;have HQ:V (o=some (gX r.tail.length (unT [37] n) r.tail)):=by show _=_;rw [<-HL.out];show some (gX r.length n r)=_;rw [aJQ hq]
    have TK:J Z 157 #[pt b,.string ⟨#[37]⟩] wr fun e w'=>e=.returned (.tuple #[])/\Sq W b r.tail wr w':=eT (s:=[37]) hS.1 hr (by decide) hq;rw [hq] at OP;have OP':CW 156 #[pt b] wr (.string ⟨#[37]⟩):=OP;clear HL hq hS OP;generalize hrr:r.tail=r' at *;clear hrr;go_wp2_with (first|(go_at_call 156;refine mw OP' ?_)|(go_at_call 157;refine TK.mono ?_;rintro e w2 ⟨rfl,hw⟩;have HS2:V (Sq W b r' wr w2):=hw;clear hw TK;obtain⟨R2,R4,R5,R6,HB6⟩:=BI.pct HB.out hb HLT.out HS2.out)|(refine aB rfl 67 _ rfl _ _ rfl R2.out ?_;clear R2)|(refine dQ rfl 65 1 _ rfl _ _ _ (by go_simp) R4.out ?_;clear R4)|(refine aL rfl 67 _ rfl _ _ (by go_simp) R5.out ?_;clear R5)|(refine aA rfl 67 _ _ rfl _ _ _ rfl rfl R6.out ?_;clear R6))
    try simp only [υ,E,δ,ε]
    go_roundw
    case rel=>
     refine ⟨some (unT [37] n,r'),_, ?_,HB6, ?_⟩
     ·show _=_;rw [HQ.out];rfl
     ·show ∀p,_->_;intro p hp;cases hp
      show r'.length<=256;omega
    case measure=> have hst:=HB6.out.st;rw [(show _/\Sq W b r' w _ from hst).2.1.left,hleft];omega
   ·have HQ:V (o=some (n,r)):=by show _=_;rw [<-HL.out];show some (gX r.length n r)=_;rw [aL4 hq]
    have hqi:((ba (aU r)).toList==[37])=f:=bP hq;obtain⟨RL,RS,HZ,HF⟩:=HB.out.fin hb;have HNA:V (NA es):=HB.out.na;have HG:V (wr.heap[w.heap.size]? =some (.cells nd0 67)):=HB.out.res;generalize ba (aU r)=A at *;clear hq HL hleft HB hS;go_wp2_with (first|(go_at_call 156;refine mw OP ?_)|(refine aB rfl 67 _ rfl _ _ rfl RL.out ?_;clear RL)|(refine aA rfl 67 _ _ rfl _ _ _ rfl rfl RS.out ?_;clear RS))
    refine H (aZ HG.out HZ.out rfl rfl) rfl ?_;rw [HQ.out];exact⟨es,rfl,HNA.out,HF.out⟩
theorem aL7 {W:Y} {b:Nat} {ts:List Tk.Tok} (hn:ts.length<=256) (C:∀u,aU ts=[45]->QR W b ts.tail u->J Z 155 #[pt b] u (RO W b u (PP 6 ts.tail))) (D:∀u,QR W b ts u->J Z 201 #[pt b] u (RO W b u (PP 8 ts))) {w:Y} (X:QR W b ts w):
  J Z 155 #[pt b] w (RO W b w (PP 6 ts)):=by
 have e:PP 6 ts=if aU ts=[45] then (PP 6 ts.tail).map fun p=>(unT [45] p.1,p.2) else PP 7 ts:=aI6 upF trF ts;have e7:PP 7 ts=(PP 8 ts).map fun p=>gX p.2.length p.1 p.2:=aI7 upF trF ts;rw [e];by_cases h:aU ts=[45]
 ·rw [if_pos h];exact aL5 hn h (fun u hu=>C u h hu) X
 ·rw [if_neg h,e7];exact aL6 hn h D X
theorem aDg (g o j:Nat):(⟨g,o,none⟩:Ω).add j=⟨g,o+j,none⟩:=by unfold Addr.add;split <;> simp_all
theorem aDh {u:Y} {g o:Nat} {k n r c:Int} {s bk h:ByteArray} {fr fc:Bool} (hc:∀j x,(tcs k n s bk h r c fr fc).toList[j]? =some x->u.cell? ⟨g,o+j,none⟩=some x):
  (η 64 (.pointer (some ⟨g,o+3,none⟩))).run Z u=.ok (dL bk h r c fr fc) u:=by
 refine fM u ⟨g,o+3,none⟩ 64 [.string bk,.string h,.int .i64 r,.int .i64 c,.bool fr,.bool fc] _ (fun j v hj=> ?_) Tryz.underlying64 rfl aFJ;rw [aDg,Nat.add_assoc];refine hc (3+j) v ?_
 match j,hj with
 | 0,hj=>exact hj
 | 1,hj=>exact hj
 | 2,hj=>exact hj
 | 3,hj=>exact hj
 | 4,hj=>exact hj
 | 5,hj=>exact hj
theorem QR.first {W u:Y} {b:Nat} {t:Tk.Tok} {q:List Tk.Tok} (h:QR W b (t:: q) u):∃g o c,u.heap[b]? =some (rpO (.slice (some ⟨g,o,none⟩) (q.length+1) c) f)/\q.length+1<=c/\(∀j x,(tk t).cl[j]? =some x->u.cell? ⟨g,o+j,none⟩=some x)/\
  TS W (.slice (if c=1 then some ⟨g,o,none⟩ else some ⟨g,o+9,none⟩) q.length (c - 1)) (q.map tk):=by
 obtain⟨v,hv,hs⟩:=h.blk;rw [Φ] at hs;obtain⟨g,o,c,rfl,hlc,hcs,hts⟩:=hs.cons;rw [ω] at hv hlc hts;exact⟨g,o,c,hv,hlc,fun j x hx=>iU h.bel (hcs j x hx),hts⟩
theorem QR.rest {W u v:Y} {b:Nat} {t:Tk.Tok} {q:List Tk.Tok} {A:Option Ω} {c:Nat} (h:QR W b (t:: q) u) (hb:π u.heap.size u v) (hts:TS W (.slice A q.length c) (q.map tk)):Sq W b q u (v.setCell ⟨b,0,none⟩ (.slice A q.length c)):=by obtain⟨x,hx,_⟩:=(h.below hb).blk;refine ⟨⟨h.tab,((h.below hb).bel).setCell h.lo _,h.lo,fun y hy=>h.ok y (by simp [hy]),_,(bX hx).2.2.2.2.2 _,hts⟩,aG (bH hb) (ι _ _ _ _)⟩
abbrev rw2 (w:Y) (cs:Array R):Y:=(w.alloc (.cells cs 188)).alloc (.cells nd0 67)
theorem jJ {w:Y} {cs:Array R}:(rw2 w cs).heap[w.heap.size]? =some (.cells cs 188)/\(rw2 w cs).heap[w.heap.size+1]? =some (.cells nd0 67)/\(rw2 w cs).heap.size=w.heap.size+2/\π w.heap.size w (rw2 w cs):=by refine ⟨(γ _ _ _ (by simp)).trans (β w _), ?_,by simp,aC (aC (ζ _ _) _) _⟩;have:=β (w.alloc (.cells cs 188)) (.cells nd0 67);simpa using this
theorem RA.aEC {W w u:Y} {b:Nat} {cs es:Array R} {o:Option (T × List Tk.Tok)} (hb:b < w.heap.size) (hn:NA es) (h:RA W b (rw2 w cs) o es u):
  V ((I 67 (.pointer (some ⟨w.heap.size+1,0,none⟩)) (.agg es)).run Z u=.ok () (u.setRow (w.heap.size+1) es))/\V (u.heap[w.heap.size+1]? =some (.cells nd0 67))/\V (es.size=18)/\V (NA es)/\
  V (RA W b w o es (u.setRow (w.heap.size+1) es)):=by
 obtain⟨f0,f1,f2,f3⟩:=jJ (w:=w) (cs:=cs);have k1:=h.kept f1 (by omega);refine ⟨hn.sto k1 rfl,k1,hn.size,hn, ?_⟩;cases o with
 | none=>exact(show Sw W b (rw2 w cs) u from h).dW.dW.grown (aK _ _ _) (by omega) hb
 | some p=>
  obtain⟨h1,h2⟩:=h;exact⟨(h1.grown (aK _ _ _) (fun g e hk=>by cases e;have hk':(rw2 w cs).heap.size<=w.heap.size+1:=hk;omega)).mono (fun i hi _=>by have hi':(rw2 w cs).heap.size<=i:=hi;omega),h2.dW.dW.grown (aK _ _ _) (by omega) hb⟩
theorem RA.leaf {W w u:Y} {b:Nat} {L:List Tk.Tok} (a:Lab) (h:Sq W b L w u):RA W b w (some (tree a [],L)) (lcs a (.slice none 0 0)) u:=⟨NK.leaf,h⟩
theorem pK (a:Lab):NA (lcs a (.slice none 0 0)):=⟨_,_,_,_,rfl⟩
theorem aL8 (u:Y) (bk h:ByteArray) (r c:Int) (fr fc:Bool):(ν 67 #[(0,.int .i64 2),(3,dL bk h r c fr fc)]).run Z u=.ok (.agg (lcs ⟨2,nb,0,0,nb,bk,h,r,c,fr,fc,nb,nb,0,0,f,f⟩ (.slice none 0 0))) u:=by kernel_rfl
theorem aL9 (u:Y) (bk h:ByteArray) (r c:Int) (fr fc:Bool) (bk' h':ByteArray) (r' c':Int) (fr' fc':Bool):(ν 67 #[(0,.int .i64 3),(3,dL bk h r c fr fc),(4,dL bk' h' r' c' fr' fc')]).run Z u=.ok (.agg (lcs ⟨3,nb,0,0,nb,bk,h,r,c,fr,fc,bk',h',r',c',fr',fc'⟩ (.slice none 0 0))) u:=by kernel_rfl
theorem aMa (bk h:ByteArray) (r c:Int) (fr fc:Bool):(#[.string bk,.string h,.int .i64 r,.int .i64 c,.bool fr,.bool fc]:Array R).all (·.oneCell')=φ:=by simp [Value.oneCell']
abbrev aOA:Array R:=#[.string noB,.string noB,.int .i64 0,.int .i64 0,.bool f,.bool f]
section
variable {W w:Y} {b:Nat} {k0 n0 r1 c1:Int} {s0 b1 h1:ByteArray} {fr1 fc1:Bool}
theorem aBw {u:Y} {g:Nat} (hg:u.heap[g]? =some (.cells (tcs k0 n0 s0 b1 h1 r1 c1 fr1 fc1) 188)):(η 64 (.pointer (some ⟨g,3,none⟩))).run Z u=.ok (dL b1 h1 r1 c1 fr1 fc1) u:=by
 have:=aDh (u:=u) (g:=g) (o:=0) (k:=k0) (n:=n0) (s:=s0) (bk:=b1) (h:=h1) (r:=r1) (c:=c1) (fr:=fr1) (fc:=fc1) (fun j x hx=>by
  rw [Ψ,σ u g j _ 188 (0,0) hg,<-Array.getElem?_toList];exact hx)
 rw [Ψ] at this;exact this
theorem aJR {L:List Tk.Tok} (hn:L.length<=256) (h:aU L ≠ [58]) (X:QR W b L w):J Z 245 #[pt b,.agg (tcs k0 n0 s0 b1 h1 r1 c1 fr1 fc1)] w (RO W b w (some (tree ⟨2,nb,0,0,nb,b1,h1,r1,c1,fr1,fc1,nb,nb,0,0,f,f⟩ [],L))):=by
 have hb:=X.lt;obtain⟨f0,f1,f2,f3⟩:=jJ (w:=w) (cs:=tcs k0 n0 s0 b1 h1 r1 c1 fr1 fc1);have X2:=X.below f3;have OP:=fJ X2 hn;have hne:((ba (aU L)).toList==[58])=f:=bP h;have RL:V _:=aBw f0;have RB:V _:=aL8 (rw2 w (tcs k0 n0 s0 b1 h1 r1 c1 fr1 fc1)) b1 h1 r1 c1 fr1 fc1;obtain⟨RS,HG,HZ,HNA,HF⟩:=RA.aEC hb (pK _) (RA.leaf ⟨2,nb,0,0,nb,b1,h1,r1,c1,fr1,fc1,nb,nb,0,0,f,f⟩ (Sq.refl X2));clear X X2 h f0 f1 f2 f3;generalize lcs ⟨2,nb,0,0,nb,b1,h1,r1,c1,fr1,fc1,nb,nb,0,0,f,f⟩ (.slice none 0 0)=es at *;generalize hcs:tcs k0 n0 s0 b1 h1 r1 c1 fr1 fc1=cs at *;generalize ba (aU L)=A at *;go_enter Tryz.func245,Tryz.ntmps245;go_wp2_with (first|(go_at_call 156;refine mw OP ?_)|(refine aB rfl 64 _ rfl _ _ rfl RL.out ?_;clear RL)|(refine aL rfl 67 _ rfl _ _ (by go_simp) RB.out ?_;clear RB)|(refine aA rfl 67 _ _ rfl _ _ _ rfl rfl RS.out ?_;clear RS))
 exact H (aZ HG.out HZ.out rfl rfl) rfl ⟨_,rfl,HNA.out,HF.out⟩
theorem aJS {L:List Tk.Tok} (hn:L.length<=256) (h:aU L=[58]) (hL:L.tail=[]) (X:QR W b L w):J Z 245 #[pt b,.agg (tcs k0 n0 s0 b1 h1 r1 c1 fr1 fc1)] w (RO W b w none):=by
 have hb:=X.lt;generalize hcs:tcs k0 n0 s0 b1 h1 r1 c1 fr1 fc1=cs at *;obtain⟨f0,f1,f2,f3⟩:=jJ (w:=w) (cs:=cs);have X2:=X.below f3;have OP:J Z 156 #[pt b] (rw2 w cs) fun e w'=>e=.returned (.string ⟨#[58]⟩)/\w'=rw2 w cs:=by have:=fJ X2 hn;rw [h] at this;exact this
 have TK:J Z 157 #[pt b,.string ⟨#[58]⟩] (rw2 w cs) fun e w2=>e=.returned (.tuple #[])/\V (Sq W b [] (rw2 w cs) w2)/\∃a c,w2.cell? ⟨b,0,none⟩=some (.slice a 0 c):=(eT (s:=[58]) X2 hn (by decide) h).mono (by
  rintro e w2 ⟨rfl,h2⟩;rw [hL] at h2;obtain⟨v,hv,hs⟩:=h2.1.blk;obtain⟨a,c,rfl⟩:=hs.slice;exact⟨rfl,h2,a,c,(bX hv).1⟩)
 have FA:V (∀u,Sq W b [] (rw2 w cs) u->J Z 244 #[pt b] u fun e w3=>∃es,e=.returned (.agg es)/\V ((I 67 (.pointer (some ⟨w.heap.size+1,0,none⟩)) (.agg es)).run Z w3=.ok () (w3.setRow (w.heap.size+1) es))/\V (w3.heap[w.heap.size+1]? =some (.cells nd0 67))/\V (es.size=18)/\V (NA es)/\
  V (RA W b w none es (w3.setRow (w.heap.size+1) es))):=fun u hu=>(mM hu.1.b).mono (by
  rintro e w3 ⟨rfl,h3⟩;exact⟨nd0,rfl,RA.aEC (cs:=cs) (o:=none) hb NA.zero (hu.bad h3)⟩)
 clear X X2 h f0 f1 f2 f3 hcs;go_enter Tryz.func245,Tryz.ntmps245;go_wp2_with (first|(go_at_call 156;refine mw OP ?_)|(go_at_call 157;refine TK.mono ?_;rintro e w2 ⟨rfl,HS2,a,c,hc0⟩)|(go_at_call 244;refine (FA.out _ HS2.out).mono ?_;rintro e w3 ⟨es,rfl,RS,HG,HZ,HNA,HF⟩)|(refine aA rfl 67 _ _ rfl _ _ _ rfl rfl RS.out ?_;clear RS))
 exact H (aZ HG.out HZ.out rfl rfl) rfl ⟨_,rfl,HNA.out,HF.out⟩
theorem aJT {L q:List Tk.Tok} {t:Tk.Tok} (hn:L.length<=256) (h:aU L=[58]) (hL:L.tail=t:: q) (hk:(tk t).k ≠ 3\/((tk t).k=3/\¬(tk t).h.toList=[])) (X:QR W b L w):J Z 245 #[pt b,.agg (tcs k0 n0 s0 b1 h1 r1 c1 fr1 fc1)] w (RO W b w none):=by
 have hb:=X.lt;generalize hcs:tcs k0 n0 s0 b1 h1 r1 c1 fr1 fc1=cs at *;obtain⟨f0,f1,f2,f3⟩:=jJ (w:=w) (cs:=cs);have X2:=X.below f3;have OP:J Z 156 #[pt b] (rw2 w cs) fun e w'=>e=.returned (.string ⟨#[58]⟩)/\w'=rw2 w cs:=by have:=fJ X2 hn;rw [h] at this;exact this
 have TK:J Z 157 #[pt b,.string ⟨#[58]⟩] (rw2 w cs) fun e w2=>e=.returned (.tuple #[])/\V (Sq W b (t:: q) (rw2 w cs) w2)/\∃g o c,w2.cell? ⟨b,0,none⟩=some (.slice (some ⟨g,o,none⟩) (q.length+1) c)/\w2.cell? ⟨g,o,none⟩=some (.int .i64 (tk t).k)/\w2.cell? ⟨g,o+(3+1),none⟩=some (.string (tk t).h):=(eT (s:=[58]) X2 hn (by decide) h).mono (by
  rintro e w2 ⟨rfl,h2⟩;rw [hL] at h2;obtain⟨g,o,c,hv,_,hcc,_⟩:=h2.1.first;exact⟨rfl,h2,g,o,c,(bX hv).1,hcc 0 _ rfl,hcc 4 _ rfl⟩)
 have FA:V (∀u,Sq W b (t:: q) (rw2 w cs) u->J Z 244 #[pt b] u fun e w3=>∃es,e=.returned (.agg es)/\V ((I 67 (.pointer (some ⟨w.heap.size+1,0,none⟩)) (.agg es)).run Z w3=.ok () (w3.setRow (w.heap.size+1) es))/\V (w3.heap[w.heap.size+1]? =some (.cells nd0 67))/\V (es.size=18)/\V (NA es)/\
  V (RA W b w none es (w3.setRow (w.heap.size+1) es))):=fun u hu=>(mM hu.1.b).mono (by
  rintro e w3 ⟨rfl,h3⟩;exact⟨nd0,rfl,RA.aEC (cs:=cs) (o:=none) hb NA.zero (hu.bad h3)⟩)
 have hlq:(((q.length:Int)+1)==0)=f:=by simp;omega
 have hlt:q.length<=256:=by have:=(bB (ts:=L) h (by decide)).1;rw [hL] at this;simp at this;omega
 clear X X2 h f0 f1 f2 f3 hcs hL;generalize (tk t).k=k at *;generalize (tk t).h=hh at *;rcases hk with hk | ⟨rfl,hs⟩
 ·have hkb:(k !=3)=φ:=by simpa using hk
  clear hk;go_enter Tryz.func245,Tryz.ntmps245;go_wp2_with (first|(go_at_call 156;refine mw OP ?_)|(go_at_call 157;refine TK.mono ?_;rintro e w2 ⟨rfl,HS2,g,o,c,hc0,hk0,hk4⟩;generalize q.length=n at *)|(go_at_call 244;refine (FA.out _ HS2.out).mono ?_;rintro e w3 ⟨es,rfl,RS,HG,HZ,HNA,HF⟩)|(refine aA rfl 67 _ _ rfl _ _ _ rfl rfl RS.out ?_;clear RS))
  exact H (aZ HG.out HZ.out rfl rfl) rfl ⟨_,rfl,HNA.out,HF.out⟩
 ·have hsb:hh.toList.isEmpty=f:=by
   cases hx:hh.toList with
   | nil=>exact absurd hx hs
   | cons _ _=>rfl
  clear hs;go_enter Tryz.func245,Tryz.ntmps245;go_wp2_with (first|(go_at_call 156;refine mw OP ?_)|(go_at_call 157;refine TK.mono ?_;rintro e w2 ⟨rfl,HS2,g,o,c,hc0,hk0,hk4⟩;generalize q.length=n at *)|(go_at_call 244;refine (FA.out _ HS2.out).mono ?_;rintro e w3 ⟨es,rfl,RS,HG,HZ,HNA,HF⟩)|(refine aA rfl 67 _ _ rfl _ _ _ rfl rfl RS.out ?_;clear RS))
  exact H (aZ HG.out HZ.out rfl rfl) rfl ⟨_,rfl,HNA.out,HF.out⟩
theorem aJU {L q:List Tk.Tok} {t:Tk.Tok} (hn:L.length<=256) (h:aU L=[58]) (hL:L.tail=t:: q) (hk:(tk t).k=3) (hs:(tk t).h.toList=[]) (X:QR W b L w):J Z 245 #[pt b,.agg (tcs k0 n0 s0 b1 h1 r1 c1 fr1 fc1)] w
  (RO W b w (some (tree ⟨3,nb,0,0,nb,b1,h1,r1,c1,fr1,fc1,(tk t).b,(tk t).h,(tk t).r,(tk t).c,(tk t).fr,(tk t).fc⟩ [],q))):=by
 have hb:=X.lt;obtain⟨f0,f1,f2,f3⟩:=jJ (w:=w) (cs:=tcs k0 n0 s0 b1 h1 r1 c1 fr1 fc1);have X2:=X.below f3;have OP:J Z 156 #[pt b] (rw2 w (tcs k0 n0 s0 b1 h1 r1 c1 fr1 fc1)) fun e w'=>e=.returned (.string ⟨#[58]⟩)/\w'=rw2 w (tcs k0 n0 s0 b1 h1 r1 c1 fr1 fc1):=by have:=fJ X2 hn;rw [h] at this;exact this
 have hlq:(((q.length:Int)+1)==0)=f:=by simp;omega
 have hlt:q.length<=256:=by have:=(bB (ts:=L) h (by decide)).1;rw [hL] at this;simp at this;omega
 have TK:J Z 157 #[pt b,.string ⟨#[58]⟩] (rw2 w (tcs k0 n0 s0 b1 h1 r1 c1 fr1 fc1)) fun e w2=>e=.returned (.tuple #[])/\∃g o c A,w2.cell? ⟨b,0,none⟩=some (.slice (some ⟨g,o,none⟩) (q.length+1) c)/\w2.cell? ⟨g,o,none⟩=some (.int .i64 (tk t).k)/\w2.cell? ⟨g,o+(3+1),none⟩=some (.string (tk t).h)/\q.length+1<=c/\
   (if c=1 then some (⟨g,o,none⟩:Ω) else some ⟨g,o+9,none⟩)=A/\
   V ((η 64 (.pointer (some ⟨g,o+3,none⟩))).run Z w2=.ok (dL (tk t).b (tk t).h (tk t).r (tk t).c (tk t).fr (tk t).fc) w2)/\
   V ((I 64 (pt w2.heap.size) (dL (tk t).b (tk t).h (tk t).r (tk t).c (tk t).fr (tk t).fc)).run Z (w2.alloc (.cells aOA 64))=.ok () (w2.alloc (dV (tk t).b (tk t).h (tk t).r (tk t).c (tk t).fr (tk t).fc)))/\
   (w2.alloc (dV (tk t).b (tk t).h (tk t).r (tk t).c (tk t).fr (tk t).fc)).cell? ⟨b,0,none⟩=some (.slice (some ⟨g,o,none⟩) (q.length+1) c)/\(w2.alloc (dV (tk t).b (tk t).h (tk t).r (tk t).c (tk t).fr (tk t).fc)).frozen? ⟨b,0,none⟩=f/\
   ∃w5,(w2.alloc (dV (tk t).b (tk t).h (tk t).r (tk t).c (tk t).fr (tk t).fc)).setCell ⟨b,0,none⟩ (.slice A q.length (c - 1))=w5/\
   V ((η 64 (.pointer (some ⟨w.heap.size,3,none⟩))).run Z w5=.ok (dL b1 h1 r1 c1 fr1 fc1) w5)/\V ((η 64 (pt w2.heap.size)).run Z w5=.ok (dL (tk t).b (tk t).h (tk t).r (tk t).c (tk t).fr (tk t).fc) w5)/\
   V (Sq W b q (rw2 w (tcs k0 n0 s0 b1 h1 r1 c1 fr1 fc1)) w5):=(eT (s:=[58]) X2 hn (by decide) h).mono (by
  rintro e w2 ⟨rfl,h2⟩;rw [hL] at h2;obtain⟨g,o,c,hv,hlc,hcc,hts⟩:=h2.1.first;have hz2:=h2.2.size;have B3:π w2.heap.size w2 (w2.alloc (dV (tk t).b (tk t).h (tk t).r (tk t).c (tk t).fr (tk t).fc)):=aC (ζ _ _) _;have hv3:=(B3.block _ (bA hv)).trans hv;have G5:=ι (w2.alloc (dV (tk t).b (tk t).h (tk t).r (tk t).c (tk t).fr (tk t).fc)) b 0 (.slice (if c=1 then some ⟨g,o,none⟩ else some ⟨g,o+9,none⟩) q.length (c - 1));have hR:=h2.1.rest B3 hts;have hk0:=h2.kept f0 (by omega);have hk3:=(B3.block _ (bA hk0)).trans hk0;refine ⟨rfl,g,o,c,_,(bX hv).1,hcc 0 _ rfl,hcc 4 _ rfl,hlc,rfl,aDh (fun j x hx=>hcc j x hx),τ w2 64 aOA _ aFJ rfl (aMa _ _ _ _ _ _),(bX hv3).1,(bX hv3).2.2.1,_,rfl, ?_, ?_,h2.step hR⟩
  ·exact aBw ((G5.block _ (bA hk3) (by intro e;have:=α e;omega)).trans hk3)
  ·exact lod (z:=(0,0)) ((G5.block _ (by simp) (by intro e;have:=α e;have:=bA hv;omega)).trans (β _ _)) rfl Tryz.underlying64 aFJ)
 have FIN:V (∀u,Sq W b q (rw2 w (tcs k0 n0 s0 b1 h1 r1 c1 fr1 fc1)) u->_):=fun u hu=>RA.aEC hb (pK _) (RA.leaf ⟨3,nb,0,0,nb,b1,h1,r1,c1,fr1,fc1,(tk t).b,(tk t).h,(tk t).r,(tk t).c,(tk t).fr,(tk t).fc⟩ hu);have RB:V _:=fun u=>aL9 u b1 h1 r1 c1 fr1 fc1 (tk t).b (tk t).h (tk t).r (tk t).c (tk t).fr (tk t).fc;clear X X2 h f0 f1 f2 f3 hL;generalize tk t=tt at *;obtain⟨k,n,s,bk,hh,r,c,fr,fc⟩:=tt;dsimp only at *;subst hk;have hsb:hh.toList.isEmpty=φ:=by rw [hs];rfl
 clear hs;generalize lcs ⟨3,nb,0,0,nb,b1,h1,r1,c1,fr1,fc1,bk,hh,r,c,fr,fc⟩ (.slice none 0 0)=es at *;generalize hcs:tcs k0 n0 s0 b1 h1 r1 c1 fr1 fc1=cs at *;clear hcs;go_enter Tryz.func245,Tryz.ntmps245;go_wp2_with (first|(go_at_call 156;refine mw OP ?_)|(go_at_call 157;refine TK.mono ?_;rintro e w2 ⟨rfl,g,o,cc,A,hc0,hk0,hk4,hlc,hA,RT,aOB,hc3,hf3,w5,hw5,RL5,RM5,HS5⟩;obtain⟨RS,HG,HZ,HNA,HF⟩:=FIN.out _ HS5.out;generalize q.length=n at *)|(refine aB rfl 64 _ rfl _ _ rfl RT.out ?_;clear RT)|(refine aA rfl 64 _ _ rfl _ _ _ rfl rfl aOB.out ?_;clear aOB)|(refine aB rfl 64 _ rfl _ _ rfl RL5.out ?_;clear RL5)|(refine aB rfl 64 _ rfl _ _ rfl RM5.out ?_;clear RM5)|(refine aL rfl 67 _ rfl _ _ (by go_simp) (RB.out _) ?_)|(refine aA rfl 67 _ _ rfl _ _ _ rfl rfl RS.out ?_;clear RS))
 exact H (aZ HG.out HZ.out rfl rfl) rfl ⟨_,rfl,HNA.out,HF.out⟩
end
theorem aJV {W w:Y} {b:Nat} (x:Ad.Ref) {L:List Tk.Tok} (hn:L.length<=256) (X:QR W b L w):J Z 245 #[pt b,.agg (tk (Tk.Tok.ref x)).cs] w (RO W b w (aBr x L)):=by
 unfold aBr;by_cases h:aU L=[58]
 ·rw [if_pos h];cases hL:L.tail with
  | nil=>exact aJS hn h hL X
  | cons t q=>
   have no:((tk t).k ≠ 3\/((tk t).k=3/\¬(tk t).h.toList=[]))->J Z 245 #[pt b,.agg (tk (Tk.Tok.ref x)).cs] w (RO W b w none):=fun hne=>aJT hn h hL hne X;cases t using Tk.Tok.cs with
   | ref y=>
    simp only;by_cases hy:y.fA=[]
    ·rw [if_pos hy];exact aJU hn h hL rfl (by rw [μ];exact hy) X
    ·rw [if_neg hy];exact no (.inr ⟨rfl,fun e=>hy (by rw [μ] at e;exact e)⟩)
   | num n=>exact no (.inl (by simp [tk]))
   | str n=>exact no (.inl (by simp [tk]))
   | word n m=>exact no (.inl (by simp [tk]))
   | op n=>exact no (.inl (by simp [tk]))
   | bad n=>exact no (.inl (by simp [tk]))
 ·rw [if_neg h];exact aJR hn h X
theorem wp_append_run {P:Program} {o:Oper} {a:Act} {w w':Y} {K:Act->Y->Prop} {Q:Exit->Act->Y->Prop} (d:Option Tmp) (hd:o.dst=d) (ty:TypeId) (hty:o.type=ty) (s x:Operand) (t:TypeId)
  (ho:o.op=.call { callee:=.builtin .append,args:=#[s,x],argTypes:=#[t,t] }) (v bv v':R) (hs:a.eval s=v) (hx:a.eval x=bv) (hrun:(Builtin.append_ #[t,t] ty #[v,bv]).run P w=.ok v' w')
  (h:K (a.put d v') w'):Oper.wp P o a w K Q:=by
 subst hd hty;unfold Oper.wp;simp [execOp,ho,resolve,invoke,builtin,hs,hx,hrun,Result.andThen];exact h
theorem aDi {u:Y} {g o:Nat} {a:Option Ω} {n c:Nat} {old:R} (hc:u.cell? ⟨g,o,none⟩=some old) (hf:u.frozen? ⟨g,o,none⟩=f):(I 65 (.pointer (some ⟨g,o,none⟩)) (.slice a n c)).run Z u=.ok () (u.setCell ⟨g,o,none⟩ (.slice a n c)):=by have h1:=Tryz.underlying65;have h2:=Tryz.isAgg65;have h3:=Tryz.sizeOf65;go_simp
theorem aG0 {base:Nat} {w:Y} {v:R} {L:List (Array R × T)} (h:oD base w v L) {es:Array R} {t:T} (hN:NA es) {g:Nat} (hg:w.heap[g]? =some (.cells es 67)) (hn:L.length<=100000) (hbase:base<=w.heap.size):
  ∃v' w',V ((Builtin.append_ #[65,65] 65 #[v,.slice (some ⟨g,0,none⟩) 1 1]).run Z w=.ok v' w')/\oD base w' v' (L++ [(es,t)])/\w.grownBy w' v.ownBlock/\(v'.ownBlock=v.ownBlock\/v'.ownBlock=some w.heap.size):=by
 obtain⟨i0,hi,hz0,hz1,hz2⟩:=info_parts aI9;have hz:=hN.size;obtain⟨v',w',r1,o1,g1,_,g2⟩:=run_append_own_at w base 65 65 67 i0 _ 18 192 Tryz.underlying65 hi hz0 hz1 hz2 rfl (by decide) v _ _ h ⟨g,0,none⟩ 1 1 es.toList (by simp [hz])
  (fun j x hj=>by rw [aDg,Ψ,σ w g j _ _ _ hg,<-hj];simp) (by
   have:=hN.one;intro x hx;rw [Array.all_eq_true_iff_forall_mem] at this;exact this x (by simpa using hx)) (by simp only [maxLen];omega) (by omega) hbase
 refine ⟨v',w',r1, ?_,g1,g2⟩;unfold oD;rw [List.length_append,List.flatMap_append];simpa using o1
def goF (acc:List T) (r:List Tk.Tok):Option (List T × List Tk.Tok):=
 (PP 1 r).bind fun p=>(dX (PP 1) (p.2.length+1) (acc++ [p.1]) p.2).bind fun q=>if q.1.length<=16 then some q else none
theorem aOC {ts:List Tk.Tok} (h:aU ts ≠ [41]):AA ts=goF [] ts:=by unfold AA goF;rw [if_neg h];rfl
theorem aJW {acc:List T} {r:List Tk.Tok} {p:T × List Tk.Tok} (hp:PP 1 r=some p) (h':aU p.2=[44]):goF acc r=goF (acc++ [p.1]) p.2.tail:=by
 have h:aU p.2 ≠ [41]:=by rw [h'];decide
 unfold goF;rw [hp,χ,yO h h'];cases PP 1 p.2.tail with
 | none=>rfl
 | some q=>rfl
theorem aJX {acc:List T} {r:List Tk.Tok} {p:T × List Tk.Tok} (hp:PP 1 r=some p) (h:aU p.2=[41]):goF acc r=if (acc++ [p.1]).length<=16 then some (acc++ [p.1],p.2.tail) else none:=by unfold goF;rw [hp,χ,yN h,χ]
theorem aNF {acc:List T} {r:List Tk.Tok} {p:T × List Tk.Tok} (hp:PP 1 r=some p) (h:aU p.2 ≠ [41]) (h':aU p.2 ≠ [44]):goF acc r=none:=by unfold goF;rw [hp,χ,aC6 h h'];rfl
theorem aMb {acc:List T} {r:List Tk.Tok} (hp:PP 1 r=none):goF acc r=none:=by unfold goF;rw [hp];rfl
structure CI (W:Y) (b:Nat) (w:Y) (S:ByteArray) (v:R) (L:List (Array R × T)) (u:Y):Prop where
 box:u.heap[w.heap.size+1]? =some (.cells (lcs (bN 7 S) v) 67)
 res:u.heap[w.heap.size]? =some (.cells nd0 67)
 own:oD (w.heap.size+2) u v L
 grow:w.grownBy u (some b)
theorem CI.cells {W w u:Y} {b:Nat} {S:ByteArray} {v:R} {L:List (Array R × T)} (h:CI W b w S v L u):u.cell? ⟨w.heap.size+1,17,none⟩=some v/\u.frozen? ⟨w.heap.size+1,17,none⟩=f:=⟨qU h.box,by unfold Γ;rw [h.box];rfl⟩
theorem aOD {u:Y} {g:Nat} {a:Lab} {v v':R} (h:u.heap[g]? =some (.cells (lcs a v) 67)):(u.setCell ⟨g,17,none⟩ v').heap[g]? =some (.cells (lcs a v') 67):=by simp [Θ,ψ,h];rfl
abbrev mS (W:Y) (b:Nat) (w:Y) (o2:Option (T × List Tk.Tok)) (P:T->Prop) (u:Y):Prop:=match o2 with
 | none=>Sw W b w u
 | some p=>Sq W b p.2 w u/\P p.1
theorem CI.more {W w wr u w3:Y} {b:Nat} {S:ByteArray} {a:Option Ω} {n c:Nat} {L:List (Array R × T)} {es2:Array R} {o2:Option (T × List Tk.Tok)} (h:CI W b w S (.slice a n c) L wr) (hb:b < w.heap.size) (hL:L.length<=1000) (hd:wr.drew=u) (hn:NA es2) (h3:RA W b u o2 es2 w3) (t:T):
  V ((ξ 65 1 #[(0,.agg es2)]).run Z w3=.ok (.slice (some ⟨w3.heap.size,0,none⟩) 1 1) (w3.alloc (.cells es2 67)))/\
  ∃a' n' c' w5,V ((Builtin.append_ #[65,65] 65 #[.slice a n c,.slice (some ⟨w3.heap.size,0,none⟩) 1 1]).run Z (w3.alloc (.cells es2 67))=.ok (.slice a' n' c') w5)/\n'=L.length+1/\
   V ((I 65 (.pointer (some ⟨w.heap.size+1,17,none⟩)) (.slice a' n' c')).run Z w5=.ok () (w5.setCell ⟨w.heap.size+1,17,none⟩ (.slice a' n' c')))/\
   V (w3.cell? ⟨w.heap.size+1,17,none⟩=some (.slice a n c))/\V ((w3.alloc (.cells es2 67)).cell? ⟨w.heap.size+1,17,none⟩=some (.slice a n c))/\V (w5.cell? ⟨w.heap.size+1,17,none⟩=some (.slice a n c))/\
   V (CI W b w S (.slice a' n' c') (L++ [(es2,t)]) (w5.setCell ⟨w.heap.size+1,17,none⟩ (.slice a' n' c')))/\
   V (mS W b w o2 (fun m=>(∀x ∈ L,NK (fun i=>w.heap.size+2<=i/\(θ a n c).ownBlock ≠ some i) wr x.1 x.2)->t=m->∀x ∈ L++ [(es2,t)],NK (fun i=>w.heap.size+2<=i/\(θ a' n' c').ownBlock ≠ some i) (w5.setCell ⟨w.heap.size+1,17,none⟩ (.slice a' n' c')) x.1 x.2) (w5.setCell ⟨w.heap.size+1,17,none⟩ (.slice a' n' c'))):=by
 subst hd;have hbx:=bA h.box;have hs3:wr.heap.size<=w3.heap.size:=h3.grow.size;have B3:w3.heap[w.heap.size+1]? =some (.cells (lcs (bN 7 S) (.slice a n c)) 67):=h3.kept (w:=wr.drew) h.box (by omega);have R3:w3.heap[w.heap.size]? =some (.cells nd0 67):=h3.kept (w:=wr.drew) h.res (by omega);have hob:=wF h.own (show b < w.heap.size+2 by omega);have aPF:oD (w.heap.size+2) w3 (.slice a n c) L:=jH h.own (show wr.grownBy w3 (some b) from aG (bH (ζ _ _).drew) h3.grow) hob;have B4:(w3.alloc (.cells es2 67)).heap[w.heap.size+1]? =some (.cells (lcs (bN 7 S) (.slice a n c)) 67):=(γ _ _ _ (by omega)).trans B3;have R4:(w3.alloc (.cells es2 67)).heap[w.heap.size]? =some (.cells nd0 67):=(γ _ _ _ (by omega)).trans R3;have aPG:=jH aPF (ο w3 (.cells es2 67) none) (by cases (θ a n c).ownBlock <;> simp);obtain⟨v',w5,RA5,o5,g5,g6⟩:=aG0 (t:=t) aPG hn (g:=w3.heap.size) (β _ _) (by omega) (by simp;omega);obtain⟨a',c',rfl⟩:=nD o5;have aBq:∀g,(θ a n c).ownBlock=some g->w.heap.size+2<=g/\g < wr.heap.size:=fun g hg=>World.ownsRow.lt h.own g hg;have hne1:(θ a n c).ownBlock ≠ some (w.heap.size+1):=fun e=>by have:=(aBq _ e).1;omega
 have hne0:(θ a n c).ownBlock ≠ some w.heap.size:=fun e=>by have:=(aBq _ e).1;omega
 have B5:w5.heap[w.heap.size+1]? =some (.cells (lcs (bN 7 S) (.slice a n c)) 67):=(g5.block _ (bA B4) (Ne.symm hne1)).trans B4;have R5:w5.heap[w.heap.size]? =some (.cells nd0 67):=(g5.block _ (bA R4) (Ne.symm hne0)).trans R4;have hf5:w5.frozen? ⟨w.heap.size+1,17,none⟩=f:=by unfold Γ;rw [B5];rfl
 have G6:=ι w5 (w.heap.size+1) 17 (.slice a' (L++ [(es2,t)]).length c');have aPH:∀g,(θ a' (L++ [(es2,t)]).length c').ownBlock=some g->w.heap.size+2<=g:=fun g hg=>(World.ownsRow.lt o5 g hg).1;have gr3:w.grownBy w3 (some b):=aG h.grow (aG (bH (ζ _ _).drew) h3.grow);have gr4:w.grownBy (w3.alloc (.cells es2 67)) (some b):=aG gr3 (ο _ _ _);have gr5:w.grownBy w5 (some b):=ρ gr4 g5 (fun j e=> .inl (by have:=(aBq j e).1;omega));have gr6:w.grownBy (w5.setCell ⟨w.heap.size+1,17,none⟩ (.slice a' (L++ [(es2,t)]).length c')) (some b):=ρ gr5 G6 (fun j e=>by cases e;exact .inl (by omega));have st:∀{M:Y->Prop},True:=fun {M}=>trivial;refine ⟨aEB hn,a',_,c',w5,RA5,by simp,aDi (qU B5) hf5,qU B3,qU B4,qU B5,⟨aOD B5,(G6.block _ (bA R5) (by intro e;have:=α e;omega)).trans R5, ?_,gr6⟩, ?_⟩
 ·refine jH o5 G6 (.inr fun e=> ?_);have:=aPH _ e;omega
 ·cases o2 with
  | none=>
   have h3':Sw W b wr.drew w3:=h3;show Sw W b w _;have q4:=h3'.1.below (aC (ζ _ _) (.cells es2 67));have hlo:=h3'.1.lo;have q5:QW W b w5:=q4.grown g5 (fun k e=>by have:=(aBq k e).1;exact⟨by omega,by omega⟩);exact⟨q5.grown G6 (fun k e=>by cases e;exact⟨by omega,by omega⟩),gr6⟩
  | some p=>
   obtain⟨h1,h2⟩:=h3;have q4:=h2.1.below (aC (ζ _ _) (.cells es2 67));have hlo:=h2.1.lo;have q5:QR W b p.2 w5:=q4.grown g5 (fun k e=>by have:=(aBq k e).1;exact⟨by omega,by omega⟩);refine ⟨⟨q5.grown G6 (fun k e=>by cases e;exact⟨by omega,by omega⟩),gr6⟩,fun HN ht x hx=> ?_⟩;have base:NK (fun i=>w.heap.size+2<=i/\(θ a n c).ownBlock ≠ some i/\i < w3.heap.size) (w3.alloc (.cells es2 67)) x.1 x.2:=by
    refine NK.below ?_ (aC (ζ _ _) _);rcases List.mem_append.1 hx with hx | hx
    ·exact ((HN x hx).grown (show wr.grownBy w3 (some b) from aG (bH (ζ _ _).drew) h2.2) (fun g e hk=>by cases e;have:=hk.1;omega)).mono (fun i hi hl=>⟨hi.1,hi.2,hl⟩)
    ·simp only [Ξ,Δ,or_false] at hx;subst hx;subst ht;exact h1.mono (fun i hi hl=>⟨by have hi':wr.heap.size<=i:=hi;omega,fun e=>by have:=(aBq i e).2;have hi':wr.heap.size<=i:=hi;omega,hl⟩)
   refine ((base.grown g5 (fun g e hk=>hk.2.1 e)).mono (K':=fun i=>w.heap.size+2<=i/\(θ a' (L++ [(es2,t)]).length c').ownBlock ≠ some i) (fun i hi _=>⟨hi.1,fun e=> ?_⟩)).grown G6 (fun g e hk=>by cases e;have:=hk.1;omega);rcases g6 with g6 | g6
   ·exact hi.2.1 (by rw [<-g6];exact e)
   ·rw [g6] at e;have:=α e;have:=hi.2.2;simp at *;omega
theorem CI.fin {W w u:Y} {b:Nat} {S:ByteArray} {v:R} {L:List (Array R × T)} (h:CI W b w S v L u):V ((η 67 (.pointer (some ⟨w.heap.size+1,0,none⟩))).run Z u=.ok (.agg (lcs (bN 7 S) v)) u)/\V ((I 67 (pt w.heap.size) (.agg (lcs (bN 7 S) v))).run Z u=.ok () (u.setRow w.heap.size (lcs (bN 7 S) v)))/\V (u.heap[w.heap.size]? =some (.cells nd0 67))/\V ((lcs (bN 7 S) v).size=18)/\V (NA (lcs (bN 7 S) v)):=by
 obtain⟨a,c,rfl⟩:=nD h.own;have hn:NA (lcs (bN 7 S) (.slice a L.length c)):=⟨_,_,_,_,rfl⟩
 exact⟨hn.lod h.box,hn.sto h.res rfl,h.res,rfl,hn⟩
theorem CI.good {W w u:Y} {b:Nat} {S:ByteArray} {a:Option Ω} {n c:Nat} {L:List (Array R × T)} {r:List Tk.Tok} (h:CI W b w S (.slice a n c) L u) (hb:b < w.heap.size) (hN:∀x ∈ L,NK (fun i=>w.heap.size+2<=i/\(θ a n c).ownBlock ≠ some i) u x.1 x.2) (hS:Sq W b r w u):
  RA W b w (some (tree (bN 7 S) (L.map (·.2)),r)) (lcs (bN 7 S) (.slice a n c)) (u.setRow w.heap.size (lcs (bN 7 S) (.slice a n c))):=by
 have G:=aK u w.heap.size (lcs (bN 7 S) (.slice a n c));refine ⟨?_,hS.grown G (κ _) hb⟩;obtain⟨a2,c2,e⟩:=nD h.own;cases e
 have hr:=aC5 (K:=fun i=>w.heap.size < i) h.own (fun x hx=>(hN x hx).mono (fun i hi _=>by have:=hi.1;omega)) (fun g hg=>by have:=(World.ownsRow.lt h.own g hg).1;omega);refine ⟨a,L.length,c,rfl, ?_, ?_⟩
 ·show L.length=(kids (Go.Fm.mk (L.map (·.2)))).length;rw [sV,ω]
 ·rcases hr with rfl | ⟨a',rfl,hi⟩
  ·exact .inl rfl
  ·exact .inr ⟨a',rfl,(hi.grown G (fun g e hk=>by cases e;exact Nat.lt_irrefl _ hk)).mono (fun i hi _=>Nat.le_of_lt hi)⟩
abbrev cw0 (w:Y) (S:ByteArray):Y:=(w.alloc (.cells nd0 67)).alloc (.cells (lcs (bN 7 S) (.slice none 0 0)) 67)
theorem aAM (w:Y) (S:ByteArray) (b:Nat) (W:Y):CI W b w S (.slice none 0 0) [] (cw0 w S)/\π w.heap.size w (cw0 w S)/\(I 67 (.pointer (some ⟨w.heap.size+1,0,none⟩)) (.agg (lcs (bN 7 S) (.slice none 0 0)))).run Z ((w.alloc (.cells nd0 67)).alloc (.cells nd0 67))=.ok () (cw0 w S):=by
 have hz:(w.alloc (.cells nd0 67)).heap.size=w.heap.size+1:=by simp
 have hB:π w.heap.size w (cw0 w S):=aC (aC (ζ _ _) _) _;refine ⟨⟨?_,(γ _ _ _ (by simp)).trans (β w _),World.ownsRow_nil _ _ _ _,bH hB⟩,hB, ?_⟩
 ·have:=β (w.alloc (.cells nd0 67)) (.cells (lcs (bN 7 S) (.slice none 0 0)) 67);rw [hz] at this;exact this
 ·have:=τ (P:=Z) (w.alloc (.cells nd0 67)) 67 nd0 (lcs (bN 7 S) (.slice none 0 0)) (by rw [fE];exact iO) rfl (nC _ _ _ _);rw [hz] at this;exact this
theorem aFQ (u:Y) (S:ByteArray):(ν 67 #[(0,.int .i64 7),(1,.string S)]).run Z u=.ok (.agg (lcs (bN 7 S) (.slice none 0 0))) u:=by kernel_rfl
theorem CI.keep {W w u u':Y} {b:Nat} {S:ByteArray} {v:R} {L:List (Array R × T)} (h:CI W b w S v L u) (hb:b < w.heap.size) (hg:u.grownBy u' (some b)):CI W b w S v L u':=
 ⟨(hg.block _ (bA h.box) (by intro e;have:=α e;omega)).trans h.box,(hg.block _ (bA h.res) (by intro e;have:=α e;omega)).trans h.res,jH h.own hg (wF h.own (by omega)),aG h.grow hg⟩
theorem CI.bad {W w u:Y} {b:Nat} {S:ByteArray} {v:R} {L:List (Array R × T)} (h:CI W b w S v L u) (hb:b < w.heap.size) (hS:Sw W b w u):RA W b w none (lcs (bN 7 S) v) (u.setRow w.heap.size (lcs (bN 7 S) v)):=hS.grown (aK _ _ _) (κ _) hb
theorem CI.fail {W w u u':Y} {b:Nat} {S:ByteArray} {v:R} {L:List (Array R × T)} (h:CI W b w S v L u) (hb:b < w.heap.size) (hX:Sw W b u u'):V ((I 67 (pt w.heap.size) (.agg nd0)).run Z u'=.ok () (u'.setRow w.heap.size nd0))/\V (u'.heap[w.heap.size]? =some (.cells nd0 67))/\V (RA W b w none nd0 (u'.setRow w.heap.size nd0)):=by
 have hr:u'.heap[w.heap.size]? =some (.cells nd0 67):=hX.kept h.res (by omega);have hS:Sw W b w u':=⟨hX.1,aG h.grow hX.2⟩
 exact⟨NA.zero.sto hr rfl,hr,hS.grown (aK _ _ _) (κ _) hb⟩
theorem aG1 {W:Y} {b:Nat} {S:ByteArray} {L:List Tk.Tok} (hn:L.length<=256) (h40:aU L=[40]) (h41:aU L.tail=[41]) {w:Y} (X:QR W b L w):
  J Z 270 #[pt b,.string S] w (RO W b w (some (tree (bN 7 S) [],L.tail.tail))):=by
 have hb:=X.lt;have hl1:=(bB (ts:=L) h40 (by decide)).1;obtain⟨hC,hB,hR⟩:=aAM w S b W;have RB:V _:=aFQ (w.alloc (.cells nd0 67)) S;have RS0:V _:=hR;have TK1:J Z 157 #[pt b,.string ⟨#[40]⟩] (cw0 w S) fun e w'=>e=.returned (.tuple #[])/\Sq W b L.tail (cw0 w S) w':=eT (s:=[40]) (X.below hB) hn (by decide) h40;have OP:V (∀u,Sq W b L.tail (cw0 w S) u->CW 156 #[pt b] u (.string ⟨#[41]⟩)):=fun u hu=>by have:=fJ hu.1 (by omega);rw [h41] at this;exact this
 have TK2:V (∀u,Sq W b L.tail (cw0 w S) u->J Z 157 #[pt b,.string ⟨#[41]⟩] u fun e w'=>e=.returned (.tuple #[])/\V (CI W b w S (.slice none 0 0) [] w')/\V (RA W b w (some (tree (bN 7 S) [],L.tail.tail)) (lcs (bN 7 S) (.slice none 0 0)) (w'.setRow w.heap.size (lcs (bN 7 S) (.slice none 0 0))))):=fun u hu=>(eT (s:=[41]) hu.1 (by omega) (by decide) h41).mono (by
  rintro e w' ⟨rfl,h2⟩;have hc:=(hC.keep hb hu.2).keep hb h2.2;refine ⟨rfl,hc, ?_⟩;exact hc.good (L:=[]) hb (fun x hx=>by cases hx) ⟨h2.1,hc.grow⟩)
 clear X h40 h41 hC hB hR;go_enter Tryz.func270,Tryz.ntmps270;go_wp2_with (first|(refine aL rfl 67 _ rfl _ _ (by go_simp) RB.out ?_;clear RB)|(refine aA rfl 67 _ _ rfl _ _ _ rfl rfl RS0.out ?_;clear RS0)|(go_at_call 157;refine TK1.mono ?_;rintro e w1 ⟨rfl,hw⟩;have HS1:V (Sq W b L.tail (cw0 w S) w1):=hw;clear hw TK1)|(go_at_call 156;refine mw (OP.out _ HS1.out) ?_)|(go_at_call 157;refine (TK2.out _ HS1.out).mono ?_;rintro e w2 ⟨rfl,HC,HF⟩;obtain⟨RL,RS,HG,HZ,HNA⟩:=HC.out.fin)|(refine aB rfl 67 _ rfl _ _ rfl RL.out ?_;clear RL)|(refine aA rfl 67 _ _ rfl _ _ _ rfl rfl RS.out ?_;clear RS))
 exact H (aZ HG.out HZ.out rfl rfl) rfl ⟨_,rfl,HNA.out,HF.out⟩
theorem aED {W:Y} {b:Nat} {S:ByteArray} {L0:List Tk.Tok} (hn:L0.length<=256) (h40:aU L0=[40]) (h41:aU L0.tail ≠ [41]) {w:Y} (X:QR W b L0 w)
  (C:∀ts' u,ts'.length<=L0.tail.length->QR W b ts' u->J Z 109 #[pt b,.int .i64 1] u (RO W b u (PP 1 ts'))):
  J Z 270 #[pt b,.string S] w (RO W b w ((goF [] L0.tail).map fun q=>(tree (bN 7 S) q.1,q.2))):=by
 have hb:=X.lt;have hl1:=(bB (ts:=L0) h40 (by decide)).1;obtain⟨hC,hB,hR⟩:=aAM w S b W;have RB:V _:=aFQ (w.alloc (.cells nd0 67)) S;have RS0:V _:=hR;have hts:L0.tail.length<=255:=by omega
 have TK1:J Z 157 #[pt b,.string ⟨#[40]⟩] (cw0 w S) fun e w'=>e=.returned (.tuple #[])/\V (CI W b w S (.slice none 0 0) [] w')/\V (Sq W b L0.tail w w'):=(eT (s:=[40]) (X.below hB) hn (by decide) h40).mono (by
  rintro e w' ⟨rfl,h2⟩;have hc:=hC.keep hb h2.2;exact⟨rfl,hc,h2.1,hc.grow⟩)
 have OP0:V (∀u,Sq W b L0.tail w u->CW 156 #[pt b] u (.string (ba (aU L0.tail)))):=fun u hu=>fJ hu.1 (by omega);have hne:((ba (aU L0.tail)).toList==[41])=f:=bP h41;generalize ho:goF [] L0.tail=o;have HO:V (goF [] L0.tail=o):=ho;have HC:V (∀ts' u,ts'.length<=L0.tail.length->QR W b ts' u->J Z 109 #[pt b,.int .i64 1] u (RO W b u (PP 1 ts'))):=C;clear ho C X h40 h41 hC hB hR hn hl1;generalize L0.tail=ts at *;generalize ba (aU ts)=A at *;go_enter Tryz.func270,Tryz.ntmps270;go_wp2_with (first|(refine aL rfl 67 _ rfl _ _ (by go_simp) RB.out ?_;clear RB)|(refine aA rfl 67 _ _ rfl _ _ _ rfl rfl RS0.out ?_;clear RS0)|(go_at_call 157;refine TK1.mono ?_;rintro e w1 ⟨rfl,HC1,HS1⟩;clear TK1)|(go_at_call 156;refine mw (OP0.out _ HS1.out) ?_))
 clear OP0 hne;try simp only [υ,E,δ,ε]
 go_loopw [] (fun wr=>∃(L:List (Array R × T)) (r:List Tk.Tok) (a:Option Ω) (n c:Nat),V (goF (L.map (·.2)) r=o)/\L.length+r.length<=255/\r.length<=ts.length/\V (CI W b w S (.slice a n c) L wr)/\V (∀x ∈ L,NK (fun i=>w.heap.size+2<=i/\(θ a n c).ownBlock ≠ some i) wr x.1 x.2)/\V (Sq W b r w wr)) (fun wr=>nM b wr)
 case atStart=>exact⟨[],ts,none,0,0,HO,by simp;omega,κ _,HC1,fun x hx=>(by cases hx),HS1⟩
 case round=>
  obtain⟨L,r,a,n,c,HL,hlen,hr,HCI,HN,HS⟩:=hrel;clear HO HC1 HS1;have hnot:wr.cell? ⟨b,1,none⟩=some (.bool f):=HS.out.1.not;have hleft:=HS.out.1.left;have hc17:=HCI.out.cells.1;have HRT:V (∀p,PP 1 r=some p->p.2.length < r.length):=fun p hp=>jC upF trF (by omega) _ p.1 p.2 hp;have C1:J Z 109 #[pt b,.int .i64 1] wr.drew fun e w3=>∃es2,e=.returned (.agg es2)/\NA es2/\RA W b wr.drew (PP 1 r) es2 w3:=HC.out r wr.drew hr HS.out.1.drew;go_wp2;refine aO (fun u=>u.cell? ⟨w.heap.size+1,17,none⟩=some (.slice a n c)) (fun j=>j==7) (by kernel_rfl) ?_;have aML:wr.drew.cell? ⟨w.heap.size+1,17,none⟩=some (.slice a n c):=hc17;refine dwp 0 (.pointer (some ⟨w.heap.size+1,17,none⟩)) ?_;refine dwl 1 (.slice a n c) ?_ (hS:=aML) (hy:=(fun u hSu=>by have h1:=hSu;go_simp));refine dwp 2 (pt b) ?_;refine aH (i:=3) (by kernel_rfl) rfl ?_;intro K hK;go_simp;refine C1.mono ?_;rintro e w3 ⟨es2,rfl,hn2,h3⟩;obtain⟨R1,a',n',c',w5,R2,hn',R3,k3,k4,k5,HC6,HM⟩:=HCI.out.more (t:=((PP 1 r).map (·.1)).getD (tree (bN 0 nb) [])) hb (by omega) rfl hn2 h3;clear C1 hn2 h3;refine hK _ _ (.inr fun _=>k3.out) ?_;clear hK;try simp only [υ,E,δ,ε]
  refine aH (i:=4) (by kernel_rfl) rfl ?_;intro K hK;rw [if_pos (by go_simp)];refine qB (some 25) rfl 65 1 _ rfl _ _ (by go_simp) R1.out (hK _ _ (.inr fun _=>k4.out) ?_);clear hK;try simp only [υ,E,δ,ε]
  refine aH (i:=5) (by kernel_rfl) rfl ?_;intro K hK;rw [if_pos (by go_simp)];refine wp_append_run (some 26) rfl 65 rfl _ _ 65 rfl _ _ _ rfl rfl R2.out (hK _ _ (.inr fun _=>k5.out) ?_);clear hK;try simp only [υ,E,δ,ε]
  refine dwp 6 (.pointer (some ⟨w.heap.size+1,17,none⟩)) ?_;refine aH (i:=7) (by kernel_rfl) rfl ?_;intro K hK;rw [if_pos (by go_simp)];refine kK none rfl 65 _ _ rfl _ _ rfl rfl R3.out (hK _ _ (.inl rfl) ?_);clear hK;try simp only [υ,E,δ,ε]
  refine aM (by kernel_rfl) ?_ _;clear R1 R2 R3 k3 k4 k5 hc17 aML hnot HCI;obtain⟨w6,hw6⟩:∃w6,w5.setCell ⟨w.heap.size+1,17,none⟩ (.slice a' n' c')=w6:=⟨_,rfl⟩
  rw [hw6] at HC6 HM ⊢;clear hw6 HC;obtain⟨RLs,RSs,HGs,HZs,aQc⟩:=HC6.out.fin;have hFA:V (∀u,CI W b w S (.slice a' n' c') (L++ [(es2,((PP 1 r).map (·.1)).getD (tree (bN 0 nb) []))]) u->QB W b u->J Z 244 #[pt b] u fun e w3=>e=.returned (.agg nd0)/\V ((I 67 (pt w.heap.size) (.agg nd0)).run Z w3=.ok () (w3.setRow w.heap.size nd0))/\V (w3.heap[w.heap.size]? =some (.cells nd0 67))/\V (RA W b w none nd0 (w3.setRow w.heap.size nd0))):=fun u hu hX=>(mM hX).mono (by
   rintro e w3 ⟨rfl,h3⟩;exact⟨rfl,hu.fail hb h3⟩)
  cases hP:PP 1 r with
  | none=>
   rw [hP] at HM;have HSW:V (Sw W b w w6):=HM.out;have HQ:V (none=o):=by show _=_;rw [<-HL.out];exact(aMb hP).symm
   have OP:CW 156 #[pt b] w6 (.string noB):=aFO HSW.out.1;have TK:J Z 157 #[pt b,.string ⟨#[41]⟩] w6 fun e w'=>e=.returned (.tuple #[])/\w'.cell? ⟨w.heap.size+1,17,none⟩=some (.slice a' n' c')/\V (CI W b w S (.slice a' n' c') (L++ [(es2,((PP 1 r).map (·.1)).getD (tree (bN 0 nb) []))]) w')/\V (Sw W b w w'):=(aAL (s:=[41]) HSW.out.1 (by decide)).mono (by
    rintro e w' ⟨rfl,h2⟩;have hc:=HC6.out.keep hb h2.2;exact⟨rfl,hc.cells.1,hc,h2.1,hc.grow⟩)
   clear HM HL hP HN HS HRT;by_cases h16:(16:Int) < (n':Int)
   ·go_wp2_with (first|(go_at_call 156;refine mw OP ?_)|(go_at_call 157;refine TK.mono ?_;rintro e w7 ⟨rfl,hc7,HC7,HS7⟩)|(go_at_call 244;refine (hFA.out _ HC7.out HS7.out.1.b).mono ?_;rintro e w8 ⟨rfl,RS8,HG8,HF8⟩)|(refine aA rfl 67 _ _ rfl _ _ _ rfl rfl RS8.out ?_;clear RS8))
    refine H (aZ HG8.out rfl rfl rfl) rfl ?_;rw [<-HQ.out];exact⟨_,rfl,NA.zero,HF8.out⟩
   ·go_wp2_with (first|(go_at_call 156;refine mw OP ?_)|(go_at_call 157;refine TK.mono ?_;rintro e w7 ⟨rfl,hc7,HC7,HS7⟩;obtain⟨RL7,RS7,HG7,HZ7,aJY⟩:=HC7.out.fin;have HF7:V _:=HC7.out.bad hb HS7.out)|(refine aB rfl 67 _ rfl _ _ rfl RL7.out ?_;clear RL7)|(refine aA rfl 67 _ _ rfl _ _ _ rfl rfl RS7.out ?_;clear RS7))
    refine H (aZ HG7.out HZ7.out rfl rfl) rfl ?_;rw [<-HQ.out];exact⟨_,rfl,aJY.out,HF7.out⟩
  | some p=>
   obtain⟨m,r2⟩:=p;have hr2:r2.length < r.length:=HRT.out _ hP;rw [hP] at HM HC6 hFA;obtain⟨hS6,hN6⟩:=HM.out;have HS6:V (Sq W b r2 w w6):=hS6;have HN6:V (∀x ∈ L++ [(es2,m)],NK (fun i=>w.heap.size+2<=i/\(θ a' n' c').ownBlock ≠ some i) w6 x.1 x.2):=hN6 HN.out rfl;have aG2:V (CI W b w S (.slice a' n' c') (L++ [(es2,m)]) w6):=HC6.out;have aNG:V (∀u,CI W b w S (.slice a' n' c') (L++ [(es2,m)]) u->QB W b u->_):=hFA.out;have OP:=fJ HS6.out.1 (by omega);clear HM HC6 hFA hS6 hN6 HN HS HRT;by_cases h44:aU r2=[44]
   ·have TK:J Z 157 #[pt b,.string ⟨#[44]⟩] w6 fun e w'=>e=.returned (.tuple #[])/\V (CI W b w S (.slice a' n' c') (L++ [(es2,m)]) w')/\V (Sq W b r2.tail w w')/\V (∀x ∈ L++ [(es2,m)],NK (fun i=>w.heap.size+2<=i/\(θ a' n' c').ownBlock ≠ some i) w' x.1 x.2):=(eT (s:=[44]) HS6.out.1 (by omega) (by decide) h44).mono (by
     rintro e w' ⟨rfl,h2⟩;have hc:=aG2.out.keep hb h2.2;exact⟨rfl,hc,⟨h2.1,hc.grow⟩,fun x hx=>(HN6.out x hx).grown h2.2 (fun g e hk=>by cases e;have:=hk.1;omega)⟩)
    have hrt:=(bB (ts:=r2) h44 (by decide)).1;have HQ:V (goF ((L++ [(es2,m)]).map (·.2)) r2.tail=o):=by show _=_;rw [<-HL.out,aJW hP h44];simp
    rw [h44] at OP;have OP':CW 156 #[pt b] w6 (.string ⟨#[44]⟩):=OP;clear HL hP h44 OP aG2 HN6 aNG;go_wp2_with (first|(go_at_call 156;refine mw OP' ?_)|(go_at_call 157;refine TK.mono ?_;rintro e w7 ⟨rfl,HC7,HS7,HN7⟩))
    try simp only [υ,E,δ,ε]
    go_roundw
    case rel=>exact⟨L++ [(es2,m)],r2.tail,a',n',c',HQ,by simp;omega,by omega,HC7,HN7,HS7⟩
    case measure=>rw [HS7.out.1.left,hleft];omega
   ·have aP6:((ba (aU r2)).toList==[44])=f:=bP h44;have hn16:n'=(L++ [(es2,m)]).length:=by simp [hn']
    by_cases h41:aU r2=[41]
    ·have TK:J Z 157 #[pt b,.string ⟨#[41]⟩] w6 fun e w'=>e=.returned (.tuple #[])/\w'.cell? ⟨w.heap.size+1,17,none⟩=some (.slice a' n' c')/\V (CI W b w S (.slice a' n' c') (L++ [(es2,m)]) w')/\V (Sq W b r2.tail w w')/\V (∀x ∈ L++ [(es2,m)],NK (fun i=>w.heap.size+2<=i/\(θ a' n' c').ownBlock ≠ some i) w' x.1 x.2):=(eT (s:=[41]) HS6.out.1 (by omega) (by decide) h41).mono (by
      rintro e w' ⟨rfl,h2⟩;have hc:=aG2.out.keep hb h2.2;exact⟨rfl,hc.cells.1,hc,⟨h2.1,hc.grow⟩,fun x hx=>(HN6.out x hx).grown h2.2 (fun g e hk=>by cases e;have:=hk.1;omega)⟩)
     have HQ:V (o=if n'<=16 then some ((L++ [(es2,m)]).map (·.2),r2.tail) else none):=by show _=_;rw [<-HL.out,aJX hP h41,hn16];simp
     clear HL hP h41 h44 aG2 HN6;generalize ba (aU r2)=A2 at *;by_cases h16:n'<=16
     ·have aNw:¬(16:Int) < (n':Int):=by omega
      go_wp2_with (first|(go_at_call 156;refine mw OP ?_)|(go_at_call 157;refine TK.mono ?_;rintro e w7 ⟨rfl,hc7,HC7,HS7,HN7⟩;obtain⟨RL7,RS7,HG7,HZ7,aJY⟩:=HC7.out.fin;have HF7:V _:=HC7.out.good hb HN7.out HS7.out)|(refine aB rfl 67 _ rfl _ _ rfl RL7.out ?_;clear RL7)|(refine aA rfl 67 _ _ rfl _ _ _ rfl rfl RS7.out ?_;clear RS7))
      refine H (aZ HG7.out HZ7.out rfl rfl) rfl ?_;rw [HQ.out,if_pos h16];exact⟨_,rfl,aJY.out,HF7.out⟩
     ·have aNw:(16:Int) < (n':Int):=by omega
      go_wp2_with (first|(go_at_call 156;refine mw OP ?_)|(go_at_call 157;refine TK.mono ?_;rintro e w7 ⟨rfl,hc7,HC7,HS7,HN7⟩)|(go_at_call 244;refine (aNG.out _ HC7.out HS7.out.1.b).mono ?_;rintro e w8 ⟨rfl,RS8,HG8,HF8⟩)|(refine aA rfl 67 _ _ rfl _ _ _ rfl rfl RS8.out ?_;clear RS8))
      refine H (aZ HG8.out rfl rfl rfl) rfl ?_;rw [HQ.out,if_neg h16];exact⟨_,rfl,NA.zero,HF8.out⟩
    ·have HQ:V (none=o):=by show _=_;rw [<-HL.out];exact(aNF hP h41 h44).symm
     have TK:J Z 157 #[pt b,.string ⟨#[41]⟩] w6 fun e w'=>e=.returned (.tuple #[])/\w'.cell? ⟨w.heap.size+1,17,none⟩=some (.slice a' n' c')/\V (CI W b w S (.slice a' n' c') (L++ [(es2,m)]) w')/\V (Sw W b w w'):=(aDf (s:=[41]) HS6.out.1 (by omega) h41).mono (by
      rintro e w' ⟨rfl,h2⟩;have hc:=aG2.out.keep hb h2.2;exact⟨rfl,hc.cells.1,hc,h2.1,hc.grow⟩)
     clear HL hP h41 h44 aG2 HN6;generalize ba (aU r2)=A2 at *;by_cases h16:(16:Int) < (n':Int)
     ·go_wp2_with (first|(go_at_call 156;refine mw OP ?_)|(go_at_call 157;refine TK.mono ?_;rintro e w7 ⟨rfl,hc7,HC7,HS7⟩)|(go_at_call 244;refine (aNG.out _ HC7.out HS7.out.1.b).mono ?_;rintro e w8 ⟨rfl,RS8,HG8,HF8⟩)|(refine aA rfl 67 _ _ rfl _ _ _ rfl rfl RS8.out ?_;clear RS8))
      refine H (aZ HG8.out rfl rfl rfl) rfl ?_;rw [<-HQ.out];exact⟨_,rfl,NA.zero,HF8.out⟩
     ·go_wp2_with (first|(go_at_call 156;refine mw OP ?_)|(go_at_call 157;refine TK.mono ?_;rintro e w7 ⟨rfl,hc7,HC7,HS7⟩;obtain⟨RL7,RS7,HG7,HZ7,aJY⟩:=HC7.out.fin;have HF7:V _:=HC7.out.bad hb HS7.out)|(refine aB rfl 67 _ rfl _ _ rfl RL7.out ?_;clear RL7)|(refine aA rfl 67 _ _ rfl _ _ _ rfl rfl RS7.out ?_;clear RS7))
      refine H (aZ HG7.out HZ7.out rfl rfl) rfl ?_;rw [<-HQ.out];exact⟨_,rfl,aJY.out,HF7.out⟩
theorem aG3 {W:Y} {b:Nat} {S:ByteArray} {L0:List Tk.Tok} (hn:L0.length<=256) (h40:aU L0=[40]) {w:Y} (X:QR W b L0 w)
  (C:∀ts' u,ts'.length<=L0.tail.length->QR W b ts' u->J Z 109 #[pt b,.int .i64 1] u (RO W b u (PP 1 ts'))):
  J Z 270 #[pt b,.string S] w (RO W b w ((AA L0.tail).map fun q=>(tree (bN 7 S) q.1,q.2))):=by
 by_cases h:aU L0.tail=[41]
 ·unfold AA;rw [if_pos h];exact aG1 hn h40 h X
 ·rw [aOC h];exact aED hn h40 h X C
theorem RA.from {W w u w':Y} {b:Nat} {o:Option (T × List Tk.Tok)} {es:Array R} (hg:w.grownBy u (some b)) (h:RA W b u o es w'):RA W b w o es w':=by
 cases o with
 | none=>exact⟨h.1,aG hg h.2⟩
 | some p=>exact⟨h.1.mono (fun i hi _=>z0 hg.size hi),h.2.1,aG hg h.2.2⟩
theorem aNH (s:List UInt8):(∃n,trF s=some n/\qJ (szF 97 65 s)=n/\0<=n)\/(trF s=none/\qJ (szF 97 65 s)= -1):=by
 unfold trF jQ;rcases mE (szF 97 65 (ba s).data.toList) with ⟨e,e2,e3⟩ | ⟨e,e2,e3⟩ | ⟨_,_,e2,e3⟩
 ·left;rw [e2];exact⟨1,rfl,e3,by decide⟩
 ·left;rw [e2];exact⟨0,rfl,e3,by decide⟩
 ·right;rw [e2];exact⟨rfl,e3⟩
theorem aMc (u:Y) (n:Int):(ν 62 #[(0,.int .i64 3),(1,.int .i64 n)]).run Z u=.ok (.agg #[.int .i64 3,.int .i64 n,.string noB]) u:=by kernel_rfl
theorem aMd (u:Y) (s bk h:ByteArray) (r c:Int) (fr fc:Bool):(ν 67 #[(0,.int .i64 4),(1,.string s),(3,dL bk h r c fr fc)]).run Z u=.ok (.agg (lcs ⟨4,s,0,0,nb,bk,h,r,c,fr,fc,nb,nb,0,0,f,f⟩ (.slice none 0 0))) u:=by kernel_rfl
section
variable {W w:Y} {b:Nat} {s bk:List UInt8} {L:List Tk.Tok}
abbrev wcs (bk s:List UInt8):Array R:=tcs 4 0 (ba s) (ba bk) noB 0 0 f f
theorem aDj {u:Y} {g:Nat} {cs:Array R} (h:u.heap[g]? =some (.cells cs 188)) (j:Nat) (v:R) (hj:cs[j]? =some v):u.cell? ⟨g,j,none⟩=some v:=by rw [σ u g j _ 188 (0,0) h];exact hj
theorem aEE (hn:L.length<=256) (hs:s.length<=1000) (h40:aU L=[40]) (X:QR W b L w) {o:Option (T × List Tk.Tok)} (C:∀u,QR W b L u->J Z 270 #[pt b,.string (ba (upF s))] u (RO W b u o)):
  J Z 246 #[pt b,.agg (wcs [] s)] w (RO W b w o):=by
 have hb:=X.lt;obtain⟨f0,f1,f2,f3⟩:=jJ (w:=w) (cs:=wcs [] s);have X2:=X.below f3;have OP:J Z 156 #[pt b] (rw2 w (wcs [] s)) fun e w'=>e=.returned (.string ⟨#[40]⟩)/\w'=rw2 w (wcs [] s):=by have:=fJ X2 hn;rw [h40] at this;exact this
 have c3:(rw2 w (wcs [] s)).cell? ⟨w.heap.size,3,none⟩=some (.string ⟨#[]⟩):=aDj f0 3 _ rfl;have c2:(rw2 w (wcs [] s)).cell? ⟨w.heap.size,2,none⟩=some (.string (ba s)):=aDj f0 2 _ rfl;have UP:CR 142 #[.string (ba s)] (rw2 w (wcs [] s)) (.string (ba (upF s))):=aAZ (ba s) (by rw [size_mk];omega) _;have C1:V (∀u,π (rw2 w (wcs [] s)).heap.size (rw2 w (wcs [] s)) u->J Z 270 #[pt b,.string (ba (upF s))] u fun e w3=>∃es,e=.returned (.agg es)/\V ((I 67 (.pointer (some ⟨w.heap.size+1,0,none⟩)) (.agg es)).run Z w3=.ok () (w3.setRow (w.heap.size+1) es))/\V (w3.heap[w.heap.size+1]? =some (.cells nd0 67))/\V (es.size=18)/\V (NA es)/\
  V (RA W b w o es (w3.setRow (w.heap.size+1) es))):=fun u hu=>(C u (X2.below hu)).mono (by
  rintro e w3 ⟨es,rfl,hn,h⟩;exact⟨es,rfl,RA.aEC hb hn (h.from (bH hu))⟩)
 clear C X X2 f0 f1 f2 f3 h40;generalize ba (upF s)=U at *;generalize ba s=S at *;generalize wcs [] s=cs at *;go_enter Tryz.func246,Tryz.ntmps246;go_wp2_with (first|(go_at_call 156;refine mw OP ?_)|(go_at_call 142;refine UP.mono ?_;rintro e w1 ⟨rfl,hw⟩;have HU:V (π (rw2 w cs).heap.size (rw2 w cs) w1):=hw;clear hw)|(go_at_call 270;refine (C1.out _ HU.out).mono ?_;rintro e w3 ⟨es,rfl,RS,HG,HZ,HNA,HF⟩)|(refine aA rfl 67 _ _ rfl _ _ _ rfl rfl RS.out ?_;clear RS))
 exact H (aZ HG.out HZ.out rfl rfl) rfl ⟨_,rfl,HNA.out,HF.out⟩
theorem aEF (hn:L.length<=256) (hs:s.length<=1000) (h40:¬(bk=[]/\aU L=[40])) (X:QR W b L w):
  J Z 246 #[pt b,.agg (wcs bk s)] w (RO W b w (match trF s with
   | some n=>some (tree (fQ 3 n nb) [],L)
   | none=>some (tree (zP bk s) [],L))):=by
 have hb:=X.lt;obtain⟨f0,f1,f2,f3⟩:=jJ (w:=w) (cs:=wcs bk s);have X2:=X.below f3;have OP:=fJ X2 hn;have c3:(rw2 w (wcs bk s)).cell? ⟨w.heap.size,3,none⟩=some (.string (ba bk)):=aDj f0 3 _ rfl;have c2:(rw2 w (wcs bk s)).cell? ⟨w.heap.size,2,none⟩=some (.string (ba s)):=aDj f0 2 _ rfl;have TR:J Z 92 #[.string (ba s)] (rw2 w (wcs bk s)) fun e w'=>e=.returned (.int .i64 (qJ (szF 97 65 s)))/\V (Sq W b L (rw2 w (wcs bk s)) w')/\w'.cell? ⟨w.heap.size,2,none⟩=some (.string (ba s))/\V ((η 64 (.pointer (some ⟨w.heap.size,3,none⟩))).run Z w'=.ok (dL (ba bk) noB 0 0 f f) w'):=(qK (ba s) (by rw [size_mk];omega) _).mono (by
  rintro e w' ⟨rfl,h⟩;have hk:=(h.block _ (bA f0)).trans f0;exact⟨rfl,(Sq.refl X2).bel h,aDj hk 2 _ rfl,aBw hk⟩)
 have hcond:((ba (aU L)).toList==[40])=f\/(((ba (aU L)).toList==[40])=φ/\(ba bk).toList.isEmpty=f):=by
  by_cases h:aU L=[40]
  ·right;refine ⟨by rw [h,μ];rfl, ?_⟩;rw [μ];show bk.isEmpty=f;cases bk with
   | nil=>exact absurd ⟨rfl,h⟩ h40
   | cons _ _=>rfl
  ·exact .inl (bP h)
 have FT:V (∀(n:Int) u,Sq W b L (rw2 w (wcs bk s)) u->_):=fun n u hu=>RA.aEC hb (pK (fQ 3 n nb)) (RA.leaf (fQ 3 n nb) hu);have FN:V (∀u,Sq W b L (rw2 w (wcs bk s)) u->_):=fun u hu=>RA.aEC hb (pK (zP bk s)) (RA.leaf (zP bk s) hu);have BT:V (∀(n:Int) (u:Y),_/\_):=fun n u=>⟨aMc u n,mJ u 3 n noB⟩
 have BN:V (∀u,(ν 67 #[(0,.int .i64 4),(1,.string (ba s)),(3,dL (ba bk) noB 0 0 f f)]).run Z u=.ok (.agg (lcs (zP bk s) (.slice none 0 0))) u):=fun u=>aMd u (ba s) (ba bk) noB 0 0 f f;clear X X2 f0 f1 f2 f3 h40;rcases aNH s with ⟨n,h1,h2,h3⟩ | ⟨h1,h2⟩
 ·rw [h1];rw [h2] at TR;have FT':=fun u hu=>FT.out n u hu;have BT1:V _:=fun u=>(BT.out n u).1;have BT2:V _:=fun u=>(BT.out n u).2;clear FT FN BT BN h1 h2;have hz:=fE (fQ 3 n nb) (.slice none 0 0);generalize lcs (fQ 3 n nb) (.slice none 0 0)=es at *;generalize ba (aU L)=A at *;generalize ba s=S at *;generalize ba bk=B at *;generalize wcs bk s=cs at *;have hge:¬n < 0:=by omega
  rcases hcond with hA | ⟨hA,hB⟩
  ·go_enter Tryz.func246,Tryz.ntmps246;go_wp2_with (first|(go_at_call 156;refine mw OP ?_)|(go_at_call 92;refine TR.mono ?_;rintro e w1 ⟨rfl,HS1,k2,RL1⟩;obtain⟨RS,HG,HZ,HNA,HF⟩:=FT' _ HS1.out)|(refine aL rfl 62 _ rfl _ _ (by go_simp) (BT1.out _) ?_)|(refine aL rfl 67 _ rfl _ _ (by go_simp) (BT2.out _) ?_)|(refine aA rfl 67 _ _ rfl _ _ _ rfl rfl RS.out ?_;clear RS))
   exact H (aZ HG.out HZ.out rfl rfl) rfl ⟨_,rfl,HNA.out,HF.out⟩
  ·go_enter Tryz.func246,Tryz.ntmps246;go_wp2_with (first|(go_at_call 156;refine mw OP ?_)|(go_at_call 92;refine TR.mono ?_;rintro e w1 ⟨rfl,HS1,k2,RL1⟩;obtain⟨RS,HG,HZ,HNA,HF⟩:=FT' _ HS1.out)|(refine aL rfl 62 _ rfl _ _ (by go_simp) (BT1.out _) ?_)|(refine aL rfl 67 _ rfl _ _ (by go_simp) (BT2.out _) ?_)|(refine aA rfl 67 _ _ rfl _ _ _ rfl rfl RS.out ?_;clear RS))
   exact H (aZ HG.out HZ.out rfl rfl) rfl ⟨_,rfl,HNA.out,HF.out⟩
 ·rw [h1];rw [h2] at TR;have FN':=fun u hu=>FN.out u hu;clear FT FN BT h1 h2;generalize lcs (zP bk s) (.slice none 0 0)=es at *;generalize zP bk s=lb at *;generalize ba (aU L)=A at *;generalize ba s=S at *;generalize ba bk=B at *;generalize wcs bk s=cs at *;rcases hcond with hA | ⟨hA,hB⟩
  ·go_enter Tryz.func246,Tryz.ntmps246;go_wp2_with (first|(go_at_call 156;refine mw OP ?_)|(go_at_call 92;refine TR.mono ?_;rintro e w1 ⟨rfl,HS1,k2,RL1⟩;obtain⟨RS,HG,HZ,HNA,HF⟩:=FN' _ HS1.out)|(refine aB rfl 64 _ rfl _ _ rfl RL1.out ?_;clear RL1)|(refine aL rfl 67 _ rfl _ _ (by go_simp) (BN.out _) ?_)|(refine aA rfl 67 _ _ rfl _ _ _ rfl rfl RS.out ?_;clear RS))
   exact H (aZ HG.out HZ.out rfl rfl) rfl ⟨_,rfl,HNA.out,HF.out⟩
  ·go_enter Tryz.func246,Tryz.ntmps246;go_wp2_with (first|(go_at_call 156;refine mw OP ?_)|(go_at_call 92;refine TR.mono ?_;rintro e w1 ⟨rfl,HS1,k2,RL1⟩;obtain⟨RS,HG,HZ,HNA,HF⟩:=FN' _ HS1.out)|(refine aB rfl 64 _ rfl _ _ rfl RL1.out ?_;clear RL1)|(refine aL rfl 67 _ rfl _ _ (by go_simp) (BN.out _) ?_)|(refine aA rfl 67 _ _ rfl _ _ _ rfl rfl RS.out ?_;clear RS))
   exact H (aZ HG.out HZ.out rfl rfl) rfl ⟨_,rfl,HNA.out,HF.out⟩
end
theorem aG4 {W w:Y} {b:Nat} {bk s:List UInt8} {L:List Tk.Tok} (hn:L.length<=256) (hs:s.length<=1000) (X:QR W b L w)
  (C:∀ts' u,ts'.length<=L.tail.length->QR W b ts' u->J Z 109 #[pt b,.int .i64 1] u (RO W b u (PP 1 ts'))):
  J Z 246 #[pt b,.agg (tk (Tk.Tok.word bk s)).cs] w (RO W b w (vS bk s L)):=by
 unfold vS;by_cases h:bk=[]/\aU L=[40]
 ·rw [if_pos h];obtain⟨rfl,h40⟩:=h;exact aEE hn hs h40 X (fun u hu=>aG3 hn h40 hu C)
 ·rw [if_neg h];exact aEF hn hs h X
theorem zQ (s:List UInt8) (w:Y):CW 141 #[.string (ba s)] w (.int .i64 (mH s:Nat)):=by
  rcases yL s with h | ⟨h0,h1,h2,h3,h4,h5,h6,h7,h8,h9,h10,h11,h12⟩
  · rcases h with rfl | rfl | rfl | rfl | rfl | rfl | rfl | rfl | rfl | rfl | rfl | rfl <;>
      (go_enter Tryz.func141,Tryz.ntmps141
       go_wp2;go_ret;exact⟨rfl,rfl⟩)
  · rw [h0]
    have k1:=bP h1;have k2:=bP h2;have k3:=bP h3;have k4:=bP h4;have k5:=bP h5;have k6:=bP h6;have k7:=bP h7;have k8:=bP h8;have k9:=bP h9;have k10:=bP h10;have k11:=bP h11;have k12:=bP h12;clear h0 h1 h2 h3 h4 h5 h6 h7 h8 h9 h10 h11 h12;generalize ba s=S at *;go_enter Tryz.func141,Tryz.ntmps141;go_wp2;go_ret;exact⟨rfl,rfl⟩
theorem wr1:IntKind.i64.wrap (((1:Nat):Int)+1)=((1+1:Nat):Int):=by kernel_rfl
theorem wr2:IntKind.i64.wrap (((2:Nat):Int)+1)=((2+1:Nat):Int):=by kernel_rfl
theorem wr3:IntKind.i64.wrap (((3:Nat):Int)+1)=((3+1:Nat):Int):=by kernel_rfl
theorem wr4:IntKind.i64.wrap (((4:Nat):Int)+1)=((4+1:Nat):Int):=by kernel_rfl
theorem wr5:IntKind.i64.wrap (((5:Nat):Int)+1)=((5+1:Nat):Int):=by kernel_rfl
theorem aJZ {W:Y} {b:Nat} {lv:Nat} (h1:1<=lv) (h5:lv<=5) {ts:List Tk.Tok} (hn:ts.length<=256)
  (C:∀ts' u,ts'.length<=ts.length->QR W b ts' u->J Z 109 #[pt b,.int .i64 ((lv+1:Nat):Int)] u (RO W b u (PP (lv+1) ts'))) {w:Y} (X:QR W b ts w):
  J Z 109 #[pt b,.int .i64 ((lv:Nat):Int)] w (RO W b w (PP lv ts)):=by
 have hb:=X.lt;have e:PP lv ts=(PP (lv+1) ts).bind fun p=>eG (PP (lv+1)) lv p.2.length p.1 p.2:=aI5 upF trF h1 h5 ts;have hlen:∀p,PP (lv+1) ts=some p->p.2.length<=ts.length:=fun p hp=>Nat.le_of_lt (jC upF trF (by omega) _ p.1 p.2 hp);have C0:J Z 109 #[pt b,.int .i64 ((lv+1:Nat):Int)] (w.alloc (.cells nd0 67)) fun e w1=>∃es,e=.returned (.agg es)/\V ((I 67 (pt w1.heap.size) (.agg es)).run Z (w1.alloc (.cells nd0 67))=.ok () (w1.alloc (.cells es 67)))/\V (BI W b w w1.heap.size (PP (lv+1) ts) es (w1.alloc (.cells es 67)))/\V (w.heap.size < w1.heap.size):=(C ts _ (κ _) (X.alloc _)).mono (by
  rintro e w1 ⟨es,rfl,hn,h⟩;exact⟨es,rfl,BI.begin hb hn h⟩)
 generalize PP lv ts=o at e ⊢;have HO:V (((PP (lv+1) ts).bind fun p=>eG (PP (lv+1)) lv p.2.length p.1 p.2)=o):=e.symm;have HC:V (∀ts' u,ts'.length<=ts.length->QR W b ts' u->J Z 109 #[pt b,.int .i64 ((lv+1:Nat):Int)] u (RO W b u (PP (lv+1) ts'))):=C;have HLE:V (∀p,PP (lv+1) ts=some p->p.2.length<=ts.length):=hlen;have hi5:¬(5:Int) < ((lv:Nat):Int):=by omega
 have hw1:IntKind.i64.wrap (((lv:Nat):Int)+1)=((lv+1:Nat):Int):=by
  have:lv=1\/lv=2\/lv=3\/lv=4\/lv=5:=by omega
  rcases this with rfl | rfl | rfl | rfl | rfl
  ·exact wr1
  ·exact wr2
  ·exact wr3
  ·exact wr4
  ·exact wr5
 have HLV:V (1<=lv):=h1;have aJ0:V (ts.length<=256):=hn;clear e C hlen X h5;generalize PP (lv+1) ts=o1 at C0 HO HLE;obtain⟨l1,hl1⟩:∃l1:Int,((lv+1:Nat):Int)=l1:=⟨_,rfl⟩
 rw [hl1] at C0 HC hw1;clear hl1;obtain⟨N,hN⟩:∃N,ts.length=N:=⟨_,rfl⟩
 rw [hN] at HC HLE aJ0;clear hN hn h1;go_enter Tryz.func109,Tryz.ntmps109;go_wp2_with (first|(go_at_call 109;refine C0.mono ?_;rintro e w1 ⟨es0,rfl,RS0,HB0,HLT⟩)|(refine aA rfl 67 _ _ rfl _ _ _ rfl rfl RS0.out ?_;clear RS0))
 clear C0;try simp only [υ,E,δ,ε]
 generalize hg7:w1.heap.size=g7 at *;clear hg7;go_loopw [6] (fun _ wr=>∃(cur:Option (T × List Tk.Tok)) (es:Array R),V ((cur.bind fun p=>eG (PP (lv+1)) lv p.2.length p.1 p.2)=o)/\V (BI W b w g7 cur es wr)/\V (∀p,cur=some p->p.2.length<=N)) (fun _ wr=>nM b wr)
 case atStart=>exact⟨o1,es0,HO,HB0,HLE⟩
 case round=>
  obtain⟨cur,es,HL,HB,HR⟩:=hrel;clear HO HB0 HLE;cases cur with
  | none=>
   obtain⟨RL,RS,HZ,HF⟩:=HB.out.fin hb;have hyes:wr.cell? ⟨b,1,none⟩=some (.bool φ):=(show Sw W b w wr from HB.out.st).1.yes;have HQ:V (none=o):=HL.out;have HNA:V (NA es):=HB.out.na;have HG:V (wr.heap[w.heap.size]? =some (.cells nd0 67)):=HB.out.res;clear HL HB HR;go_wp2_with (first|(refine aB rfl 67 _ rfl _ _ rfl RL.out ?_;clear RL)|(refine aA rfl 67 _ _ rfl _ _ _ rfl rfl RS.out ?_;clear RS))
   refine H (aZ HG.out HZ.out rfl rfl) rfl ?_;rw [<-HQ.out];exact⟨es,rfl,HNA.out,HF.out⟩
  | some p=>
   obtain⟨n,r⟩:=p;have hr:r.length<=N:=HR.out _ rfl;have hS:Sq W b r w wr:=(HB.out.st).2;have hnot:wr.cell? ⟨b,1,none⟩=some (.bool f):=hS.1.not;have OP:=fJ hS.1 (by have:=aJ0.out;omega);have ST:=fun u=>zQ (aU r) u;have hleft:=hS.1.left;by_cases hq:mH (aU r)=lv
   ·have hlv:=HLV.out;have hne:=mY (s:=aU r) (by omega);obtain⟨hrt,hrc⟩:=bB (ts:=r) rfl hne;have HQ:V (o=(PP (lv+1) r.tail).bind fun p=>eG (PP (lv+1)) lv p.2.length (yG (aU r) n p.1) p.2):=by show _=_;rw [<-HL.out];exact aC4 hlv hq
    have TK:J Z 157 #[pt b,.string (ba (aU r))] wr fun e w'=>e=.returned (.tuple #[])/\Sq W b r.tail wr w':=eT hS.1 (by have:=aJ0.out;omega) hne rfl;have hqi:(((mH (aU r):Nat):Int)==((lv:Nat):Int))=φ:=by simp [hq]
    have aPz:r.tail.length < r.length:=by omega
    have HPL:V (∀p,PP (lv+1) r.tail=some p->p.2.length < r.tail.length):=fun p hp=>jC upF trF (by omega) _ p.1 p.2 hp;have C1:V (∀u2,Sq W b r.tail wr u2->J Z 109 #[pt b,.int .i64 l1] u2 fun e w3=>∃es2,e=.returned (.agg es2)/\NA es2/\RA W b u2 (PP (lv+1) r.tail) es2 w3):=fun u2 h2=>HC.out r.tail u2 (by omega) h2.1;clear HL hq hrc HC hS;generalize hrr:r.tail=r' at *;generalize mH (aU r)=sv at *;generalize hss:aU r=sg at *;clear hrr hss;go_wp2_with (first|(go_at_call 156;refine mw OP ?_)|(go_at_call 141;refine mw (ST _) ?_)|(go_at_call 157;refine TK.mono ?_;rintro e w2 ⟨rfl,hw⟩;have HS2:V (Sq W b r' wr w2):=hw;clear hw TK)|(go_at_call 109;refine (C1.out _ HS2.out).mono ?_;rintro e w3 ⟨es2,rfl,hn2,h3⟩;obtain⟨R1,R2,R3,w5,R4,R5,R6,HB6⟩:=BI.two (sg:=sg) HB.out hb HLT.out HS2.out hn2 h3;clear hn2 h3)|(refine aA rfl 67 _ _ rfl _ _ _ rfl rfl R1.out ?_;clear R1)|(refine aB rfl 67 _ rfl _ _ rfl R2.out ?_;clear R2)|(refine aB rfl 67 _ rfl _ _ rfl R3.out ?_;clear R3)|(refine dQ rfl 65 2 _ rfl _ _ _ (by go_simp) R4.out ?_;clear R4)|(refine aL rfl 67 _ rfl _ _ (by go_simp) R5.out ?_;clear R5)|(refine aA rfl 67 _ _ rfl _ _ _ rfl rfl R6.out ?_;clear R6))
    try simp only [υ,E,δ,ε]
    go_roundw
    case rel=>
     refine ⟨_,_, ?_,HB6, ?_⟩
     ·show _=_;rw [HQ.out];cases PP (lv+1) r' <;> rfl
     ·show ∀p,_->_;intro p hp;cases hP:PP (lv+1) r' with
      | none=>rw [hP] at hp;cases hp
      | some q=>
       rw [hP] at hp;cases hp
       have:=HPL.out _ hP;show q.2.length<=N;omega
    case measure=>
     have hst:=HB6.out.st;cases hP:PP (lv+1) r' with
     | none=>
      rw [hP] at hst;rw [(show Sw W b w _ from hst).1.left,hleft];omega
     | some q=>
      rw [hP] at hst;have:=HPL.out _ hP;rw [(show _/\Sq W b q.2 w _ from hst).2.1.left,hleft];omega
   ·have HQ:V (o=some (n,r)):=by show _=_;rw [<-HL.out];exact aFH hq _
    have hqi:(((mH (aU r):Nat):Int)==((lv:Nat):Int))=f:=by simp;omega
    obtain⟨RL,RS,HZ,HF⟩:=HB.out.fin hb;have HNA:V (NA es):=HB.out.na;have HG:V (wr.heap[w.heap.size]? =some (.cells nd0 67)):=HB.out.res;generalize mH (aU r)=sv at *;generalize ba (aU r)=A at *;clear hq HL hleft HB hS HC;go_wp2_with (first|(go_at_call 156;refine mw OP ?_)|(go_at_call 141;refine mw (ST _) ?_)|(refine aB rfl 67 _ rfl _ _ rfl RL.out ?_;clear RL)|(refine aA rfl 67 _ _ rfl _ _ _ rfl rfl RS.out ?_;clear RS))
    refine H (aZ HG.out HZ.out rfl rfl) rfl ?_;rw [HQ.out];exact⟨es,rfl,HNA.out,HF.out⟩
end Go.Proofs.YtfedoljlipfhdaaGreatDoor
