/- SPV, SPO. -/
import Derived.ChangeArms
import Derived.ChangeOld
import Derived.WideShapes
import Derived.Test.YtlhoklhjbpkgpaaGreatDoorSPWPu
set_option linter.unusedVariables false
set_option linter.unusedSimpArgs false
set_option maxHeartbeats 16000000
set_option maxRecDepth 100000
namespace Go.Proofs.YtlhoklhjbpkgpaaGreatDoor.Sh
open Go.RowKit Go.Fm
theorem zZ {α:Type} {B:α->List UInt8} {L:List α} {a:α} (h:a ∈ L):(B a).length<=(L.flatMap B).length:=by
 induction L with
 | nil=>cases h
 | cons b r ih=>
  rw [List.flatMap_cons,List.length_append];rcases List.mem_cons.1 h with rfl | h
  ·omega
  ·have:=ih h;omega
theorem mK {α:Type} {B:α->List UInt8} {L:List α} (h:∀a,1<=(B a).length):L.length<=(L.flatMap B).length:=by
 induction L with
 | nil=>simp
 | cons b r ih=>rw [List.flatMap_cons,List.length_append,List.length_cons];have:=h b;omega
theorem aMn {α:Type} {B:α->List UInt8} {L:List α} {n:Nat} (h:∀a ∈ L,(B a).length<=n):(L.flatMap B).length<=L.length * n:=by
 induction L with
 | nil=>simp
 | cons b r ih=>
  rw [List.flatMap_cons,List.length_append,List.length_cons,Nat.succ_mul];have:=h b List.mem_cons_self;have:=ih fun a ha=>h a (List.mem_cons_of_mem _ ha);omega
theorem wM {α:Type} {B:α->List UInt8} {L:List α} (p:α->Bool):((L.filter p).flatMap B).length<=(L.flatMap B).length:=by
 induction L with
 | nil=>simp
 | cons b r ih=>
  rw [List.filter_cons];split <;> simp only [List.flatMap_cons,List.length_append] <;> omega
theorem aKp {L:List aO}:L.length+bK L<=(L.flatMap Bt.bC).length:=by
 induction L with
 | nil=>simp [bK]
 | cons s r ih=>
  rw [tO,List.flatMap_cons,List.length_append,List.length_cons];have h1:s.cells.length<=(s.cells.flatMap Bt.bE).length:=mK Bt.pX;have h2:=Bt.oO s.name.size;simp only [Bt.bC,Bt.bJ,Bt.cO,List.length_append];omega
theorem aG5 (L:List aK) (t:aK):((dU L t).flatMap Bt.bE).length<=2 * (L.flatMap Bt.bE).length+(Bt.bE t).length:=by
 unfold dU;rw [List.flatMap_append,List.flatMap_append,List.length_append,List.length_append];have h1:=wM (B:=Bt.bE) (L:=L) fun d=>ltB d t;have h2:=wM (B:=Bt.bE) (L:=L) fun d=>ltB t d;have h3:((if t.text.toList==[] then [] else [t]).flatMap Bt.bE).length<=(Bt.bE t).length:=by split <;> simp
 omega
theorem aKq (L:List aK) (t:aK):(dU L t).length<=2 * L.length+1:=by
 unfold dU;rw [List.length_append,List.length_append];have h1:=List.length_filter_le (fun d=>ltB d t) L;have h2:=List.length_filter_le (fun d=>ltB t d) L;have h3:(if t.text.toList==[] then [] else [t]:List aK).length<=1:=by split <;> simp
 omega
theorem aFF {n:Nat} (h:n<=1000000000):In64 (n:Int):=by unfold In64;omega
theorem aMo {t:aK} (h:t.Ok) {n:Nat} (ht:t.text.size<=n) (hn:n<=1000000000):(Bt.bE t).length<=n+30:=by have h1:=Bt.dJ h.1;have h2:=Bt.dJ h.2;have h3:=Bt.dJ (aFF (Nat.le_trans ht hn));rw [Bt.bE,List.length_append,List.length_append,Bt.iW];omega
theorem aG6 {x:aU} {i:Nat} (hi:i < x.aA.length) (hz:x.aA.length<=4) {t:aK} (ht:t.Ok) {n:Nat} (hn:n<=20000000) (hs:t.text.size<=n) (lx:(Bt.dF x).length<=n):(Bt.dF (putAt x i t)).length<=1000000000:=by
 simp only [Bt.dF,Bt.cO,List.length_append] at lx ⊢;have hc:=aMo ht hs (by omega);have hm:∀s ∈ (putAt x i t).aA,(Bt.bC s).length<=4 * n+60:=fun s hs=>by
  rcases mQ hi hs with hs | rfl
  ·have:=zZ (B:=Bt.bC) hs;omega
  ·have h1:=zZ (B:=Bt.bC) (List.getElem_mem hi);have h2:=aG5 x.aA[i].cells t;have h3:=aKq x.aA[i].cells t;have h4:x.aA[i].cells.length<=(x.aA[i].cells.flatMap Bt.bE).length:=mK Bt.pX;simp only [Bt.bC,Bt.cO,List.length_append] at h1 ⊢;have h5:=Bt.dJ (aFF (n:=(dU x.aA[i].cells t).length) (by omega));omega
 have h1:=aMn hm;rw [vD] at h1 ⊢;have h2:=Nat.mul_le_mul_right (4 * n+60) hz;have h3:(Bt.bH (x.aA.length:Nat)).length<=10:=Bt.dJ (aFF (by omega));have e1:(putAt x i t).names=x.names:=rfl;have e2:(putAt x i t).links=x.links:=rfl;rw [e1,e2];omega
theorem aNM {x:aU} {i:Nat} (hi:i < x.aA.length) {t:aK} (ht:t.Ok) (h:x.Ok):(putAt x i t).Ok:=
 ⟨fun s hs=>by
  rcases mQ hi hs with hs | rfl
  ·exact h.1 s hs
  ·intro d hd;rcases put_mem hd with hd | ⟨rfl,_⟩
   ·exact h.1 _ (List.getElem_mem hi) d hd
   ·exact ht,h.2⟩
theorem aMp:nP.Ok:=⟨fun s hs=>(List.not_mem_nil hs).elim,fun s hs=>(List.not_mem_nil hs).elim⟩
theorem aEN:Small nP:=⟨Nat.zero_le _,fun s hs=>(List.not_mem_nil hs).elim,Nat.zero_le _,Nat.zero_le _⟩
theorem aEO:(Bt.dF nP).length<=1000000000:=by have h3:(Bt.bH (0:Nat)).length<=10:=Bt.dJ (aFF (by omega));simp only [Bt.dF,Bt.cO,nP,List.length_append,List.length_nil,List.flatMap_nil];omega
theorem aMq {w:World} {sa na la:Option Addr} {sl sc nl nc ll lc:Nat} {p:rD} (c8:∀u,PS w (.slice sa sl sc) (.slice na nl nc) (.slice la ll lc) p u->CR 8 #[.agg #[.slice sa sl sc,.slice na nl nc,.slice la ll lc]] u (.bool false))
  (c9:∀u,PS w (.slice sa sl sc) (.slice na nl nc) (.slice la ll lc) p u->CR 9 #[] u (.bool true)):
  CR 3 #[.agg #[.slice sa sl sc,.slice na nl nc,.slice la ll lc],aGK p] w (.bool true):=by
 have HX:Hid (PS w (.slice sa sl sc) (.slice na nl nc) (.slice la ll lc) p ((w.alloc (bkO (.slice sa sl sc) (.slice na nl nc) (.slice la ll lc))).alloc (.cells (zJ p).toArray 29))):=PS.new _ _ _ _ _;have H8:Hid _:=c8;have H9:Hid _:=c9;have R0:Hid _:=ldB HX.out.b0;clear c8 c9;go_enter Tryz.func3,Tryz.ntmps3;go_wp2_with (first|((with_reducible show wL (Op.load 26 _));refine aC rfl 26 _ rfl _ _ rfl R0.out ?_)|(go_at_call 8;refine (H8.out _ HX.out).mono ?_;clear H8;rintro e u1 ⟨rfl,hb⟩;have HX:Hid _:=HX.out.step hb;clear hb R0)|(go_at_call 9;refine (H9.out _ HX.out).mono ?_;clear H9;rintro e u2 ⟨rfl,hb⟩;have HX:Hid _:=HX.out.step hb;clear hb))
 go_ret;exact⟨rfl,HX.out.bl⟩
theorem aEP {w:World} {sa na la:Option Addr} {sl sc nl nc ll lc:Nat} {p:rD} {er:Int} (he:er ≠ 0) (c8:∀u,PS w (.slice sa sl sc) (.slice na nl nc) (.slice la ll lc) p u->CR 8 #[.agg #[.slice sa sl sc,.slice na nl nc,.slice la ll lc]] u (.bool true))
  (c9:∀u,PS w (.slice sa sl sc) (.slice na nl nc) (.slice la ll lc) p u->CR 9 #[] u (.bool true))
  (c10:∀u,PS w (.slice sa sl sc) (.slice na nl nc) (.slice la ll lc) p u->CR 10 #[.agg #[.slice sa sl sc,.slice na nl nc,.slice la ll lc]] u (.int .i64 er))
  (c11:∀u,PS w (.slice sa sl sc) (.slice na nl nc) (.slice la ll lc) p u->CR 11 #[.agg #[.slice sa sl sc,.slice na nl nc,.slice la ll lc]] u (.int .i64 er)):
  CR 3 #[.agg #[.slice sa sl sc,.slice na nl nc,.slice la ll lc],aGK p] w (.bool true):=by
 have HX:Hid (PS w (.slice sa sl sc) (.slice na nl nc) (.slice la ll lc) p ((w.alloc (bkO (.slice sa sl sc) (.slice na nl nc) (.slice la ll lc))).alloc (.cells (zJ p).toArray 29))):=PS.new _ _ _ _ _;have H8:Hid _:=c8;have H9:Hid _:=c9;have H10:Hid _:=c10;have H11:Hid _:=c11;have R0:Hid _:=ldB HX.out.b0;have hne:(er==0)=false:=by simpa using he
 clear c8 c9 c10 c11;go_enter Tryz.func3,Tryz.ntmps3;go_wp2_with (first|((with_reducible show wL (Op.load 26 _));refine aC rfl 26 _ rfl _ _ rfl R0.out ?_)|(go_at_call 8;refine (H8.out _ HX.out).mono ?_;clear H8;rintro e u1 ⟨rfl,hb⟩;have HX:Hid _:=HX.out.step hb;clear hb R0;have R0:Hid _:=ldB HX.out.b0)|(go_at_call 10;refine (H10.out _ HX.out).mono ?_;clear H10;rintro e u2 ⟨rfl,hb⟩;have HX:Hid _:=HX.out.step hb;clear hb R0;have R0:Hid _:=ldB HX.out.b0)|(go_at_call 11;refine (H11.out _ HX.out).mono ?_;clear H11;rintro e u3 ⟨rfl,hb⟩;have HX:Hid _:=HX.out.step hb;clear hb R0)|(go_at_call 9;refine (H9.out _ HX.out).mono ?_;clear H9;rintro e u4 ⟨rfl,hb⟩;have HX:Hid _:=HX.out.step hb;clear hb))
 go_ret;exact⟨rfl,HX.out.bl⟩
theorem aKr {lo hi:Nat} {w:World} {sv nv lv:Value} {x:aU} (h:BkM lo hi w sv nv lv x) (hhi:hi<=w.heap.size) (ox:x.Ok) (lx:(Bt.dF x).length<=20000000) (p:rD) (hr:In64 p.r) (hc:In64 p.c) (ht:p.t.size<=20000000) (T:dD w):
  CR 3 #[.agg #[sv,nv,lv],aGK p] w (.bool true):=by
 have lx0:=lx;simp only [Bt.dF,Bt.cO,List.length_append] at lx0;have hcn:=aKp (L:=x.aA);have hn:x.names.length<=(x.names.flatMap Bt.eT).length:=mK Bt.vO;have hk:x.links.length<=(x.links.flatMap Bt.gB).length:=mK Bt.vP;have hN:pQ x.aA:=fun s hs=>by have h1:=zZ (B:=Bt.bC) hs;simp only [Bt.bC,List.length_append,Bt.iW] at h1;omega
 have hC:nM x.aA:=fun s hs=>by have:=zK hs;omega
 have S8:∀u,BkM lo hi u sv nv lv x->hi<=u.heap.size->CR 8 #[.agg #[sv,nv,lv]] u (.bool (decide (x.aA.length+bK x.aA < 1000/\x.names.length+x.links.length < 300))):=fun u hu hu2=>(aGJ hu hu2 (by omega) (by omega)).mono (by
  rintro e v ⟨⟨b,rfl,_,hb⟩,hv⟩;refine ⟨?_,hv⟩;have:=hb (by omega);congr 2;rw [Bool.eq_iff_iff,decide_eq_true_iff];exact this)
 by_cases hb:x.aA.length+bK x.aA < 1000/\x.names.length+x.links.length < 300
 ·rw [decide_eq_true hb] at S8;by_cases hck:fO x.aA=0
  ·have hR:=wD.1 hck;have hF:tQ x:=⟨hR,by omega,by omega,hN⟩
   have hE:∀s ∈ x.aA,∀d ∈ s.cells,(d.text.toList==[])=false:=fun s hs d hd=>by have:=((sQ.1 (hR.ld s hs)).1 d hd).2;simpa using this
   by_cases he:nU x p.sh p.r p.c p.t=0
   ·obtain ⟨i,hi1,hi2⟩:=hF.put he;have hil:=oF hi1;have lb:=aG6 hil hR.hi (t:=⟨p.r,p.c,p.t⟩) ⟨hr,hc⟩ (Nat.le_refl _) ht lx;exact aAS h hhi hF hE p (putAt x i ⟨p.r,p.c,p.t⟩) (by rw [if_pos he,hi1];rfl) hi2.small ox (aNM hil ⟨hr,hc⟩ ox) (by omega) (by omega) T S8
   ·exact aAS h hhi hF hE p nP (by rw [if_neg he]) aEN ox aMp (by omega) (by have:=aEO;omega) T S8
  ·obtain ⟨sa,sc,rfl,_,_⟩:=h.sh.slice;obtain⟨na,nc,rfl,_,_⟩:=h.nm.slice;obtain⟨la,lc,rfl,_,_⟩:=h.lk.slice;have HB:∀u,Below w.heap.size w u->BkM lo hi u _ _ _ x/\hi<=u.heap.size/\dD u:=fun u hu=>⟨h.below hhi hu,Nat.le_trans hhi hu.size,T.below hu⟩
   exact aEP hck (fun u hu=>S8 u (HB u hu.bl).1 (HB u hu.bl).2.1) (fun u hu=>vG u (HB u hu.bl).2.2) (fun u hu=>zY (HB u hu.bl).1 (HB u hu.bl).2.1 hN hC (HB u hu.bl).2.2) (fun u hu=>aAK (HB u hu.bl).1 (HB u hu.bl).2.1 hN hC (HB u hu.bl).2.2)
 ·rw [decide_eq_false hb] at S8;obtain⟨sa,sc,rfl,_,_⟩:=h.sh.slice;obtain⟨na,nc,rfl,_,_⟩:=h.nm.slice;obtain⟨la,lc,rfl,_,_⟩:=h.lk.slice;have HB:∀u,Below w.heap.size w u->BkM lo hi u _ _ _ x/\hi<=u.heap.size/\dD u:=fun u hu=>⟨h.below hhi hu,Nat.le_trans hhi hu.size,T.below hu⟩
  exact aMq (fun u hu=>S8 u (HB u hu.bl).1 (HB u hu.bl).2.1) (fun u hu=>vG u (HB u hu.bl).2.2)
end Go.Proofs.YtlhoklhjbpkgpaaGreatDoor.Sh
namespace Go.Proofs.YtlhoklhjbpkgpaaGreatDoor.Sh.Ub
open Go.ChangeShapes Go.WideShapes Go.ChangeAt Go.WideElems Go.RowKit Go.Deep
theorem aKs {H:Type} (d:DataW H):1<=Rows.uptoBulk d:=by
 cases d with
 | lit l=>cases l <;> simp [Rows.uptoBulk]
 | nil=>simp [Rows.uptoBulk]
 | ptr d=>simp [Rows.uptoBulk]
 | slice elems spare=>simp [Rows.uptoBulk]
 | agg parts=>simp [Rows.uptoBulk]
 | iface t d=>simp [Rows.uptoBulk]
 | map entries=>simp [Rows.uptoBulk]
 | held h=>simp [Rows.uptoBulk]
theorem wf_i64 {n:Int} (h:(Lit.int .i64 n).wf=true):In64 n:=by have h1:IntKind.i64.min= -9223372036854775808:=rfl;have h2:IntKind.i64.max=9223372036854775807:=rfl;simp [Lit.wf] at h;constructor <;> omega
theorem aG7 {H α:Type} {B:α->List UInt8} {D:Nat->DataW H} (L:List α) (h:∀i c,L[i]? =some c->(B c).length<=10 * Rows.uptoBulk (D i)):(L.flatMap B).length<=10 * Rows.uptoBulkAll ((List.range L.length).map D):=by
 induction L generalizing D with
 | nil=>simp
 | cons x r ih=>
  have h0:=h 0 x rfl;have h1:=ih (D:=fun i=>D (i+1)) fun i c hi=>h (i+1) c (by simpa using hi);rw [List.length_cons,List.range_succ_eq_map,List.map_cons,List.map_map,List.flatMap_cons,List.length_append];simp only [Rows.uptoBulkAll];have e:(List.range r.length).map (D ∘ Nat.succ)=(List.range r.length).map fun i=>D (i+1):=rfl;rw [e];omega
theorem iI {H:Type} (s:ByteArray) (hs:s.size<=maxLen):(Bt.bJ s).length<=10 * Rows.uptoBulk (DataW.lit (H:=H) (.string s.data.toList)):=by have:=Bt.dJ (n:=s.size) (by unfold maxLen at hs;constructor <;> omega);rw [Bt.iW];simp only [Rows.uptoBulk,Array.length_toList];have e:s.data.size=s.size:=rfl;rw [e];omega
theorem mV {H:Type} {n:Int} (h:In64 n):(Bt.bH n).length<=10 * Rows.uptoBulk (DataW.lit (H:=H) (.int .i64 n)):=by have:=Bt.dJ h;simp only [Rows.uptoBulk];omega
section
variable {H:Type} {enc:TypeId × Value->H} {W:World} {sp:Nat->Bool} {held:Bool}
theorem pU {fuel:Nat} {cs:List Value} {y:DataW H × List MemPlace} (h:DataW.trod enc Tryz.prog W 0 sp held fuel 57 cs=some y):∃c:aK,cs=cellC c/\c.Ok/\(Bt.bE c).length<=10 * Rows.uptoBulk y.1:=by
 obtain⟨xs,n,_,rfl,hl,hxl,hf⟩:=DataW.trod_struct Tryz.underlying57 h;have hl3:cs.length=3:=hl.trans (by kernel_rfl)
 match xs,hxl,cs,hl3 with
 | [y0,y1,y2],_,[v0,v1,v2],_=>
  obtain⟨n0,e0,q0,w0⟩:=DataW.trod_int Tryz.underlying3 (hf 0 _ rfl);obtain⟨n1,e1,q1,w1⟩:=DataW.trod_int Tryz.underlying3 (hf 1 _ rfl);obtain⟨s2,e2,q2,w2⟩:=DataW.trod_string Tryz.underlying9 (hf 2 _ rfl);cases e0;cases e1;cases e2
  refine ⟨⟨n0,n1,s2⟩,rfl,⟨wf_i64 w0,wf_i64 w1⟩, ?_⟩;subst q0 q1 q2;have b0:=mV (H:=H) (wf_i64 w0);have b1:=mV (H:=H) (wf_i64 w1);have b2:=iI (H:=H) s2 w2;simp only [Bt.bE,List.length_append,List.map_cons,List.map_nil,Rows.uptoBulk,Rows.uptoBulkAll] at *;omega
theorem vH {fuel:Nat} {cs:List Value} {y:DataW H × List MemPlace} (h:DataW.trod enc Tryz.prog W 0 sp held fuel 89 cs=some y):∃c:eY,cs=kQ c/\(Bt.eT c).length<=10 * Rows.uptoBulk y.1:=by
 obtain⟨xs,n,_,rfl,hl,hxl,hf⟩:=DataW.trod_struct Tryz.underlying89 h;have hl3:cs.length=3:=hl.trans (by kernel_rfl)
 match xs,hxl,cs,hl3 with
 | [y0,y1,y2],_,[v0,v1,v2],_=>
  obtain⟨s0,e0,q0,w0⟩:=DataW.trod_string Tryz.underlying9 (hf 0 _ rfl);obtain⟨s1,e1,q1,w1⟩:=DataW.trod_string Tryz.underlying9 (hf 1 _ rfl);obtain⟨s2,e2,q2,w2⟩:=DataW.trod_string Tryz.underlying9 (hf 2 _ rfl);cases e0;cases e1;cases e2
  refine ⟨⟨s0,s1,s2⟩,rfl, ?_⟩;subst q0 q1 q2;have b0:=iI (H:=H) s0 w0;have b1:=iI (H:=H) s1 w1;have b2:=iI (H:=H) s2 w2;simp only [Bt.eT,List.length_append,List.map_cons,List.map_nil,Rows.uptoBulk,Rows.uptoBulkAll] at *;omega
theorem zL {fuel:Nat} {cs:List Value} {y:DataW H × List MemPlace} (h:DataW.trod enc Tryz.prog W 0 sp held fuel 62 cs=some y):∃c:sP,cs=[.int .i64 c.kind,.int .i64 c.n,.string c.s]/\c.Ok/\(Bt.zV c).length<=10 * Rows.uptoBulk y.1:=by
 obtain⟨xs,n,_,rfl,hl,hxl,hf⟩:=DataW.trod_struct Tryz.underlying62 h;have hl3:cs.length=3:=hl.trans (by kernel_rfl)
 match xs,hxl,cs,hl3 with
 | [y0,y1,y2],_,[v0,v1,v2],_=>
  obtain⟨n0,e0,q0,w0⟩:=DataW.trod_int Tryz.underlying3 (hf 0 _ rfl);obtain⟨n1,e1,q1,w1⟩:=DataW.trod_int Tryz.underlying3 (hf 1 _ rfl);obtain⟨s2,e2,q2,w2⟩:=DataW.trod_string Tryz.underlying9 (hf 2 _ rfl);cases e0;cases e1;cases e2
  refine ⟨⟨n0,n1,s2⟩,rfl,⟨wf_i64 w0,wf_i64 w1⟩, ?_⟩;subst q0 q1 q2;have b0:=mV (H:=H) (wf_i64 w0);have b1:=mV (H:=H) (wf_i64 w1);have b2:=iI (H:=H) s2 w2;simp only [Bt.zV,List.length_append,List.map_cons,List.map_nil,Rows.uptoBulk,Rows.uptoBulkAll] at *;omega
theorem vI {fuel:Nat} {cs:List Value} {y:DataW H × List MemPlace} (h:DataW.trod enc Tryz.prog W 0 sp held fuel 91 cs=some y):
  ∃c:dW,cs=kR c/\c.Ok/\(Bt.gB c).length<=10 * Rows.uptoBulk y.1:=by
 obtain⟨xs,n,_,rfl,hl,hxl,hf⟩:=DataW.trod_struct Tryz.underlying91 h;have hl3:cs.length=7:=hl.trans (by kernel_rfl)
 match xs,hxl,cs,hl3 with
 | [y0,y1,y2,y3,y4],_,[v0,v1,v2,v3,v4,v5,v6],_=>
  obtain⟨s0,e0,q0,w0⟩:=DataW.trod_string Tryz.underlying9 (hf 0 _ rfl);obtain⟨s1,e1,q1,w1⟩:=DataW.trod_string Tryz.underlying9 (hf 1 _ rfl);obtain⟨n2,e2,q2,w2⟩:=DataW.trod_int Tryz.underlying3 (hf 2 _ rfl);obtain⟨n3,e3,q3,w3⟩:=DataW.trod_int Tryz.underlying3 (hf 3 _ rfl);obtain⟨c4,e4,k4,b4⟩:=zL (hf 4 _ rfl);cases e0;cases e1;cases e2;cases e3
  obtain⟨rfl,rfl,rfl⟩:v4=.int .i64 c4.kind/\v5=.int .i64 c4.n/\v6=.string c4.s:=by have e4': [v4,v5,v6]=[.int .i64 c4.kind,.int .i64 c4.n,.string c4.s]:=e4;simpa using e4'
  refine ⟨⟨s0,s1,n2,n3,c4⟩,rfl,⟨wf_i64 w2,wf_i64 w3,k4⟩, ?_⟩;subst q0 q1 q2 q3;have b0:=iI (H:=H) s0 w0;have b1:=iI (H:=H) s1 w1;have b2:=mV (H:=H) (wf_i64 w2);have b3:=mV (H:=H) (wf_i64 w3);simp only [Bt.gB,List.length_append,List.map_cons,List.map_nil,Rows.uptoBulk,Rows.uptoBulkAll] at *;omega
theorem gY {t e:TypeId} {sz:Nat} {α:Type} {C:α->List Value} {B:α->List UInt8} {Q:α->Prop} {fuel:Nat} {v:Value} {x:DataW H × List MemPlace} (ht:Tryz.prog.underlying t=some (.slice e)) (hce:Tryz.prog.cellsOf e=sz) (hsz:0 < sz)
  (hC:∀{fuel:Nat} {cs:List Value} {y:DataW H × List MemPlace},DataW.trod enc Tryz.prog W 0 sp held fuel e cs=some y->∃c:α,cs=C c/\Q c/\(B c).length<=10 * Rows.uptoBulk y.1)
  (h:DataW.trod enc Tryz.prog W 0 sp held fuel t [v]=some x):
  ∃L:List α,Rws 0 W.heap.size sz W v L.length (fun j=>(L[j]?.map C).getD [])/\(∀(j:Nat) (c:α),L[j]? =some c->(C c).length=sz/\Q c)/\L.length<=Rows.uptoBulk x.1/\(Bt.cO B L).length<=10 * Rows.uptoBulk x.1/\L.length<=maxLen:=by
 rcases open_slice ht h with ⟨hcs,hx⟩ | ⟨a,len,cap,m,n,D,Pl,hcs,hb,hl,hm,hmm,hx,hel⟩
 ·simp at hcs;subst hcs hx;refine ⟨[],.inl ⟨rfl,rfl⟩,fun j c hj=>by simp at hj,by simp, ?_,by simp⟩;have:=Bt.dJ (n:=0) (by constructor <;> decide);simpa [Bt.cO,Rows.uptoBulk] using this
 ·simp at hcs;subst hcs hx;have hlm:len<=m:=by rw [hmm];split <;> omega
  obtain⟨L,hL,hP⟩:=aBC (α:=α) (P:=fun i c=>W.cells? 0 (a.add (i * sz)) sz=some (C c)/\Q c/\(B c).length<=10 * Rows.uptoBulk (D i)) len fun i hi=>by obtain⟨cs',k1,k2⟩:=hel i (by omega);rw [hce] at k1;obtain⟨c,rfl,q1,q2⟩:=hC k2;exact⟨c,k1,q1,q2⟩
  have hlen:∀(j:Nat) (c:α),L[j]? =some c->(C c).length=sz:=fun j c hj=>(World.cells?_some (hP j c hj).1).2.1;have hcell:∀(j:Nat) (c:α) (i:Nat) (u:Value),L[j]? =some c->(C c)[i]? =some u->W.cell? (a.add (j * sz+i))=some u:=fun j c i u hj hu=>by
   have h1:=World.cells?_some (hP j c hj).1;have hi:i < sz:=by
    rcases Nat.lt_or_ge i sz with h | h
    ·exact h
    ·rw [List.getElem?_eq_none (by rw [hlen j c hj];exact h)] at hu;cases hu
   have:=h1.2.2 i hi;rw [Go.Deep.add_add] at this;rw [this,hu]
  have hmax:len<=9223372036854775807:=by unfold maxLen at hm;omega
  have aFG:=aG7 (B:=B) (D:=D) L fun i c hi=>(hP i c hi).2.2;have aP1:=Bt.dJ (n:=L.length) (by constructor <;> omega);have aNN:∀n:Nat,n<=Rows.uptoBulkAll ((List.range n).map D):=fun n=>by
   have:∀l:List (DataW H),l.length<=Rows.uptoBulkAll l:=fun l=>by
    induction l with
    | nil=>simp
    | cons y r ih=>have:=aKs y;simp only [Rows.uptoBulkAll,List.length_cons];omega
   simpa using this ((List.range n).map D)
  refine ⟨L,.inr ⟨a,cap,by rw [hL],by omega,hm,fun h0=> ?_,fun j i u hj hu=> ?_⟩,fun j c hj=>⟨hlen j c hj,(hP j c hj).2.1⟩, ?_, ?_, ?_⟩
  ·obtain ⟨c,hc⟩:∃c,L[0]? =some c:=⟨L[0],List.getElem?_eq_getElem h0⟩
   have hl0:=hlen 0 c hc;obtain⟨y,r,e⟩:=List.exists_cons_of_ne_nil (l:=C c) (by intro e;rw [e] at hl0;simp at hl0;omega);have:=World.block_lt_of_cell? W _ (hcell 0 c 0 y hc (by rw [e];rfl));rw [jF] at this;exact⟨Nat.zero_le _,this⟩
  ·have hj':L[j]? =some L[j]:=List.getElem?_eq_getElem hj;dsimp only at hu;rw [hj'] at hu;exact hcell j _ i u hj' (by simpa using hu)
  ·have:=aNN len;simp only [Rows.uptoBulk];omega
  ·rw [hL] at aFG;simp only [Bt.cO,List.length_append,Rows.uptoBulk];omega
  ·rw [hL];omega
theorem oL {fuel:Nat} {v:Value} {x:DataW H × List MemPlace} (h:DataW.trod enc Tryz.prog W 0 sp held fuel 27 [v]=some x):∃L,Cls 0 W.heap.size W v L/\(∀c ∈ L,c.Ok)/\(Bt.cO Bt.bE L).length<=10 * Rows.uptoBulk x.1:=by obtain⟨L,h1,h2,_,h3,_⟩:=gY (C:=cellC) (B:=Bt.bE) (Q:=aK.Ok) Tryz.underlying27 (sz:=3) (by kernel_rfl) (by decide) pU h;refine ⟨L,h1,fun c hc=> ?_,h3⟩;obtain⟨j,hj⟩:=List.getElem?_of_mem hc;exact(h2 j c hj).2
theorem rE {fuel:Nat} {cs:List Value} {y:DataW H × List MemPlace} (h:DataW.trod enc Tryz.prog W 0 sp held fuel 78 cs=some y):∃c:aO × Value,cs=bN c.1 c.2/\(c.1.Ok/\Cls 0 W.heap.size W c.2 c.1.cells)/\(Bt.bC c.1).length<=10 * Rows.uptoBulk y.1:=by
 obtain⟨xs,n,_,rfl,hl,hxl,hf⟩:=DataW.trod_struct Tryz.underlying78 h;have hl3:cs.length=2:=hl.trans (by kernel_rfl)
 match xs,hxl,cs,hl3 with
 | [y0,y1],_,[v0,v1],_=>
  obtain⟨s0,e0,q0,w0⟩:=DataW.trod_string Tryz.underlying9 (hf 0 _ rfl);obtain⟨L,hc,k1,b1⟩:=oL (v:=v1) (x:=y1) (hf 1 _ rfl);cases e0
  refine ⟨(⟨s0,L⟩,v1),rfl,⟨k1,hc⟩, ?_⟩;subst q0;have b0:=iI (H:=H) s0 w0;simp only [Bt.bC,List.length_append,List.map_cons,List.map_nil,Rows.uptoBulk,Rows.uptoBulkAll] at *;omega
theorem zM {fuel:Nat} {v:Value} {x:DataW H × List MemPlace} (h:DataW.trod enc Tryz.prog W 0 sp held fuel 23 [v]=some x):∃L,Nms 0 W.heap.size W v L/\(Bt.cO Bt.eT L).length<=10 * Rows.uptoBulk x.1:=by obtain⟨L,h1,h2,_,h3,_⟩:=gY (C:=kQ) (B:=Bt.eT) (Q:=fun _=>True) Tryz.underlying23 (sz:=3) (by kernel_rfl) (by decide) (fun h=>by obtain⟨c,e,b⟩:=vH h;exact⟨c,e,trivial,b⟩) h;exact⟨L,h1,h3⟩
theorem zN {fuel:Nat} {v:Value} {x:DataW H × List MemPlace} (h:DataW.trod enc Tryz.prog W 0 sp held fuel 24 [v]=some x):∃L,Lks 0 W.heap.size W v L/\(∀c ∈ L,c.Ok)/\(Bt.cO Bt.gB L).length<=10 * Rows.uptoBulk x.1:=by obtain⟨L,h1,h2,_,h3,_⟩:=gY (C:=kR) (B:=Bt.gB) (Q:=dW.Ok) Tryz.underlying24 (sz:=7) (by kernel_rfl) (by decide) vI h;refine ⟨L,h1,fun c hc=> ?_,h3⟩;obtain⟨j,hj⟩:=List.getElem?_of_mem hc;exact(h2 j c hj).2
theorem zO {fuel:Nat} {v:Value} {x:DataW H × List MemPlace} (h:DataW.trod enc Tryz.prog W 0 sp held fuel 22 [v]=some x):∃L,Shs 0 W.heap.size W v L/\(∀c ∈ L,c.Ok)/\(Bt.cO Bt.bC L).length<=10 * Rows.uptoBulk x.1:=by
 obtain⟨L,h1,h2,_,h3,_⟩:=gY (C:=fun c:aO × Value=>bN c.1 c.2) (B:=fun c=>Bt.bC c.1) (Q:=fun c=>c.1.Ok/\Cls 0 W.heap.size W c.2 c.1.cells) Tryz.underlying22 (sz:=2) (by kernel_rfl) (by decide) rE h;refine ⟨L.map (·.1),⟨fun j=>((L[j]?).map (·.2)).getD (.slice none 0 0), ?_,fun j o hj=> ?_⟩,fun c hc=> ?_, ?_⟩
 ·rw [List.length_map];refine Rws.congr h1 fun j hj=> ?_;simp [iP,List.getElem?_eq_getElem hj]
 ·rw [List.getElem?_map] at hj;rcases hq:L[j]? with _ | c
  ·rw [hq] at hj;cases hj
  ·rw [hq] at hj;cases hj
   dsimp only;rw [hq];exact(h2 j c hq).2.2
 ·obtain ⟨y,hy,rfl⟩:=List.mem_map.1 hc;obtain⟨j,hj⟩:=List.getElem?_of_mem hy;exact(h2 j y hj).2.1
 ·simpa [Bt.cO,List.flatMap_map] using h3
theorem aAM {fuel:Nat} {cs:List Value} {y:DataW H × List MemPlace} (h:DataW.trod enc Tryz.prog W 0 sp held fuel 26 cs=some y):∃sv nv lv x,cs=[sv,nv,lv]/\BkM 0 W.heap.size W sv nv lv x/\x.Ok/\(Bt.dF x).length<=10 * Rows.uptoBulk y.1:=by
 obtain⟨xs,n,_,rfl,hl,hxl,hf⟩:=DataW.trod_struct Tryz.underlying26 h;have hl3:cs.length=3:=hl.trans (by kernel_rfl)
 match xs,hxl,cs,hl3 with
 | [y0,y1,y2],_,[v0,v1,v2],_=>
  obtain⟨L0,h0,k0,b0⟩:=zO (v:=v0) (x:=y0) (hf 0 _ rfl);obtain⟨L1,h1,b1⟩:=zM (v:=v1) (x:=y1) (hf 1 _ rfl);obtain⟨L2,h2,k2,b2⟩:=zN (v:=v2) (x:=y2) (hf 2 _ rfl);refine ⟨v0,v1,v2,⟨L0,L1,L2⟩,rfl,⟨h0,h1,h2⟩,⟨k0,k2⟩, ?_⟩;simp only [Bt.dF,List.length_append,List.map_cons,List.map_nil,Rows.uptoBulk,Rows.uptoBulkAll] at *;omega
theorem aC5 {fuel:Nat} {cs:List Value} {y:DataW H × List MemPlace} (h:DataW.trod enc Tryz.prog W 0 sp held fuel 29 cs=some y):∃p:rD,cs=zJ p/\In64 p.r/\In64 p.c/\p.t.size<=Rows.uptoBulk y.1/\p.sh.size<=Rows.uptoBulk y.1/\p.n<=Rows.uptoBulk y.1:=by
 obtain⟨xs,n,_,rfl,hl,hxl,hf⟩:=DataW.trod_struct Tryz.underlying29 h;have hl3:cs.length=6:=hl.trans (by kernel_rfl)
 match xs,hxl,cs,hl3 with
 | [y0,y1,y2,y3,y4,y5],_,[v0,v1,v2,v3,v4,v5],_=>
  obtain⟨s0,e0,q0,w0⟩:=DataW.trod_string Tryz.underlying9 (hf 0 _ rfl);obtain⟨n1,e1,q1,w1⟩:=DataW.trod_int Tryz.underlying3 (hf 1 _ rfl);obtain⟨n2,e2,q2,w2⟩:=DataW.trod_int Tryz.underlying3 (hf 2 _ rfl);obtain⟨s3,e3,q3,w3⟩:=DataW.trod_string Tryz.underlying9 (hf 3 _ rfl);obtain⟨n4,e4,q4,w4⟩:=DataW.trod_int Tryz.underlying3 (hf 4 _ rfl);obtain⟨L,hc,k5,b5⟩:=oL (v:=v5) (x:=y5) (hf 5 _ rfl);cases e0;cases e1;cases e2;cases e3;cases e4
  obtain⟨a,c,rfl,_,_⟩:=hc.slice;refine ⟨⟨s0,n1,n2,s3,n4,a,L.length,c⟩,rfl,wf_i64 w1,wf_i64 w2, ?_, ?_, ?_⟩;all_goals
   subst q0 q1 q2 q3 q4;have e0:s0.data.toList.length=s0.size:=by rw [Array.length_toList];rfl
   have e3:s3.data.toList.length=s3.size:=by rw [Array.length_toList];rfl
   simp only [List.map_cons,List.map_nil,Rows.uptoBulk,Rows.uptoBulkAll];first
    | omega
    | (obtain ⟨L2,h1,h2,h3,_⟩:=gY (C:=cellC) (B:=Bt.bE) (Q:=aK.Ok) Tryz.underlying27 (sz:=3) (by kernel_rfl) (by decide) pU (hf 5 _ rfl);obtain⟨a2,c2,e2,_,_⟩:=Rws.slice h1;injection e2 with _ e2 _;omega)
theorem aMr {r:Reach} {b0:Nat} {v:Value} {d:DataW H} {p:List MemPlace} (hv:Value.okWide Tryz.prog W r b0 26 v) (h:DataW.Trod enc Tryz.prog W 0 sp held 26 v d p):∃sv nv lv x,v=.agg #[sv,nv,lv]/\BkM 0 W.heap.size W sv nv lv x/\x.Ok/\(Bt.dF x).length<=10 * Rows.uptoBulk d:=by
 obtain⟨cs,rfl,hsz⟩:=okWide_struct Tryz.underlying26 hv;obtain⟨fuel,hf⟩:=h;obtain⟨sv,nv,lv,x,e,h1⟩:=aAM hf;refine ⟨sv,nv,lv,x, ?_,h1⟩;have:cs.toList=[sv,nv,lv]:=by simpa [Value.cells] using e
 have h2:cs=[sv,nv,lv].toArray:=by rw [<-this,Array.toArray_toList]
 rw [h2]
theorem aKt {r:Reach} {b0:Nat} {v:Value} {d:DataW H} {p:List MemPlace} (hv:Value.okWide Tryz.prog W r b0 29 v) (h:DataW.Trod enc Tryz.prog W 0 sp held 29 v d p):∃q:rD,v=aGK q/\In64 q.r/\In64 q.c/\q.t.size<=Rows.uptoBulk d/\q.sh.size<=Rows.uptoBulk d/\q.n<=Rows.uptoBulk d:=by
 obtain⟨cs,rfl,hsz⟩:=okWide_struct Tryz.underlying29 hv;obtain⟨fuel,hf⟩:=h;obtain⟨q,e,h1⟩:=aC5 hf;refine ⟨q, ?_,h1⟩;have:cs.toList=zJ q:=by simpa [Value.cells] using e
 have h2:cs=(zJ q).toArray:=by rw [<-this,Array.toArray_toList]
 rw [h2];rfl
end
theorem aG8 {w:World} (T:dD w) {sv nv lv:Value} {x:aU} (h:BkM 0 w.heap.size w sv nv lv x) (ox:x.Ok) {n m:Nat} (lx:(Bt.dF x).length<=10 * n) (q:rD) (hr:In64 q.r) (hc:In64 q.c) (ht:q.t.size<=m) (hn:n+m<=1048576):
  CR 3 #[.agg #[sv,nv,lv],aGK q] w (.bool true):=aKr h (Nat.le_refl _) ox (by omega) q hr hc (by omega) T
end Go.Proofs.YtlhoklhjbpkgpaaGreatDoor.Sh.Ub
