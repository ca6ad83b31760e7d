/- SRAW, SSW, SPV, SSV, SOpen, SPO, SSO. -/
import Derived.ChangeArms
import Derived.ChangeOld
import Derived.ChangeSame
import Derived.SizedLaws
import Derived.WideShapes
import Derived.Test.YtfedoljlipfhdaaGreatDoorSRAPw
set_option linter.unusedVariables false
set_option linter.unusedSimpArgs false
set_option maxHeartbeats 16000000
set_option maxRecDepth 100000
open Go.RowKit renaming Hid->Z,Below->κ
open Go.Proofs.Tryz renaming prog->X,underlying9->J,underlying3->K
open List renaming length_append->V,setIfInBounds_toArray->A,set_cons_zero->O,set_cons_succ->S,getElem?_eq_getElem->β,map_cons->μ,length_cons->ν,range->ξ,flatMap_cons->ρ,getElem?_eq_none->χ,flatMap_append->ψ,not_mem_nil->Ξ,length_map->Φ,length_take->z1,length_drop->z2
open Go.DataW renaming trod_string->U,trod->M,trod_struct->I,trod_int->N
open Go renaming Value->G,MemPlace->R,DataW->γ,reachBytes->ε,bodyPost_ret->η,setRow_other->ι,World->σ,maxLen->Δ,TypeId->Θ,Calls->Ψ,setRow_heap->Ω,heap_alloc_new->z3
open Nat renaming le_trans->E,le_refl->z,lt_of_lt_of_le->ζ,zero_le->π
open Go.Op renaming load->δ,store->θ,build->φ
open Go.RowKit.Below renaming refl->ο
open Go.Act renaming put->τ
open Bool renaming true->υ,false->Γ,false_eq_true->z0
open Go.Value renaming oneCell'->ω
namespace Go.Proofs.YtfedoljlipfhdaaGreatDoor.Sh
open Go.RowKit Go.Fm
theorem aKM {lo hi lo2 hi2:Nat} {w:σ} {sv nv lv:G} {x:aP} (h:BkM lo hi w sv nv lv x) (hhi:hi<=w.heap.size) (hz:Small x) (T:dS w) (s:ByteArray) (hs:s.size<=9223372036854775807) (at_:Int) {a:Option Addr} {c:Nat} {L:List aN} (hL:Cls lo2 hi2 w (.slice a L.length c) L) (hhi2:hi2<=w.heap.size) (hln:L.length<=1099511627776):
  Ψ X 29 #[.agg #[sv,nv,lv],.string s,.int .i64 at_,.slice a L.length c] w (jI w (aBv x s at_ L) (bZ x at_.toNat ⟨s,L⟩)):=by
 obtain⟨sa,sc,rfl,hs1,hs2⟩:=h.sh.slice;obtain⟨na,nc,rfl,_,_⟩:=h.nm.slice;obtain⟨la,lc,rfl,_,_⟩:=h.lk.slice;obtain⟨W,hW⟩:∃W,W=(w.alloc (bkO (.slice sa x.sheets.length sc) (.slice na x.names.length nc) (.slice la x.links.length lc))).alloc (.cells #[.slice none 0 0,.slice none 0 0,.slice none 0 0] 26):=⟨_,rfl⟩
 have HB0:κ w.heap.size w W:=by rw [hW];exact Sh.aC (Sh.aC (ο _ _) (z _) _) (z _) _
 have hX0:W.heap[w.heap.size]? =some (bkO (.slice sa x.sheets.length sc) (.slice na x.names.length nc) (.slice la x.links.length lc)):=by rw [hW,Below.heap_alloc _ _ _ (by simp)];exact z3 w _
 have hX1:W.heap[w.heap.size+1]? =some (.cells #[.slice none 0 0,.slice none 0 0,.slice none 0 0] 26):=by rw [hW];simpa using z3 (w.alloc (bkO (.slice sa x.sheets.length sc) (.slice na x.names.length nc) (.slice la x.links.length lc))) (.cells #[.slice none 0 0,.slice none 0 0,.slice none 0 0] 26)
 have hlen:x.sheets.length<=1000:=hz.sh;have KX:∀u,κ W.heap.size W u->u.heap[w.heap.size]? =some (bkO (.slice sa x.sheets.length sc) (.slice na x.names.length nc) (.slice la x.links.length lc))/\u.heap[w.heap.size+1]? =some (.cells #[.slice none 0 0,.slice none 0 0,.slice none 0 0] 26)/\κ w.heap.size w u:=fun u hu=>⟨(hu.block _ (aF hX0)).trans hX0,(hu.block _ (aF hX1)).trans hX1,Sh.aD HB0 HB0.size hu⟩
 have C76:Ψ X 48 #[.string s] W fun e u=>e=.returned (.bool (gnF s.data.toList))/\(u.cell? ⟨w.heap.size,0,none⟩=some (.slice sa x.sheets.length sc)/\u.cell? ⟨w.heap.size,1,none⟩=some (.slice na x.names.length nc)/\u.cell? ⟨w.heap.size,2,none⟩=some (.slice la x.links.length lc))/\Z (κ W.heap.size W u):=(iD s hs W).mono (by
  rintro e u ⟨rfl,hu⟩;exact⟨rfl,bE (KX u hu).1,hu⟩)
 have C20:Z (∀u,κ W.heap.size W u->Ψ X 21 #[.agg #[.slice sa x.sheets.length sc,.slice na x.names.length nc,.slice la x.links.length lc],.string s] u fun e v=>e=.returned (.int .i64 (iQ (eH x.sheets s)))/\(v.cell? ⟨w.heap.size,0,none⟩=some (.slice sa x.sheets.length sc)/\v.cell? ⟨w.heap.size,1,none⟩=some (.slice na x.names.length nc)/\v.cell? ⟨w.heap.size,2,none⟩=some (.slice la x.links.length lc))/\Z (κ W.heap.size W v)):=fun u hu=>(nI (h.below hhi (KX u hu).2.2) (E hhi (KX u hu).2.2.size) s).mono (by
  rintro e v ⟨rfl,hv⟩;have hv2:=Sh.aD hu hu.size hv;exact⟨rfl,bE (KX v hv2).1,hv2⟩)
 have C77:Z (∀u,κ W.heap.size W u->Ψ X 49 #[.slice a L.length c] u fun e v=>e=.returned (.int .i64 (rlF L))/\(v.cell? ⟨w.heap.size,0,none⟩=some (.slice sa x.sheets.length sc)/\v.cell? ⟨w.heap.size,1,none⟩=some (.slice na x.names.length nc)/\v.cell? ⟨w.heap.size,2,none⟩=some (.slice la x.links.length lc))/\Z (κ W.heap.size W v)):=fun u hu=>(aE1 (hL.below hhi2 (KX u hu).2.2) (E hhi2 (KX u hu).2.2.size)).mono (by
  rintro e v ⟨rfl,hv⟩;have hv2:=Sh.aD hu hu.size hv;exact⟨rfl,bE (KX v hv2).1,hv2⟩)
 have C55:Z (∀u,κ W.heap.size W u->Ψ X 50 #[.slice a L.length c] u fun e v=>e=.returned (.int .i64 (dM L))/\(v.cell? ⟨w.heap.size,0,none⟩=some (.slice sa x.sheets.length sc)/\v.cell? ⟨w.heap.size,1,none⟩=some (.slice na x.names.length nc)/\v.cell? ⟨w.heap.size,2,none⟩=some (.slice la x.links.length lc))/\Z (κ W.heap.size W v)):=fun u hu=>(aEQ (hL.below hhi2 (KX u hu).2.2) (E hhi2 (KX u hu).2.2.size) (T.below (KX u hu).2.2)).mono (by
  rintro e v ⟨rfl,hv⟩;have hv2:=Sh.aD hu hu.size hv;exact⟨rfl,bE (KX v hv2).1,hv2⟩)
 have hcz:=uY hz;have C24:Z (∀u,κ W.heap.size W u->Ψ X 25 #[.agg #[.slice sa x.sheets.length sc,.slice na x.names.length nc,.slice la x.links.length lc]] u fun e v=>e=.returned (.int .i64 (dN x.sheets:Nat))/\(v.cell? ⟨w.heap.size,0,none⟩=some (.slice sa x.sheets.length sc)/\v.cell? ⟨w.heap.size,1,none⟩=some (.slice na x.names.length nc)/\v.cell? ⟨w.heap.size,2,none⟩=some (.slice la x.links.length lc))/\Z (κ W.heap.size W v)):=fun u hu=>(aER (h.below hhi (KX u hu).2.2) (E hhi (KX u hu).2.2.size) (by omega)).mono (by
  rintro e v ⟨rfl,hv⟩;have hv2:=Sh.aD hu hu.size hv;exact⟨rfl,bE (KX v hv2).1,hv2⟩)
 have bU:Z (∀u,κ W.heap.size W u->_):=fun u hu=>lK (KX u hu).2.2 (KX u hu).2.1 (by omega);have HKX:Z _:=KX;have HH:Z (BkM lo hi w (.slice sa x.sheets.length sc) (.slice na x.names.length nc) (.slice la x.links.length lc) x):=h;have HZz:Z (Small x):=hz;have HLL:Z (Cls lo2 hi2 w (.slice a L.length c) L):=hL;have HW:Z ((w.alloc (bkO (.slice sa x.sheets.length sc) (.slice na x.names.length nc) (.slice la x.links.length lc))).alloc (.cells #[.slice none 0 0,.slice none 0 0,.slice none 0 0] 26)=W):=hW.symm;clear h HB0 hX0 hX1 hW hs1 hs2 KX hz T hL hs;unfold aBv;cases hg:gnF s.data.toList with
 | false=>
  rw [if_pos rfl];rw [hg] at C76;go_enter Tryz.func29,Tryz.ntmps29;go_wp2_with (first|(go_at_call 48;rw [HW.out];refine C76.mono ?_;clear C76;rintro e w1 ⟨rfl,⟨c10,c11,c12⟩,HB1⟩;obtain⟨RS,HZ,HBz⟩:=bU.out w1 HB1.out;clear bU)|((with_reducible show wL (φ 26 _));refine aY rfl 26 _ rfl _ _ (by go_simp) (bQ _) ?_)|((with_reducible show wL (θ 26 _ _));refine aA rfl 26 _ _ rfl _ _ _ rfl rfl RS.out ?_))
  refine η (res2 rfl rfl HZ.out rfl rfl) rfl ?_;exact⟨by rw [if_neg (by decide)];rfl,HBz.out⟩
 | true=>
  rw [if_neg (by decide)];rw [hg] at C76;clear hg;by_cases h7:0<=iQ (eH x.sheets s)
  ·rw [if_pos h7];generalize iQ (eH x.sheets s)=oi at *;go_enter Tryz.func29,Tryz.ntmps29;go_wp2_with (first|(go_at_call 48;rw [HW.out];refine C76.mono ?_;clear C76;rintro e w1 ⟨rfl,⟨c10,c11,c12⟩,HB1⟩)|(go_at_call 21;refine (C20.out _ HB1.out).mono ?_;clear C20;rintro e w2 ⟨rfl,⟨c20,c21,c22⟩,HB2⟩;obtain⟨RS,HZ,HBz⟩:=bU.out w2 HB2.out;clear bU)|((with_reducible show wL (φ 26 _));refine aY rfl 26 _ rfl _ _ (by go_simp) (bQ _) ?_)|((with_reducible show wL (θ 26 _ _));refine aA rfl 26 _ _ rfl _ _ _ rfl rfl RS.out ?_))
   refine η (res2 rfl rfl HZ.out rfl rfl) rfl ?_;exact⟨by rw [if_neg (by decide)];rfl,HBz.out⟩
  ·rw [if_neg h7];generalize iQ (eH x.sheets s)=oi at *;have h7d:decide (0<=oi)=Γ:=by simpa using h7
   clear h7;by_cases h9:at_ < 0\/(x.sheets.length:Int) < at_\/laidB L=Γ\/dM L ≠ 0
   ·rw [if_pos h9];by_cases g1:at_ < 0
    ·clear h9;go_enter Tryz.func29,Tryz.ntmps29;go_wp2_with (first|(go_at_call 48;rw [HW.out];refine C76.mono ?_;clear C76;rintro e w1 ⟨rfl,⟨c10,c11,c12⟩,HB1⟩)|(go_at_call 21;refine (C20.out _ HB1.out).mono ?_;clear C20;rintro e w2 ⟨rfl,⟨c20,c21,c22⟩,HB2⟩;obtain⟨RS,HZ,HBz⟩:=bU.out w2 HB2.out;clear bU)|((with_reducible show wL (φ 26 _));refine aY rfl 26 _ rfl _ _ (by go_simp) (bQ _) ?_)|((with_reducible show wL (θ 26 _ _));refine aA rfl 26 _ _ rfl _ _ _ rfl rfl RS.out ?_))
     refine η (res2 rfl rfl HZ.out rfl rfl) rfl ?_;exact⟨by rw [if_neg (by decide)];rfl,HBz.out⟩
    ·have g1d:decide (at_ < 0)=Γ:=by simpa using g1
     by_cases g2:(x.sheets.length:Int) < at_
     ·clear h9 g1;go_enter Tryz.func29,Tryz.ntmps29;go_wp2_with (first|(go_at_call 48;rw [HW.out];refine C76.mono ?_;clear C76;rintro e w1 ⟨rfl,⟨c10,c11,c12⟩,HB1⟩)|(go_at_call 21;refine (C20.out _ HB1.out).mono ?_;clear C20;rintro e w2 ⟨rfl,⟨c20,c21,c22⟩,HB2⟩;obtain⟨RS,HZ,HBz⟩:=bU.out w2 HB2.out;clear bU)|((with_reducible show wL (φ 26 _));refine aY rfl 26 _ rfl _ _ (by go_simp) (bQ _) ?_)|((with_reducible show wL (θ 26 _ _));refine aA rfl 26 _ _ rfl _ _ _ rfl rfl RS.out ?_))
      refine η (res2 rfl rfl HZ.out rfl rfl) rfl ?_;exact⟨by rw [if_neg (by decide)];rfl,HBz.out⟩
     ·have g2d:decide ((x.sheets.length:Int) < at_)=Γ:=by simpa using g2
      cases g3:laidB L with
      | false=>
       rw [show rlF L=9 from by unfold rlF;rw [g3];rfl] at C77;clear h9 g1 g2;go_enter Tryz.func29,Tryz.ntmps29;go_wp2_with (first|(go_at_call 48;rw [HW.out];refine C76.mono ?_;clear C76;rintro e w1 ⟨rfl,⟨c10,c11,c12⟩,HB1⟩)|(go_at_call 21;refine (C20.out _ HB1.out).mono ?_;clear C20;rintro e w2 ⟨rfl,⟨c20,c21,c22⟩,HB2⟩)|(go_at_call 49;refine (C77.out _ HB2.out).mono ?_;clear C77;rintro e w3 ⟨rfl,⟨c30,c31,c32⟩,HB3⟩;obtain⟨RS,HZ,HBz⟩:=bU.out w3 HB3.out;clear bU)|((with_reducible show wL (φ 26 _));refine aY rfl 26 _ rfl _ _ (by go_simp) (bQ _) ?_)|((with_reducible show wL (θ 26 _ _));refine aA rfl 26 _ _ rfl _ _ _ rfl rfl RS.out ?_))
       refine η (res2 rfl rfl HZ.out rfl rfl) rfl ?_;exact⟨by rw [if_neg (by decide)];rfl,HBz.out⟩
      | true=>
       rw [show rlF L=0 from by unfold rlF;rw [g3];rfl] at C77;have g4:dM L ≠ 0:=by
        rcases h9 with e | e | e | e
        ·exact absurd e g1
        ·exact absurd e g2
        ·rw [g3] at e;cases e
        ·exact e
       have g4b:(dM L !=0)=υ:=by simpa using g4
       generalize dM L=tf at *;clear h9 g1 g2 g4;go_enter Tryz.func29,Tryz.ntmps29;go_wp2_with (first|(go_at_call 48;rw [HW.out];refine C76.mono ?_;clear C76;rintro e w1 ⟨rfl,⟨c10,c11,c12⟩,HB1⟩)|(go_at_call 21;refine (C20.out _ HB1.out).mono ?_;clear C20;rintro e w2 ⟨rfl,⟨c20,c21,c22⟩,HB2⟩)|(go_at_call 49;refine (C77.out _ HB2.out).mono ?_;clear C77;rintro e w3 ⟨rfl,⟨c30,c31,c32⟩,HB3⟩)|(go_at_call 50;refine (C55.out _ HB3.out).mono ?_;clear C55;rintro e w4 ⟨rfl,⟨c40,c41,c42⟩,HB4⟩;obtain⟨RS,HZ,HBz⟩:=bU.out w4 HB4.out;clear bU)|((with_reducible show wL (φ 26 _));refine aY rfl 26 _ rfl _ _ (by go_simp) (bQ _) ?_)|((with_reducible show wL (θ 26 _ _));refine aA rfl 26 _ _ rfl _ _ _ rfl rfl RS.out ?_))
       refine η (res2 rfl rfl HZ.out rfl rfl) rfl ?_;exact⟨by rw [if_neg (by decide)];rfl,HBz.out⟩
   ·rw [if_neg h9];obtain⟨j,rfl⟩:∃j:Nat,at_=(j:Int):=⟨at_.toNat,by omega⟩
    have hj:j<=x.sheets.length:=by omega
    have g1d:decide ((j:Int) < 0)=Γ:=by simp
    have g2p:¬(x.sheets.length:Int) < (j:Int):=by omega
    have g3:laidB L=υ:=by
     cases e:laidB L with
     | true=>rfl
     | false=>exact absurd (.inr (.inr (.inl e))) h9
    have g4:dM L=0:=Classical.byContradiction fun e=>h9 (.inr (.inr (.inr e)));rw [show rlF L=0 from by unfold rlF;rw [g3];rfl] at C77;rw [g4] at C55;clear h9 g3 g4;by_cases h15:4<=x.sheets.length
    ·rw [if_pos h15];have aNz:(4:Int)<=(x.sheets.length:Int):=by omega
     clear h15 hj;have HLN:Z (x.sheets.length<=1000):=hlen;go_enter Tryz.func29,Tryz.ntmps29;go_wp2_with (first|(go_at_call 48;rw [HW.out];refine C76.mono ?_;clear C76;rintro e w1 ⟨rfl,⟨c10,c11,c12⟩,HB1⟩)|(go_at_call 21;refine (C20.out _ HB1.out).mono ?_;clear C20;rintro e w2 ⟨rfl,⟨c20,c21,c22⟩,HB2⟩)|(go_at_call 49;refine (C77.out _ HB2.out).mono ?_;clear C77;rintro e w3 ⟨rfl,⟨c30,c31,c32⟩,HB3⟩)|(go_at_call 50;refine (C55.out _ HB3.out).mono ?_;clear C55;rintro e w4 ⟨rfl,⟨c40,c41,c42⟩,HB4⟩;obtain⟨RS,HZ,HBz⟩:=bU.out w4 HB4.out;clear bU)|((with_reducible show wL (φ 26 _));refine aY rfl 26 _ rfl _ _ (by go_simp) (bQ _) ?_)|((with_reducible show wL (θ 26 _ _));refine aA rfl 26 _ _ rfl _ _ _ rfl rfl RS.out ?_))
     refine η (res2 rfl rfl HZ.out rfl rfl) rfl ?_;exact⟨by rw [if_neg (by decide)];rfl,HBz.out⟩
    ·rw [if_neg h15];have aNz:¬(4:Int)<=(x.sheets.length:Int):=by omega
     obtain⟨q,hq⟩:∃q,q=dN x.sheets+L.length:=⟨_,rfl⟩
     have e1:(dN x.sheets:Int)+(L.length:Int)=(q:Int):=by omega
     have e2:IntKind.i64.wrap (q:Int)=(q:Int):=by rw [IntKind.wrap_i64];omega
     rw [<-hq];by_cases h5:200 < q
     ·rw [if_pos h5];have h5p:(200:Int) < (q:Int):=by omega
      generalize dN x.sheets=ct at *;clear h5 hq hcz hj h15;go_enter Tryz.func29,Tryz.ntmps29;go_wp2_with (first|(go_at_call 48;rw [HW.out];refine C76.mono ?_;clear C76;rintro e w1 ⟨rfl,⟨c10,c11,c12⟩,HB1⟩)|(go_at_call 21;refine (C20.out _ HB1.out).mono ?_;clear C20;rintro e w2 ⟨rfl,⟨c20,c21,c22⟩,HB2⟩)|(go_at_call 49;refine (C77.out _ HB2.out).mono ?_;clear C77;rintro e w3 ⟨rfl,⟨c30,c31,c32⟩,HB3⟩)|(go_at_call 50;refine (C55.out _ HB3.out).mono ?_;clear C55;rintro e w4 ⟨rfl,⟨c40,c41,c42⟩,HB4⟩)|(go_at_call 25;refine (C24.out _ HB4.out).mono ?_;clear C24;rintro e w5 ⟨rfl,⟨c50,c51,c52⟩,HB5⟩;obtain⟨RS,HZ,HBz⟩:=bU.out w5 HB5.out;clear bU)|((with_reducible show wL (φ 26 _));refine aY rfl 26 _ rfl _ _ (by go_simp) (bQ _) ?_)|((with_reducible show wL (θ 26 _ _));refine aA rfl 26 _ _ rfl _ _ _ rfl rfl RS.out ?_))
      refine η (res2 rfl rfl HZ.out rfl rfl) rfl ?_;exact⟨by rw [if_neg (by decide)];rfl,HBz.out⟩
     ·rw [if_neg h5];have h5p:¬(200:Int) < (q:Int):=by omega
      have hL2:L.length<=1000:=by omega
      have C5:Z (∀u,κ W.heap.size W u->_):=fun u hu=>aHp (w:=w) (j:=j) (HH.out.below hhi (HKX.out u hu).2.2) (E hhi (HKX.out u hu).2.2.size) HZz.out hj (HKX.out u hu).2.2 (HKX.out u hu).2.1 s HLL.out hhi2 hL2;have HOK:Z (∀sv nv lv w6,dD w.heap.size w6 sv nv lv (bZ x j ⟨s,L⟩)->κ w.heap.size w w6->jI w 0 (bZ x j ⟨s,L⟩) (.returned (.tuple #[.agg #[sv,nv,lv],.int .i64 0])) w6):=fun sv nv lv w6 h1 h2=>⟨by rw [if_pos rfl];exact⟨_,_,_,rfl,h1⟩,h2⟩
      rw [Int.toNat_natCast];generalize jI w 0 (bZ x j ⟨s,L⟩)=Q0 at *;generalize bZ x j ⟨s,L⟩=Y at *;generalize dN x.sheets=ct at *;clear h5 hq hcz h15 bU HH HZz HLL hj;obtain⟨n1',hn1'⟩:∃n1',n1'=x.sheets.length+1:=⟨_,rfl⟩
      obtain⟨n2',aOT⟩:∃n2',n2'=x.sheets.length - j:=⟨_,rfl⟩
      rw [<-hn1',<-aOT] at C5;clear hn1' aOT;go_enter Tryz.func29,Tryz.ntmps29;go_wp2_with (first|(go_at_call 48;rw [HW.out];refine C76.mono ?_;clear C76;rintro e w1 ⟨rfl,⟨c10,c11,c12⟩,HB1⟩)|(go_at_call 21;refine (C20.out _ HB1.out).mono ?_;clear C20;rintro e w2 ⟨rfl,⟨c20,c21,c22⟩,HB2⟩)|(go_at_call 49;refine (C77.out _ HB2.out).mono ?_;clear C77;rintro e w3 ⟨rfl,⟨c30,c31,c32⟩,HB3⟩)|(go_at_call 50;refine (C55.out _ HB3.out).mono ?_;clear C55;rintro e w4 ⟨rfl,⟨c40,c41,c42⟩,HB4⟩)|(go_at_call 25;refine (C24.out _ HB4.out).mono ?_;clear C24;rintro e w5 ⟨rfl,⟨c50,c51,c52⟩,HB5⟩)|(go_at_call 12;refine (C5.out _ HB5.out).mono ?_;clear C5;rintro e v ⟨p0,k0,p1,n1,k1,p2,n2,k2,qa,qc,u2,U3,U4,rfl,RA,ST,d1,d2,HU4,HS,a1,b1,a2,b2,S1,S2,⟨v1,w6,v2,w7,pa,pc,w8,A1,A2,A3,T1,T1a,T2,T3,RS5,F1⟩,⟨v3,w9,v4,w10,qa2,qc2,w11,A4,A5,A6,T4a,T4,T5,T6,aQh,F2⟩⟩)|(at_builtin;refine eF rfl _ _ 27 27 rfl _ _ _ _ rfl rfl RA.out ?_;clear RA)|((with_reducible show wL (θ 78 _ _));refine aA rfl 78 _ _ rfl _ _ _ rfl rfl ST.out ?_;clear ST))
      rw [HU4.out];refine aO (fun u=>AdS v.heap.size u2.heap.size U3.heap.size (.slice p0 x.sheets.length k0) (dF s (.slice qa L.length qc)) u) (fun k=>k==16) (by kernel_rfl) ?_;refine dwp 0 ((pt U3.heap.size)) ?_;refine dwl 1 ((.slice none 0 0)) ?_ (hS:=HS.out) (hy:=(fun u hSu=>aJ rfl rfl (aGZ hSu.2.2)));refine dwp 2 ((pt v.heap.size)) ?_;refine dwl 3 ((.slice p0 x.sheets.length k0)) ?_ (hS:=HS.out) (hy:=(fun u hSu=>aJ rfl rfl (aGZ hSu.1)));refine dwp 4 ((.int .i64 (j:Int))) ?_;refine dwp 5 ((.slice a1 j b1)) ?_ (hy:=(fun u=>dH rfl rfl rfl rfl rfl (S1.out u)));refine dwl 7 ((.agg #[.string s,.slice qa L.length qc])) ?_ (hS:=HS.out) (hy:=(fun u hSu=>aJ rfl rfl (aNP hSu.2.1)));refine dwp 10 ((pt v.heap.size)) ?_;refine dwl 11 ((.slice p0 x.sheets.length k0)) ?_ (hS:=HS.out) (hy:=(fun u hSu=>aJ rfl rfl (aGZ hSu.1)));refine dwp 12 ((.int .i64 (j:Int))) ?_;refine dwp 13 ((.slice a2 n2' b2)) ?_ (hy:=(fun u=>dH rfl rfl rfl rfl rfl (S2.out u)));refine rC (i:=6) (j:=8) (by kernel_rfl) rfl rfl ?_ ?_
      ·intro K' hK';rw [if_pos (by rfl)];refine dI rfl rfl rfl A1.out ?_;refine hK' _ _ (.inr fun _=>T1.out) ?_;clear hK';try simp only [τ,A,O,S]
       refine aH (i:=8) (by kernel_rfl) rfl ?_;intro K' hK';rw [if_pos (by rfl)];refine gZ rfl (by go_simp) (gT w6 s qa L.length qc) ?_;refine hK' _ _ (.inr fun _=>T1a.out) ?_;clear hK';try simp only [τ,A,O,S]
       refine aH (i:=9) (by kernel_rfl) rfl ?_;intro K' hK';rw [if_pos (by rfl)];refine dI rfl rfl rfl A2.out ?_;refine hK' _ _ (.inr fun _=>T2.out) ?_;clear hK';try simp only [τ,A,O,S]
       refine aH (i:=14) (by kernel_rfl) rfl ?_;intro K' hK';rw [if_pos (by rfl)];refine dI rfl rfl rfl A3.out ?_;refine hK' _ _ (.inr fun _=>T3.out) ?_;clear hK';try simp only [τ,A,O,S]
       refine dwp 15 ((pt U3.heap.size)) ?_;refine aH (i:=16) (by kernel_rfl) rfl ?_;intro K' hK';go_simp;obtain⟨w12,c60,f60,RL6,RS7,HG6,HO6,HB6⟩:=F1.out;simp only [c60,f60,z0,if_false,Result.andThen_ok];show K' _ _;refine hK' _ _ (.inl rfl) ?_;clear hK';try simp only [τ,A,O,S]
       refine aM (by kernel_rfl) ?_ _;go_wp2_with (first|((with_reducible show wL (δ 26 _));refine aB rfl 26 _ rfl _ _ rfl RL6.out ?_;clear RL6)|((with_reducible show wL (θ 26 _ _));refine aA rfl 26 _ _ rfl _ _ _ rfl rfl RS7.out ?_;clear RS7))
       refine η (res2 rfl rfl HG6.out rfl rfl) rfl ?_;exact HOK.out _ _ _ _ HO6.out HB6.out
      ·intro K' hK';rw [if_pos (by rfl)];refine gZ rfl (by go_simp) (gT U4.drew s qa L.length qc) ?_;refine hK' _ _ (.inr fun _=>T4a.out) ?_;clear hK';try simp only [τ,A,O,S]
       refine aH (i:=6) (by kernel_rfl) rfl ?_;intro K' hK';rw [if_pos (by rfl)];refine dI rfl rfl rfl A4.out ?_;refine hK' _ _ (.inr fun _=>T4.out) ?_;clear hK';try simp only [τ,A,O,S]
       refine aH (i:=9) (by kernel_rfl) rfl ?_;intro K' hK';rw [if_pos (by rfl)];refine dI rfl rfl rfl A5.out ?_;refine hK' _ _ (.inr fun _=>T5.out) ?_;clear hK';try simp only [τ,A,O,S]
       refine aH (i:=14) (by kernel_rfl) rfl ?_;intro K' hK';rw [if_pos (by rfl)];refine dI rfl rfl rfl A6.out ?_;refine hK' _ _ (.inr fun _=>T6.out) ?_;clear hK';try simp only [τ,A,O,S]
       refine dwp 15 ((pt U3.heap.size)) ?_;refine aH (i:=16) (by kernel_rfl) rfl ?_;intro K' hK';go_simp;obtain⟨w12,c60,f60,RL6,RS7,HG6,HO6,HB6⟩:=F2.out;simp only [c60,f60,z0,if_false,Result.andThen_ok];show K' _ _;refine hK' _ _ (.inl rfl) ?_;clear hK';try simp only [τ,A,O,S]
       refine aM (by kernel_rfl) ?_ _;go_wp2_with (first|((with_reducible show wL (δ 26 _));refine aB rfl 26 _ rfl _ _ rfl RL6.out ?_;clear RL6)|((with_reducible show wL (θ 26 _ _));refine aA rfl 26 _ _ rfl _ _ _ rfl rfl RS7.out ?_;clear RS7))
       refine η (res2 rfl rfl HG6.out rfl rfl) rfl ?_;exact HOK.out _ _ _ _ HO6.out HB6.out
theorem PS.row {w u:σ} {a1 a2 a3:G} {p:tZ} {g:Nat} (h:PS w a1 a2 a3 p u) (hg:w.heap.size+1 < g) (es:Array G):PS w a1 a2 a3 p (u.setRow g es):=
 ⟨(ι _ _ _ _ (by omega)).trans h.b0,(ι _ _ _ _ (by omega)).trans h.b1,below_setRow h.bl (by omega) _⟩
theorem BB.row {g lo hi k:Nat} {c1 c2 c3:G} {y:aP} {u:σ} (h:BB g c1 c2 c3 lo hi y u) (hg:g < k) (es:Array G):BB g c1 c2 c3 lo hi y (u.setRow k es):=
 ⟨(ι _ _ _ _ (by omega)).trans h.bx,h.bk.kept fun i _ hi'=>ι _ _ _ _ (by have:=h.hh;omega),h.hh⟩
theorem dD.row {l g:Nat} {u:σ} {c1 c2 c3:G} {y:aP} (h:dD l u c1 c2 c3 y) (hg:g < l) (es:Array G):dD l (u.setRow g es) c1 c2 c3 y:=by obtain⟨cv,h1,h2⟩:=h.sh;have k:∀{t:Θ} {sz n:Nat} {v:G} {xs:List G},u.ownsRow l t sz v n xs->(u.setRow g es).ownsRow l t sz v n xs:=fun q=>bT q fun j hj=>ι _ _ _ _ (by have:=(World.ownsRow.lt q j hj).1;omega);exact⟨⟨cv,k h1,fun j o hj=>k (h2 j o hj)⟩,k h.nm,k h.lk⟩
theorem dD.any {l:Nat} {u:σ} {c1 c2 c3:G} {y:aP} (h:dD l u c1 c2 c3 y):BkM 0 u.heap.size u c1 c2 c3 y:=h.bkm.mono (π _) (z _)
abbrev Ans (f:Nat) (as1:Array G) (u:σ) (err:Int) (y:aP):Prop:=Ψ X f as1 u fun e v=>∃c1 n1 m1 c2 n2 m2 c3 n3 m3,e=.returned (.tuple #[.agg #[.slice c1 n1 m1,.slice c2 n2 m2,.slice c3 n3 m3],.int .i64 err])/\dD u.heap.size v (.slice c1 n1 m1) (.slice c2 n2 m2) (.slice c3 n3 m3) y/\κ u.heap.size u v
abbrev kG (y:aP):Prop:=Small y/\y.Ok/\(Bt.dA y).length+10<=140737488355328
theorem aDA {lo hi lo2 hi2:Nat} {w:σ} {sv nv lv:G} {x:aP} (h:BkM lo hi w sv nv lv x) (hhi:hi<=w.heap.size) (gx:kG x) (p:tZ) {L:List aN} (hpn:p.n=L.length) (hL:Cls lo2 hi2 w (.slice p.a L.length p.m) L) (hhi2:hi2<=w.heap.size) (hn5:L.length<=500) (hsh:p.sh.size<=9223372036854775807)
  (yA yD yM:aP) (hyA:yA=if aBv x p.sh p.at1 L=0 then bZ x p.at1.toNat ⟨p.sh,L⟩ else iZ) (hyD:yD=if qD x p.sh=0 then bJ x ((eH x.sheets p.sh).getD 0) else iZ) (hyM:yM=if qE x p.sh p.at1=0 then dU x ((eH x.sheets p.sh).getD 0) p.at1.toNat else iZ) (gA:kG yA) (gD:kG yD) (gM:kG yM) (T:dS w)
  (h8:∀u,BkM lo hi u sv nv lv x->hi<=u.heap.size->CR 8 #[.agg #[sv,nv,lv]] u (.bool υ)):
  CR 4 #[.agg #[sv,nv,lv],aKI p] w (.bool υ):=by
 have hz:=gx.1;obtain⟨sa,sc,rfl,_,_⟩:=h.sh.slice;obtain⟨na,nc,rfl,_,_⟩:=h.nm.slice;obtain⟨la,lc,rfl,_,_⟩:=h.lk.slice;have HX:Z (PS w (.slice sa x.sheets.length sc) (.slice na x.names.length nc) (.slice la x.links.length lc) p ((w.alloc (bkO (.slice sa x.sheets.length sc) (.slice na x.names.length nc) (.slice la x.links.length lc))).alloc (.cells (aBO p).toArray 29))):=PS.new _ _ _ _ _;have HB:Z (∀u,PS w (.slice sa x.sheets.length sc) (.slice na x.names.length nc) (.slice la x.links.length lc) p u->BkM lo hi u (.slice sa x.sheets.length sc) (.slice na x.names.length nc) (.slice la x.links.length lc) x/\hi<=u.heap.size/\dS u/\Cls lo2 hi2 u (.slice p.a L.length p.m) L/\hi2<=u.heap.size):=fun u hu=>⟨h.below hhi hu.bl,E hhi hu.bl.size,T.below hu.bl,hL.below hhi2 hu.bl,E hhi2 hu.bl.size⟩
 have H8:Z (∀u,PS w (.slice sa x.sheets.length sc) (.slice na x.names.length nc) (.slice la x.links.length lc) p u->CR 8 #[.agg #[.slice sa x.sheets.length sc,.slice na x.names.length nc,.slice la x.links.length lc]] u (.bool υ)):=fun u hu=>h8 u (HB.out u hu).1 (HB.out u hu).2.1;have H9:Z (∀u,PS w (.slice sa x.sheets.length sc) (.slice na x.names.length nc) (.slice la x.links.length lc) p u->CR 9 #[] u (.bool υ)):=fun u hu=>aAQ u (HB.out u hu).2.2.1;have H12:Z (∀u,PS w (.slice sa x.sheets.length sc) (.slice na x.names.length nc) (.slice la x.links.length lc) p u->Ψ X 12 #[.agg #[.slice sa x.sheets.length sc,.slice na x.names.length nc,.slice la x.links.length lc]] u fun e v=>∃c1 n1 m1 c2 n2 m2 c3 n3 m3,e=.returned (.agg #[.slice c1 n1 m1,.slice c2 n2 m2,.slice c3 n3 m3])/\dD u.heap.size v (.slice c1 n1 m1) (.slice c2 n2 m2) (.slice c3 n3 m3) x/\κ u.heap.size u v):=fun u hu=>(pJ (HB.out u hu).1 (HB.out u hu).2.1 hz).mono (by
  rintro e v ⟨s1,n1,l1,rfl,ho,hb⟩;obtain⟨cv,q1,_⟩:=ho.sh;obtain⟨c1,k1,rfl⟩:=aW q1;obtain⟨c2,k2,rfl⟩:=aW ho.nm;obtain⟨c3,k3,rfl⟩:=aW ho.lk;exact⟨c1,_,k1,c2,_,k2,c3,_,k3,rfl,ho,hb⟩)
 have H28:Z (∀u,PS w (.slice sa x.sheets.length sc) (.slice na x.names.length nc) (.slice la x.links.length lc) p u->Ans 28 #[.agg #[.slice sa x.sheets.length sc,.slice na x.names.length nc,.slice la x.links.length lc],.string p.sh,.int .i64 p.at1,.slice p.a L.length p.m] u (aBv x p.sh p.at1 L) yA):=fun u hu=>by rw [hyA];exact(aLZ (HB.out u hu).1 (HB.out u hu).2.1 hz (HB.out u hu).2.2.1 p.sh hsh p.at1 (HB.out u hu).2.2.2.1 (HB.out u hu).2.2.2.2 (by omega)).mono fun e v hh=>hh.all
 have H29:Z (∀u,PS w (.slice sa x.sheets.length sc) (.slice na x.names.length nc) (.slice la x.links.length lc) p u->Ans 29 #[.agg #[.slice sa x.sheets.length sc,.slice na x.names.length nc,.slice la x.links.length lc],.string p.sh,.int .i64 p.at1,.slice p.a L.length p.m] u (aBv x p.sh p.at1 L) yA):=fun u hu=>by rw [hyA];exact(aKM (HB.out u hu).1 (HB.out u hu).2.1 hz (HB.out u hu).2.2.1 p.sh hsh p.at1 (HB.out u hu).2.2.2.1 (HB.out u hu).2.2.2.2 (by omega)).mono fun e v hh=>hh.all
 have H30:Z (∀u,PS w (.slice sa x.sheets.length sc) (.slice na x.names.length nc) (.slice la x.links.length lc) p u->Ans 30 #[.agg #[.slice sa x.sheets.length sc,.slice na x.names.length nc,.slice la x.links.length lc],.string p.sh] u (qD x p.sh) yD):=fun u hu=>by rw [hyD];exact(aDb (HB.out u hu).1 (HB.out u hu).2.1 hz p.sh).mono fun e v hh=>hh.all
 have H31:Z (∀u,PS w (.slice sa x.sheets.length sc) (.slice na x.names.length nc) (.slice la x.links.length lc) p u->Ans 31 #[.agg #[.slice sa x.sheets.length sc,.slice na x.names.length nc,.slice la x.links.length lc],.string p.sh] u (qD x p.sh) yD):=fun u hu=>by rw [hyD];exact(aHd (HB.out u hu).1 (HB.out u hu).2.1 hz p.sh).mono fun e v hh=>hh.all
 have H32:Z (∀u,PS w (.slice sa x.sheets.length sc) (.slice na x.names.length nc) (.slice la x.links.length lc) p u->Ans 32 #[.agg #[.slice sa x.sheets.length sc,.slice na x.names.length nc,.slice la x.links.length lc],.string p.sh,.int .i64 p.at1] u (qE x p.sh p.at1) yM):=fun u hu=>by rw [hyM];exact(aKL (HB.out u hu).1 (HB.out u hu).2.1 hz p.sh p.at1).mono fun e v hh=>hh.all
 have H33:Z (∀u,PS w (.slice sa x.sheets.length sc) (.slice na x.names.length nc) (.slice la x.links.length lc) p u->Ans 33 #[.agg #[.slice sa x.sheets.length sc,.slice na x.names.length nc,.slice la x.links.length lc],.string p.sh,.int .i64 p.at1] u (qE x p.sh p.at1) yM):=fun u hu=>by rw [hyM];exact(aHo (HB.out u hu).1 (HB.out u hu).2.1 hz p.sh p.at1).mono fun e v hh=>hh.all
 have H15:Z (∀(y:aP),kG y->∀(u:σ) (s1 t1 l1 s2 t2 l2:G) (err:Int),BkM 0 u.heap.size u s1 t1 l1 y->BkM 0 u.heap.size u s2 t2 l2 y->CR 15 #[.agg #[s1,t1,l1],.int .i64 err,.agg #[s2,t2,l2],.int .i64 err] u (.bool υ)):=fun y gy u s1 t1 l1 s2 t2 l2 err k1 k2=>by have:=aHl k1 k2 (z _) gy.2.1 gy.2.1 gy.2.2 gy.2.2 err err;rw [(rG y y).2 rfl,decide_eq_true rfl] at this;exact this
 have H16:Z (∀(l:Nat) (v1 u:σ) (s1 t1 l1:G) (y:aP),kG y->dD l v1 s1 t1 l1 y->l<=v1.heap.size->κ v1.heap.size v1 u->Ψ X 16 #[.agg #[s1,t1,l1]] u fun e v=>e=.returned (.tuple #[])/\FrZ l v1.heap.size u v):=fun l v1 u s1 t1 l1 y k0 k1 k2 k3=>aHf k1 k0.1 k2 k3.size k3.block;have H18:Z (∀(u:σ) (s1 t1 l1 s2 t2 l2:G),BkM 0 u.heap.size u s1 t1 l1 x->BkM 0 u.heap.size u s2 t2 l2 x->CR 18 #[.agg #[s1,t1,l1],.agg #[s2,t2,l2]] u (.bool υ)):=fun u s1 t1 l1 s2 t2 l2 k1 k2=>by have:=aAP k1 k2 (z _) gx.2.1 gx.2.1 gx.2.2 gx.2.2;rw [(rG x x).2 rfl] at this;exact this
 have HBk:Z (∀u,PS w (.slice sa x.sheets.length sc) (.slice na x.names.length nc) (.slice la x.links.length lc) p u->BkM 0 u.heap.size u (.slice sa x.sheets.length sc) (.slice na x.names.length nc) (.slice la x.links.length lc) x):=fun u hu=>(HB.out u hu).1.mono (π _) (HB.out u hu).2.1;have GA:Z (kG yA):=gA;have GD:Z (kG yD):=gD;have GM:Z (kG yM):=gM;have aQi:¬(500:Int) < (p.n:Int):=by omega
 rw [<-hpn] at H28 H29;have R0:Z _:=ldB HX.out.b0;clear h hhi gx hL hhi2 hn5 hsh hyA hyD hyM gA gD gM T h8 hz HB hpn;generalize aBv x p.sh p.at1 L=eA at *;generalize qD x p.sh=eD at *;generalize qE x p.sh p.at1=eM at *;go_enter Tryz.func4,Tryz.ntmps4;go_upto_region 3 with (first|((with_reducible show wL (δ 26 _));refine aB rfl 26 _ rfl _ _ rfl R0.out ?_)|(go_at_call 8;refine (H8.out _ HX.out).mono ?_;clear H8;rintro e u1 ⟨rfl,hb⟩;have HX:Z _:=HX.out.step hb;clear R0;have R0:Z _:=ldB HX.out.b0;have q5:u1.cell? ⟨w.heap.size+1,5,none⟩=some (.slice p.a p.n p.m):=aI HX.out.b1 rfl;clear hb))
 go_upto_region 4 with (first|((with_reducible show wL (δ 26 _));refine aB rfl 26 _ rfl _ _ rfl R0.out ?_)|(go_at_call 12;refine (H12.out _ HX.out).mono ?_;clear H12;rintro e v6 ⟨a1,an1,am1,a2,an2,am2,a3,an3,am3,rfl,ho,hb⟩;have HO6:Z _:=ho;have HB6:Z _:=hb;clear ho hb))
 clear R0 q5;have HL6:Z (w.heap.size+1 < v6.heap.size):=ζ (aF HX.out.b1) HB6.out.size;have HX:Z _:=(HX.out.step HB6.out).step (u:=v6) (v:=v6.alloc (bkO (.slice a1 an1 am1) (.slice a2 an2 am2) (.slice a3 an3 am3))) (Sh.aC (ο _ _) (z _) _);have HK:Z _:=BB.new HO6.out;clear HO6 HB6;show Code.wp X _ _ _ (v6.alloc (bkO (.slice a1 an1 am1) (.slice a2 an2 am2) (.slice a3 an3 am3)));generalize v6.alloc (bkO (.slice a1 an1 am1) (.slice a2 an2 am2) (.slice a3 an3 am3))=U6 at *;generalize u1.heap.size=lo6 at *;generalize v6.heap.size=g6 at *;have HL7:Z (w.heap.size+1 < U6.heap.size/\g6 < U6.heap.size):=⟨aF HX.out.b1,aF HK.out.bx⟩
 have R0:Z _:=ldB HX.out.b0;obtain⟨q0,q1,q2,q3,q4⟩:=mR HX.out.b1;have q5:U6.cell? ⟨w.heap.size+1,5,none⟩=some (.slice p.a p.n p.m):=aI HX.out.b1 rfl;go_upto_region 5 with (first|((with_reducible show wL (δ 26 _));refine aB rfl 26 _ rfl _ _ rfl R0.out ?_)|(go_at_call 28;refine (H28.out _ HX.out).mono ?_;clear H28;rintro e v7 ⟨b1,bn1,bm1,b2,bn2,bm2,b3,bn3,bm3,rfl,ho,hb⟩;have HO7:Z _:=ho;have HB7:Z _:=hb;clear ho hb))
 clear R0 q0 q1 q2 q3 q4 q5;have HX:Z _:=(HX.out.step HB7.out).step (u:=v7) (v:=v7.alloc (bkO (.slice b1 bn1 bm1) (.slice b2 bn2 bm2) (.slice b3 bn3 bm3))) (Sh.aC (ο _ _) (z _) _);have HK:Z _:=(HK.out.step HB7.out).step (u:=v7) (v:=v7.alloc (bkO (.slice b1 bn1 bm1) (.slice b2 bn2 bm2) (.slice b3 bn3 bm3))) (Sh.aC (ο _ _) (z _) _);have HM:Z _:=BB.new HO7.out;have HV7:Z (κ v7.heap.size v7 (v7.alloc (bkO (.slice b1 bn1 bm1) (.slice b2 bn2 bm2) (.slice b3 bn3 bm3)))):=(Sh.aC (ο _ _) (z _) _)
 have HS7:Z (U6.heap.size<=v7.heap.size/\v7.heap.size<=(v7.alloc (bkO (.slice b1 bn1 bm1) (.slice b2 bn2 bm2) (.slice b3 bn3 bm3))).heap.size):=⟨HB7.out.size,HV7.out.size⟩
 have aOU:Z (v7.heap.size < (v7.alloc (bkO (.slice b1 bn1 bm1) (.slice b2 bn2 bm2) (.slice b3 bn3 bm3))).heap.size):=by show _ < _;simp
 clear HB7;show Code.wp X _ _ _ (v7.alloc (bkO (.slice b1 bn1 bm1) (.slice b2 bn2 bm2) (.slice b3 bn3 bm3)));generalize v7.alloc (bkO (.slice b1 bn1 bm1) (.slice b2 bn2 bm2) (.slice b3 bn3 bm3))=U7 at *;have R0:Z _:=ldB HX.out.b0;obtain⟨q0,q1,q2,q3,q4⟩:=mR HX.out.b1;have q5:U7.cell? ⟨w.heap.size+1,5,none⟩=some (.slice p.a p.n p.m):=aI HX.out.b1 rfl;go_upto_region 6 with (first|((with_reducible show wL (δ 26 _));refine aB rfl 26 _ rfl _ _ rfl R0.out ?_)|(go_at_call 29;refine (H29.out _ HX.out).mono ?_;clear H29;rintro e v8 ⟨c1,cn1,cm1,c2,cn2,cm2,c3,cn3,cm3,rfl,ho,hb⟩;have HO8:Z _:=ho;have HB8:Z _:=hb;clear ho hb))
 clear R0 q0 q1 q2 q3 q4 q5;have HX:Z _:=(HX.out.step HB8.out).step (u:=v8) (v:=v8.alloc (bkO (.slice c1 cn1 cm1) (.slice c2 cn2 cm2) (.slice c3 cn3 cm3))) (Sh.aC (ο _ _) (z _) _);have HK:Z _:=(HK.out.step HB8.out).step (u:=v8) (v:=v8.alloc (bkO (.slice c1 cn1 cm1) (.slice c2 cn2 cm2) (.slice c3 cn3 cm3))) (Sh.aC (ο _ _) (z _) _);have HM:Z _:=(HM.out.step HB8.out).step (u:=v8) (v:=v8.alloc (bkO (.slice c1 cn1 cm1) (.slice c2 cn2 cm2) (.slice c3 cn3 cm3))) (Sh.aC (ο _ _) (z _) _);have HY:Z _:=BB.new HO8.out;have HV7:Z (κ v7.heap.size v7 (v8.alloc (bkO (.slice c1 cn1 cm1) (.slice c2 cn2 cm2) (.slice c3 cn3 cm3)))):=Sh.aD (Sh.aD HV7.out HS7.out.2 HB8.out) (E HS7.out.2 HB8.out.size) (Sh.aC (ο _ _) (z _) _);have HS8:Z (v7.heap.size<=U7.heap.size/\v7.heap.size<=v8.heap.size):=⟨HS7.out.2,E HS7.out.2 HB8.out.size⟩
 have aOV:Z (v7.heap.size ≠ v8.heap.size):=Nat.ne_of_lt (ζ aOU.out HB8.out.size);clear HB8 HO8 aOU;show Code.wp X _ _ _ (v8.alloc (bkO (.slice c1 cn1 cm1) (.slice c2 cn2 cm2) (.slice c3 cn3 cm3)));generalize v8.alloc (bkO (.slice c1 cn1 cm1) (.slice c2 cn2 cm2) (.slice c3 cn3 cm3))=U8 at *;generalize v8.heap.size=g9 at *;have R7:Z _:=HM.out.lod;have R9:Z _:=HY.out.lod;go_upto_region 8 with (first|((with_reducible show wL (δ 26 _));refine aB rfl 26 _ rfl _ _ rfl R7.out ?_)|((with_reducible show wL (δ 26 _));refine aB rfl 26 _ rfl _ _ rfl R9.out ?_)|(go_at_call 15;refine (H15.out yA GA.out _ _ _ _ _ _ _ _ HM.out.all HY.out.all).mono ?_;rintro e U9 ⟨rfl,hb⟩;have HB9:Z _:=hb;clear hb R7 R9;have HM:Z _:=HM.out.step HB9.out;have R7:Z _:=HM.out.lod))
 have HX:Z _:=HX.out.step HB9.out;have HK:Z _:=HK.out.step HB9.out;have HY:Z _:=HY.out.step HB9.out;have C16:Z _:=H16.out _ v7 U9 _ _ _ _ GA.out HO7.out HS7.out.1 (Sh.aD HV7.out HV7.out.size HB9.out);go_upto_region 9 with (first|((with_reducible show wL (δ 26 _));refine aB rfl 26 _ rfl _ _ rfl R7.out ?_)|(go_at_call 16;refine Calls.mono C16.out ?_;clear C16;rintro e U10 ⟨rfl,hf⟩;have HF:Z _:=hf;clear hf))
 clear R7;have HX:Z _:=HX.out.frz HL7.out.1 HF.out.bel;have HK:Z _:=HK.out.low HL7.out.2 HF.out.bel;have HGx:Z (U10.heap[v7.heap.size]? =some (bkO (.slice b1 bn1 bm1) (.slice b2 bn2 bm2) (.slice b3 bn3 bm3))):=(HF.out.up _ (z _) (aF HM.out.bx)).trans HM.out.bx;have HGy:Z (U10.heap[g9]? =some (bkO (.slice c1 cn1 cm1) (.slice c2 cn2 cm2) (.slice c3 cn3 cm3))):=(HF.out.up _ HS8.out.2 (aF HY.out.bx)).trans HY.out.bx;have HN:Z (w.heap.size+1 < v7.heap.size/\w.heap.size+1 < g9/\g6 < v7.heap.size/\g6 < g9/\v7.heap.size ≠ g9):=⟨ζ HL7.out.1 HS7.out.1,ζ HL7.out.1 (E HS7.out.1 HS8.out.2),ζ HL7.out.2 HS7.out.1,ζ HL7.out.2 (E HS7.out.1 HS8.out.2),aOV.out⟩
 clear HM HY HF HV7 HS7 HS8 aOV HO7 HL7 HL6;generalize v7.heap.size=g7 at *;have R0:Z _:=ldB HX.out.b0;obtain⟨q0,q1,q2,q3,q4⟩:=mR HX.out.b1;have HLU:Z (g7 < U10.heap.size/\g9 < U10.heap.size/\w.heap.size+1 < U10.heap.size/\g6 < U10.heap.size):=⟨aF HGx.out,aF HGy.out,aF HX.out.b1,aF HK.out.bx⟩
 go_upto_region 10 with (first|((with_reducible show wL (δ 26 _));refine aB rfl 26 _ rfl _ _ rfl R0.out ?_)|(go_at_call 30;refine (H30.out _ HX.out).mono ?_;clear H30;rintro e vA1 ⟨x11,aBP,aBQ,x21,aBR,aBS,x31,aBT,aBU,rfl,ho,hb⟩;have HO:Z _:=ho;have HBb:Z _:=hb;have HGx:Z _:=(hb.block _ (aF HGx.out)).trans HGx.out;have HGy:Z _:=(hb.block _ (aF HGy.out)).trans HGy.out;have SX:Z _:=xX (y:=#[.slice x11 aBP aBQ,.slice x21 aBR aBS,.slice x31 aBT aBU]) HGx.out rfl rfl (by simp [ω]);clear ho hb)|((with_reducible show wL (θ 26 _ _));refine aA rfl 26 _ _ rfl _ _ _ rfl rfl SX.out ?_;clear SX))
 clear R0 q0 q1 q2 q3 q4;have HX:Z _:=(HX.out.step HBb.out).row HN.out.1 #[.slice x11 aBP aBQ,.slice x21 aBR aBS,.slice x31 aBT aBU];have HK:Z _:=(HK.out.step HBb.out).row HN.out.2.2.1 #[.slice x11 aBP aBQ,.slice x21 aBR aBS,.slice x31 aBT aBU];have HO:Z _:=HO.out.row HLU.out.1 #[.slice x11 aBP aBQ,.slice x21 aBR aBS,.slice x31 aBT aBU];have HGy:Z _:=(ι vA1 g7 g9 #[.slice x11 aBP aBQ,.slice x21 aBR aBS,.slice x31 aBT aBU] (fun e=>HN.out.2.2.2.2 e.symm)).trans HGy.out;have HGx:Z _:=Ω vA1 g7 _ #[.slice x11 aBP aBQ,.slice x21 aBR aBS,.slice x31 aBT aBU] _ _ HGx.out;have HSz:Z (U10.heap.size<=(vA1.setRow g7 #[.slice x11 aBP aBQ,.slice x21 aBR aBS,.slice x31 aBT aBU]).heap.size):=by show _<=_;rw [setRow_size];exact HBb.out.size
 clear HBb;show Code.wp X _ _ _ (vA1.setRow g7 #[.slice x11 aBP aBQ,.slice x21 aBR aBS,.slice x31 aBT aBU]);generalize vA1.setRow g7 #[.slice x11 aBP aBQ,.slice x21 aBR aBS,.slice x31 aBT aBU]=UA1 at *;have R0:Z _:=ldB HX.out.b0;obtain⟨q0,q1,q2,q3,q4⟩:=mR HX.out.b1;go_upto_region 11 with (first|((with_reducible show wL (δ 26 _));refine aB rfl 26 _ rfl _ _ rfl R0.out ?_)|(go_at_call 31;refine (H31.out _ HX.out).mono ?_;clear H31;rintro e vB1 ⟨y11,zZ,aAa,y21,aAb,aAc,y31,aAd,aAe,rfl,ho,hb⟩;have HP:Z _:=ho;have HBb:Z _:=hb;have HGx:Z _:=(hb.block _ (aF HGx.out)).trans HGx.out;have HGy:Z _:=(hb.block _ (aF HGy.out)).trans HGy.out;have SX:Z _:=xX (y:=#[.slice y11 zZ aAa,.slice y21 aAb aAc,.slice y31 aAd aAe]) HGy.out rfl rfl (by simp [ω]);clear ho hb)|((with_reducible show wL (θ 26 _ _));refine aA rfl 26 _ _ rfl _ _ _ rfl rfl SX.out ?_;clear SX))
 clear R0 q0 q1 q2 q3 q4;have HX:Z _:=(HX.out.step HBb.out).row HN.out.2.1 #[.slice y11 zZ aAa,.slice y21 aAb aAc,.slice y31 aAd aAe];have HK:Z _:=(HK.out.step HBb.out).row HN.out.2.2.2.1 #[.slice y11 zZ aAa,.slice y21 aAb aAc,.slice y31 aAd aAe];have HO:Z _:=(HO.out.below HBb.out).row HLU.out.2.1 #[.slice y11 zZ aAa,.slice y21 aAb aAc,.slice y31 aAd aAe];have HP:Z _:=HP.out.row (ζ HLU.out.2.1 HSz.out) #[.slice y11 zZ aAa,.slice y21 aAb aAc,.slice y31 aAd aAe];have HGx:Z _:=(ι vB1 g9 g7 #[.slice y11 zZ aAa,.slice y21 aAb aAc,.slice y31 aAd aAe] HN.out.2.2.2.2).trans HGx.out;have HGy:Z _:=Ω vB1 g9 _ #[.slice y11 zZ aAa,.slice y21 aAb aAc,.slice y31 aAd aAe] _ _ HGy.out;have HSz:Z (U10.heap.size<=(vB1.setRow g9 #[.slice y11 zZ aAa,.slice y21 aAb aAc,.slice y31 aAd aAe]).heap.size):=by show _<=_;rw [setRow_size];exact E HSz.out HBb.out.size
 clear HBb;show Code.wp X _ _ _ (vB1.setRow g9 #[.slice y11 zZ aAa,.slice y21 aAb aAc,.slice y31 aAd aAe]);generalize vB1.setRow g9 #[.slice y11 zZ aAa,.slice y21 aAb aAc,.slice y31 aAd aAe]=UB1 at *;have R7:Z _:=ldB HGx.out;have R9:Z _:=ldB HGy.out;go_upto_region 13 with (first|((with_reducible show wL (δ 26 _));refine aB rfl 26 _ rfl _ _ rfl R7.out ?_)|((with_reducible show wL (δ 26 _));refine aB rfl 26 _ rfl _ _ rfl R9.out ?_)|(go_at_call 15;refine (H15.out yD GD.out _ _ _ _ _ _ _ _ HO.out.any HP.out.any).mono ?_;rintro e UC1 ⟨rfl,hb⟩;have HB9:Z _:=hb;clear hb R7 R9;have HGx:Z _:=(HB9.out.block _ (aF HGx.out)).trans HGx.out;have R7:Z _:=ldB HGx.out))
 have HX:Z _:=HX.out.step HB9.out;have HK:Z _:=HK.out.step HB9.out;have HGy:Z _:=(HB9.out.block _ (aF HGy.out)).trans HGy.out;have C16:Z _:=H16.out _ UB1 UC1 _ _ _ _ GD.out HO.out HSz.out HB9.out;go_upto_region 14 with (first|((with_reducible show wL (δ 26 _));refine aB rfl 26 _ rfl _ _ rfl R7.out ?_)|(go_at_call 16;refine Calls.mono C16.out ?_;clear C16;rintro e UD1 ⟨rfl,hf⟩;have HF:Z _:=hf;clear hf))
 clear R7;have HX:Z _:=HX.out.frz HLU.out.2.2.1 HF.out.bel;have HK:Z _:=HK.out.low HLU.out.2.2.2 HF.out.bel;have HGx:Z _:=(HF.out.bel.block _ HLU.out.1).trans HGx.out;have HGy:Z _:=(HF.out.bel.block _ HLU.out.2.1).trans HGy.out;clear HF HO HP HSz HB9 HLU;have R0:Z _:=ldB HX.out.b0;obtain⟨q0,q1,q2,q3,q4⟩:=mR HX.out.b1;have HLU:Z (g7 < UD1.heap.size/\g9 < UD1.heap.size/\w.heap.size+1 < UD1.heap.size/\g6 < UD1.heap.size):=⟨aF HGx.out,aF HGy.out,aF HX.out.b1,aF HK.out.bx⟩
 go_upto_region 15 with (first|((with_reducible show wL (δ 26 _));refine aB rfl 26 _ rfl _ _ rfl R0.out ?_)|(go_at_call 32;refine (H32.out _ HX.out).mono ?_;clear H32;rintro e vA2 ⟨x12,aBV,aBW,x22,aBX,aBY,x32,aBZ,aB0,rfl,ho,hb⟩;have HO:Z _:=ho;have HBb:Z _:=hb;have HGx:Z _:=(hb.block _ (aF HGx.out)).trans HGx.out;have HGy:Z _:=(hb.block _ (aF HGy.out)).trans HGy.out;have SX:Z _:=xX (y:=#[.slice x12 aBV aBW,.slice x22 aBX aBY,.slice x32 aBZ aB0]) HGx.out rfl rfl (by simp [ω]);clear ho hb)|((with_reducible show wL (θ 26 _ _));refine aA rfl 26 _ _ rfl _ _ _ rfl rfl SX.out ?_;clear SX))
 clear R0 q0 q1 q2 q3 q4;have HX:Z _:=(HX.out.step HBb.out).row HN.out.1 #[.slice x12 aBV aBW,.slice x22 aBX aBY,.slice x32 aBZ aB0];have HK:Z _:=(HK.out.step HBb.out).row HN.out.2.2.1 #[.slice x12 aBV aBW,.slice x22 aBX aBY,.slice x32 aBZ aB0];have HO:Z _:=HO.out.row HLU.out.1 #[.slice x12 aBV aBW,.slice x22 aBX aBY,.slice x32 aBZ aB0];have HGy:Z _:=(ι vA2 g7 g9 #[.slice x12 aBV aBW,.slice x22 aBX aBY,.slice x32 aBZ aB0] (fun e=>HN.out.2.2.2.2 e.symm)).trans HGy.out;have HGx:Z _:=Ω vA2 g7 _ #[.slice x12 aBV aBW,.slice x22 aBX aBY,.slice x32 aBZ aB0] _ _ HGx.out;have HSz:Z (UD1.heap.size<=(vA2.setRow g7 #[.slice x12 aBV aBW,.slice x22 aBX aBY,.slice x32 aBZ aB0]).heap.size):=by show _<=_;rw [setRow_size];exact HBb.out.size
 clear HBb;show Code.wp X _ _ _ (vA2.setRow g7 #[.slice x12 aBV aBW,.slice x22 aBX aBY,.slice x32 aBZ aB0]);generalize vA2.setRow g7 #[.slice x12 aBV aBW,.slice x22 aBX aBY,.slice x32 aBZ aB0]=UA2 at *;have R0:Z _:=ldB HX.out.b0;obtain⟨q0,q1,q2,q3,q4⟩:=mR HX.out.b1;go_upto_region 16 with (first|((with_reducible show wL (δ 26 _));refine aB rfl 26 _ rfl _ _ rfl R0.out ?_)|(go_at_call 33;refine (H33.out _ HX.out).mono ?_;clear H33;rintro e vB2 ⟨y12,aAf,aAg,y22,aAh,aAi,y32,aAj,aAk,rfl,ho,hb⟩;have HP:Z _:=ho;have HBb:Z _:=hb;have HGx:Z _:=(hb.block _ (aF HGx.out)).trans HGx.out;have HGy:Z _:=(hb.block _ (aF HGy.out)).trans HGy.out;have SX:Z _:=xX (y:=#[.slice y12 aAf aAg,.slice y22 aAh aAi,.slice y32 aAj aAk]) HGy.out rfl rfl (by simp [ω]);clear ho hb)|((with_reducible show wL (θ 26 _ _));refine aA rfl 26 _ _ rfl _ _ _ rfl rfl SX.out ?_;clear SX))
 clear R0 q0 q1 q2 q3 q4;have HX:Z _:=(HX.out.step HBb.out).row HN.out.2.1 #[.slice y12 aAf aAg,.slice y22 aAh aAi,.slice y32 aAj aAk];have HK:Z _:=(HK.out.step HBb.out).row HN.out.2.2.2.1 #[.slice y12 aAf aAg,.slice y22 aAh aAi,.slice y32 aAj aAk];have HO:Z _:=(HO.out.below HBb.out).row HLU.out.2.1 #[.slice y12 aAf aAg,.slice y22 aAh aAi,.slice y32 aAj aAk];have HP:Z _:=HP.out.row (ζ HLU.out.2.1 HSz.out) #[.slice y12 aAf aAg,.slice y22 aAh aAi,.slice y32 aAj aAk];have HGx:Z _:=(ι vB2 g9 g7 #[.slice y12 aAf aAg,.slice y22 aAh aAi,.slice y32 aAj aAk] HN.out.2.2.2.2).trans HGx.out;have HGy:Z _:=Ω vB2 g9 _ #[.slice y12 aAf aAg,.slice y22 aAh aAi,.slice y32 aAj aAk] _ _ HGy.out;have HSz:Z (UD1.heap.size<=(vB2.setRow g9 #[.slice y12 aAf aAg,.slice y22 aAh aAi,.slice y32 aAj aAk]).heap.size):=by show _<=_;rw [setRow_size];exact E HSz.out HBb.out.size
 clear HBb;show Code.wp X _ _ _ (vB2.setRow g9 #[.slice y12 aAf aAg,.slice y22 aAh aAi,.slice y32 aAj aAk]);generalize vB2.setRow g9 #[.slice y12 aAf aAg,.slice y22 aAh aAi,.slice y32 aAj aAk]=UB2 at *;have R7:Z _:=ldB HGx.out;have R9:Z _:=ldB HGy.out;go_upto_region 18 with (first|((with_reducible show wL (δ 26 _));refine aB rfl 26 _ rfl _ _ rfl R7.out ?_)|((with_reducible show wL (δ 26 _));refine aB rfl 26 _ rfl _ _ rfl R9.out ?_)|(go_at_call 15;refine (H15.out yM GM.out _ _ _ _ _ _ _ _ HO.out.any HP.out.any).mono ?_;rintro e UC2 ⟨rfl,hb⟩;have HB9:Z _:=hb;clear hb R7 R9;have HGx:Z _:=(HB9.out.block _ (aF HGx.out)).trans HGx.out;have R7:Z _:=ldB HGx.out))
 have HX:Z _:=HX.out.step HB9.out;have HK:Z _:=HK.out.step HB9.out;have HGy:Z _:=(HB9.out.block _ (aF HGy.out)).trans HGy.out;have C16:Z _:=H16.out _ UB2 UC2 _ _ _ _ GM.out HO.out HSz.out HB9.out;go_upto_region 19 with (first|((with_reducible show wL (δ 26 _));refine aB rfl 26 _ rfl _ _ rfl R7.out ?_)|(go_at_call 16;refine Calls.mono C16.out ?_;clear C16;rintro e UD2 ⟨rfl,hf⟩;have HF:Z _:=hf;clear hf))
 clear R7;have HX:Z _:=HX.out.frz HLU.out.2.2.1 HF.out.bel;have HK:Z _:=HK.out.low HLU.out.2.2.2 HF.out.bel;have HGx:Z _:=(HF.out.bel.block _ HLU.out.1).trans HGx.out;have HGy:Z _:=(HF.out.bel.block _ HLU.out.2.1).trans HGy.out;clear HF HO HP HSz HB9 HLU;have R0:Z _:=ldB HX.out.b0;have RK:Z _:=HK.out.lod;go_wp2_with (first|((with_reducible show wL (δ 26 _));refine aB rfl 26 _ rfl _ _ rfl R0.out ?_)|((with_reducible show wL (δ 26 _));refine aB rfl 26 _ rfl _ _ rfl RK.out ?_)|(go_at_call 18;refine (H18.out _ _ _ _ _ _ _ (HBk.out _ HX.out) HK.out.all).mono ?_;clear R0 RK;rintro e s1 ⟨rfl,hb⟩;have HX:Z _:=HX.out.step hb;clear hb)|(go_at_call 9;refine (H9.out _ HX.out).mono ?_;rintro e s2 ⟨rfl,hb⟩;have HX:Z _:=HX.out.step hb;clear hb))
 go_ret;exact⟨rfl,HX.out.bl⟩
theorem aKN {α:Type} {B:α->List UInt8} {L:List α} {a:α} (h:a ∈ L):(B a).length<=(L.flatMap B).length:=by
 induction L with
 | nil=>cases h
 | cons b r ih=>
  rw [ρ,V];rcases List.mem_cons.1 h with rfl | h
  ·omega
  ·have:=ih h;omega
theorem oC {α:Type} {B:α->List UInt8} {L:List α} (h:∀a,1<=(B a).length):L.length<=(L.flatMap B).length:=by
 induction L with
 | nil=>simp
 | cons b r ih=>rw [ρ,V,ν];have:=h b;omega
theorem aKO {L:List aT}:L.length+dN L<=(L.flatMap Bt.bC).length:=by
 induction L with
 | nil=>simp [dN]
 | cons s r ih=>
  rw [aDz,ρ,V,ν];have h1:s.cells.length<=(s.cells.flatMap Bt.bV).length:=oC Bt.vF;have h2:=Bt.oJ s.name.size;simp only [Bt.bC,Bt.bR,Bt.cO,V];omega
theorem aMR {n:Nat} (h:n<=1000000000):In64 (n:Int):=by unfold In64;omega
theorem aMB:iZ.Ok:=⟨fun s hs=>(Ξ hs).elim,fun s hs=>(Ξ hs).elim⟩
theorem aE3:Small iZ:=⟨π _,fun s hs=>(Ξ hs).elim,π _,π _⟩
theorem aE4:(Bt.dA iZ).length<=1000000000:=by have h3:(Bt.bO (0:Nat)).length<=10:=Bt.gU (aMR (by omega));simp only [Bt.dA,Bt.cO,iZ,V,List.length_nil,List.flatMap_nil];omega
theorem zG {α:Type} {B:α->List UInt8} (L:List α) (i:Nat):((L.take i).flatMap B).length+((L.drop i).flatMap B).length=(L.flatMap B).length:=by rw [<-V,<-ψ,List.take_append_drop]
theorem aE5 {α:Type} {B:α->List UInt8} (L:List α) (i:Nat):((L.eraseIdx i).flatMap B).length<=(L.flatMap B).length:=by rw [List.eraseIdx_eq_take_drop_succ,ψ,V];have h1:=zG (B:=B) L i;have h2:=zG (B:=B) (L.drop i) 1;rw [List.drop_drop] at h2;omega
theorem aB1 {n:Nat} (h:n<=1000000000):(Bt.bO (n:Int)).length<=10:=Bt.gU (aMR h)
theorem aHr (x:aP) (i:Nat) (t:aT) (hn:x.sheets.length<=1000):(Bt.dA (bZ x i t)).length<=(Bt.dA x).length+(Bt.bC t).length+10:=by
 have hl:(bZ x i t).sheets.length<=1001:=by simp only [bZ,V,z1,ν,z2];omega
 have h3:=aB1 (n:=(bZ x i t).sheets.length) (by omega);have h1:=zG (B:=Bt.bC) x.sheets i;simp only [Bt.dA,Bt.cO,V];have e:((bZ x i t).sheets.flatMap Bt.bC).length=((x.sheets.take i).flatMap Bt.bC).length+((Bt.bC t).length+((x.sheets.drop i).flatMap Bt.bC).length):=by simp only [bZ,ψ,ρ,V]
 have e1:(bZ x i t).names=x.names:=rfl;have e2:(bZ x i t).links=x.links:=rfl;rw [e,e1,e2];omega
theorem zH (x:aP) (i:Nat) (hn:x.sheets.length<=1000):(Bt.dA (bJ x i)).length<=(Bt.dA x).length+10:=by have hl:(x.sheets.eraseIdx i).length<=x.sheets.length:=List.length_eraseIdx_le _ _;have h3:=aB1 (n:=(x.sheets.eraseIdx i).length) (by omega);have h1:=aE5 (B:=Bt.bC) x.sheets i;simp only [Bt.dA,Bt.cO,V,bJ];omega
theorem aFW {x:aP} {i:Nat} {t s:aT} (h:s ∈ (bZ x i t).sheets):s=t\/s ∈ x.sheets:=by
 simp only [bZ,List.mem_append,List.mem_cons] at h;rcases h with h | h | h
 ·exact .inr (List.mem_of_mem_take h)
 ·exact .inl h
 ·exact .inr (List.mem_of_mem_drop h)
theorem aDB {x:aP} {i:Nat} {s:aT} (h:s ∈ (bJ x i).sheets):s ∈ x.sheets:=List.mem_of_mem_eraseIdx h
theorem aDC {x:aP} {i:Nat} {t:aT} (hz:Small x) (hn:x.sheets.length<=999) (ox:x.Ok) (lx:(Bt.dA x).length<=100000000) (ht:t.cells.length<=1000) (ot:∀d ∈ t.cells,d.Ok) (lt:(Bt.bC t).length<=100000000):kG (bZ x i t):=
 ⟨⟨by simp only [bZ,V,z1,ν,z2];omega,fun s hs=>(aFW hs).elim (fun e=>by rw [e];exact ht) (hz.cl s),hz.nm,hz.lk⟩,
  ⟨fun s hs=>(aFW hs).elim (fun e=>by rw [e];exact ot) (ox.1 s),ox.2⟩,by have:=aHr x i t (by omega);omega⟩
theorem aAR {x:aP} {i:Nat} (hz:Small x) (ox:x.Ok) (lx:(Bt.dA x).length<=100000000):kG (bJ x i):=
 ⟨⟨E (List.length_eraseIdx_le _ _) hz.sh,fun s hs=>hz.cl s (aDB hs),hz.nm,hz.lk⟩,⟨fun s hs=>ox.1 s (aDB hs),ox.2⟩,by have:=zH x i hz.sh;omega⟩
theorem vJ:kG iZ:=⟨aE3,aMB,by have:=aE4;omega⟩
theorem aHs {w:σ} {sa na la:Option Addr} {sl sc nl nc ll lc:Nat} {p:tZ} {b:Bool} (hb:b=Γ\/500 < p.n) (c8:∀u,PS w (.slice sa sl sc) (.slice na nl nc) (.slice la ll lc) p u->CR 8 #[.agg #[.slice sa sl sc,.slice na nl nc,.slice la ll lc]] u (.bool b))
  (c9:∀u,PS w (.slice sa sl sc) (.slice na nl nc) (.slice la ll lc) p u->CR 9 #[] u (.bool υ)):
  CR 4 #[.agg #[.slice sa sl sc,.slice na nl nc,.slice la ll lc],aKI p] w (.bool υ):=by
 have HX:Z (PS w (.slice sa sl sc) (.slice na nl nc) (.slice la ll lc) p ((w.alloc (bkO (.slice sa sl sc) (.slice na nl nc) (.slice la ll lc))).alloc (.cells (aBO p).toArray 29))):=PS.new _ _ _ _ _;have H8:Z _:=c8;have H9:Z _:=c9;have R0:Z _:=ldB HX.out.b0;clear c8 c9;cases b with
 | false=>
  clear hb;go_enter Tryz.func4,Tryz.ntmps4;go_wp2_with (first|((with_reducible show wL (δ 26 _));refine aB rfl 26 _ rfl _ _ rfl R0.out ?_)|(go_at_call 8;refine (H8.out _ HX.out).mono ?_;clear H8;rintro e u1 ⟨rfl,hb⟩;have HX:Z _:=HX.out.step hb;clear hb R0)|(go_at_call 9;refine (H9.out _ HX.out).mono ?_;clear H9;rintro e u2 ⟨rfl,hb⟩;have HX:Z _:=HX.out.step hb;clear hb))
  go_ret;exact⟨rfl,HX.out.bl⟩
 | true=>
  have hp:500 < p.n:=hb.elim (fun e=>by cases e) id;have hpi:(500:Int) < (p.n:Int):=by omega
  clear hb hp;go_enter Tryz.func4,Tryz.ntmps4;go_wp2_with (first|((with_reducible show wL (δ 26 _));refine aB rfl 26 _ rfl _ _ rfl R0.out ?_)|(go_at_call 8;refine (H8.out _ HX.out).mono ?_;clear H8;rintro e u1 ⟨rfl,hb⟩;have HX:Z _:=HX.out.step hb;have q5:u1.cell? ⟨w.heap.size+1,5,none⟩=some (.slice p.a p.n p.m):=aI HX.out.b1 rfl;clear hb R0)|(go_at_call 9;refine (H9.out _ HX.out).mono ?_;clear H9;rintro e u2 ⟨rfl,hb⟩;have HX:Z _:=HX.out.step hb;clear hb))
  go_ret;exact⟨rfl,HX.out.bl⟩
theorem aE6 {lo hi lo2 hi2:Nat} {w:σ} {sv nv lv:G} {x:aP} (h:BkM lo hi w sv nv lv x) (hhi:hi<=w.heap.size) (ox:x.Ok) (lx:(Bt.dA x).length<=20000000) (p:tZ) {L:List aN} (hpn:p.n=L.length) (hL:Cls lo2 hi2 w (.slice p.a L.length p.m) L) (hhi2:hi2<=w.heap.size) (oL:∀d ∈ L,d.Ok) (lL:(L.flatMap Bt.bV).length<=20000000) (hsh:p.sh.size<=20000000) (T:dS w):
  CR 4 #[.agg #[sv,nv,lv],aKI p] w (.bool υ):=by
 have lx0:=lx;simp only [Bt.dA,Bt.cO,V] at lx0;have hcn:=aKO (L:=x.sheets);have hn:x.names.length<=(x.names.flatMap Bt.fB).length:=oC Bt.vG;have hk:x.links.length<=(x.links.flatMap Bt.gG).length:=oC Bt.vH;have S8:∀u,BkM lo hi u sv nv lv x->hi<=u.heap.size->CR 8 #[.agg #[sv,nv,lv]] u (.bool (decide (x.sheets.length+dN x.sheets < 1000/\x.names.length+x.links.length < 300))):=fun u hu hu2=>(aHm hu hu2 (by omega) (by omega)).mono (by
  rintro e v ⟨⟨b,rfl,_,hb⟩,hv⟩;refine ⟨?_,hv⟩;have:=hb (by omega);congr 2;rw [Bool.eq_iff_iff,decide_eq_true_iff];exact this)
 by_cases hb:(x.sheets.length+dN x.sheets < 1000/\x.names.length+x.links.length < 300)/\L.length<=500
 ·obtain ⟨hb,h5⟩:=hb;rw [decide_eq_true hb] at S8;have hz:Small x:=⟨by omega,fun s hs=>by have:=aKJ hs;omega,by omega,by omega⟩
  have gx:kG x:=⟨hz,ox,by omega⟩
  have aQj:=aB1 (n:=p.sh.size) (by omega);have aQk:=aB1 (n:=L.length) (by omega);have lt:(Bt.bC ⟨p.sh,L⟩).length<=100000000:=by simp only [Bt.bC,Bt.cO,V,Bt.kL];omega
  have gA:kG (if aBv x p.sh p.at1 L=0 then bZ x p.at1.toNat ⟨p.sh,L⟩ else iZ):=by
   split
   ·exact aDC hz (by omega) ox (by omega) (by show L.length<=1000;omega) oL lt
   ·exact vJ
  have gD:kG (if qD x p.sh=0 then bJ x ((eH x.sheets p.sh).getD 0) else iZ):=by
   split
   ·exact aAR hz ox (by omega)
   ·exact vJ
  have gM:kG (if qE x p.sh p.at1=0 then dU x ((eH x.sheets p.sh).getD 0) p.at1.toNat else iZ):=by
   split
   ·next he=>
    cases hO:eH x.sheets p.sh with
    | none=>unfold qE at he;rw [hO] at he;cases he
    | some i=>
     have hil:=nY hO;have hmem:=List.getElem_mem hil;have gd:=aAR (i:=i) hz ox (by omega);have hbd:=zH x i hz.sh;have hfm:=aKN (B:=Bt.bC) hmem;have e:dU x ((some i).getD 0) p.at1.toNat=bZ (bJ x i) p.at1.toNat x.sheets[i]:=by simp [dU,β hil]
     rw [e];exact aDC gd.1 (by have:(bJ x i).sheets.length<=x.sheets.length:=List.length_eraseIdx_le _ _;omega) gd.2.1 (by omega) (hz.cl _ hmem) (ox.1 _ hmem) (by omega)
   ·exact vJ
  exact aDA h hhi gx p hpn hL hhi2 h5 (by omega) _ _ _ rfl rfl rfl gA gD gM T S8
 ·obtain ⟨sa,sc,rfl,_,_⟩:=h.sh.slice;obtain⟨na,nc,rfl,_,_⟩:=h.nm.slice;obtain⟨la,lc,rfl,_,_⟩:=h.lk.slice;have HB:∀u,κ w.heap.size w u->BkM lo hi u _ _ _ x/\hi<=u.heap.size/\dS u:=fun u hu=>⟨h.below hhi hu,E hhi hu.size,T.below hu⟩
  refine aHs ?_ (fun u hu=>S8 u (HB u hu.bl).1 (HB u hu.bl).2.1) (fun u hu=>aAQ u (HB u hu.bl).2.2);by_cases hq:x.sheets.length+dN x.sheets < 1000/\x.names.length+x.links.length < 300
  ·exact .inr (by rw [hpn];have:¬L.length<=500:=fun e=>hb ⟨hq,e⟩;omega)
  ·exact .inl (decide_eq_false hq)
end Go.Proofs.YtfedoljlipfhdaaGreatDoor.Sh
namespace Go.Proofs.YtfedoljlipfhdaaGreatDoor.Sh
open Go.ChangeShapes Go.WideShapes Go.ChangeAt Go.WideElems Go.RowKit Go.Deep
theorem aB2 {α:Type} {P:Nat->α->Prop}:∀(n:Nat),(∀i,i < n->∃c,P i c)->∃L:List α,L.length=n/\∀i c,L[i]? =some c->P i c
 | 0,_=>⟨[],rfl,fun i c h=>by simp at h⟩
 | n+1,h=>by
  obtain⟨L,h1,h2⟩:=aB2 n fun i hi=>h i (by omega);obtain⟨c,hc⟩:=h n (by omega);refine ⟨L++ [c],by simp [h1],fun i x hi=> ?_⟩;by_cases hlt:i < L.length
  ·rw [List.getElem?_append_left hlt] at hi;exact h2 i x hi
  ·rw [List.getElem?_append_right (by omega)] at hi;have hi0:i=n:=by
    rcases Nat.lt_or_ge (i - L.length) 1 with h | h
    ·omega
    ·rw [χ (by simpa using h)] at hi;cases hi
   subst hi0;rw [h1] at hi;simp at hi;subst hi;exact hc
theorem aFX {H:Type} {e:Θ} {d:γ H} {n:Nat} (hn:n ∈ d.weights X e):∀{l:List (γ H)},d ∈ l->n ∈ DataW.weightsAll X e l
 | [],h=>by cases h
 | a:: r,h=>by
  simp only [DataW.weightsAll,List.mem_append];rcases List.mem_cons.1 h with rfl | h
  ·exact .inl hn
  ·exact .inr (aFX hn h)
abbrev Lgt {H:Type} (t:Θ) (d:γ H):Prop:=∀n ∈ d.weights X t,n<=ε
section
variable {H:Type} {enc:Θ × G->H} {W:σ} {sp:Nat->Bool} {held:Bool}
theorem jA {t e:Θ} {sz:Nat} {α:Type} {C:α->List G} {Q:α->Prop} {fuel:Nat} {v:G} {x:γ H × List R} (ht:Tryz.prog.underlying t=some (.slice e)) (hce:Tryz.prog.cellsOf e=sz) (hsz:0 < sz) (hby:1<=Tryz.prog.bytesOf e) (hw:Lgt t x.1)
  (hC:∀{fuel:Nat} {cs:List G} {y:γ H × List R},Lgt e y.1->M enc X W 0 sp held fuel e cs=some y->∃c:α,cs=C c/\Q c)
  (h:M enc X W 0 sp held fuel t [v]=some x):
  ∃L:List α,Rws 0 W.heap.size sz W v L.length (fun j=>(L[j]?.map C).getD [])/\(∀(j:Nat) (c:α),L[j]? =some c->Q c)/\L.length<=ε:=by
 rcases open_slice ht h with ⟨hcs,hx⟩ | ⟨a,len,cap,m,n,D,Pl,hcs,hb,hl,hm,hmm,hx,hel⟩
 ·simp at hcs;subst hcs hx;exact⟨[],.inl ⟨rfl,rfl⟩,fun j c hj=>by simp at hj,π _⟩
 ·simp at hcs;subst hcs hx;have hwt:∀n ∈ ((((ξ len).map D).length+((ξ (m - len)).map fun j=>D (len+j)).length) * Tryz.prog.bytesOf e:: (DataW.weightsAll X e ((ξ len).map D)++DataW.weightsAll X e ((ξ (m - len)).map fun j=>D (len+j)))),n<=ε:=fun n hn=>hw n (by simp only [DataW.weights,ht];exact hn);have hlr:len<=ε:=by have h1:=hwt _ List.mem_cons_self;simp only [Φ,List.length_range] at h1;have h2:=Nat.le_mul_of_pos_right (len+(m - len)) hby;omega
  have hwe:∀i,i < len->Lgt e (D i):=fun i hi n hn=>hwt n (List.mem_cons_of_mem _ (List.mem_append_left _ (aFX hn (List.mem_map.2 ⟨i,List.mem_range.2 hi,rfl⟩))));have hlm:len<=m:=by rw [hmm];split <;> omega
  obtain⟨L,hL,hP⟩:=aB2 (α:=α) (P:=fun i c=>W.cells? 0 (a.add (i * sz)) sz=some (C c)/\Q c) len fun i hi=>by obtain⟨cs',k1,k2⟩:=hel i (by omega);rw [hce] at k1;obtain⟨c,rfl,q1⟩:=hC (hwe i hi) k2;exact⟨c,k1,q1⟩
  have hlen:∀(j:Nat) (c:α),L[j]? =some c->(C c).length=sz:=fun j c hj=>(World.cells?_some (hP j c hj).1).2.1;have hcell:∀(j:Nat) (c:α) (i:Nat) (u:G),L[j]? =some c->(C c)[i]? =some u->W.cell? (a.add (j * sz+i))=some u:=fun j c i u hj hu=>by
   have h1:=World.cells?_some (hP j c hj).1;have hi:i < sz:=by
    rcases Nat.lt_or_ge i sz with h | h
    ·exact h
    ·rw [χ (by rw [hlen j c hj];exact h)] at hu;cases hu
   have:=h1.2.2 i hi;rw [Go.Deep.add_add] at this;rw [this,hu]
  refine ⟨L,.inr ⟨a,cap,by rw [hL],by omega,hm,fun h0=> ?_,fun j i u hj hu=> ?_⟩,fun j c hj=>(hP j c hj).2,by rw [hL];omega⟩
  ·obtain ⟨c,hc⟩:∃c,L[0]? =some c:=⟨L[0],β h0⟩
   have hl0:=hlen 0 c hc;obtain⟨y,r,e⟩:=List.exists_cons_of_ne_nil (l:=C c) (by intro e;rw [e] at hl0;simp at hl0;omega);have:=World.block_lt_of_cell? W _ (hcell 0 c 0 y hc (by rw [e];rfl));rw [jG] at this;exact⟨π _,this⟩
  ·have hj':L[j]? =some L[j]:=β hj;dsimp only at hu;rw [hj'] at hu;exact hcell j _ i u hj' (by simpa using hu)
theorem vK {fuel:Nat} {cs:List G} {y:γ H × List R} (hw:Lgt 57 y.1) (h:M enc X W 0 sp held fuel 57 cs=some y):∃c:aN,cs=cellC c/\True:=by
 obtain⟨xs,n,_,rfl,hl,hxl,hf⟩:=I Tryz.underlying57 h;have hl3:cs.length=3:=hl.trans (by kernel_rfl)
 match xs,hxl,cs,hl3 with
 | [y0,y1,y2],_,[v0,v1,v2],_=>
  obtain⟨n0,e0,q0,w0⟩:=N K (hf 0 _ rfl);obtain⟨n1,e1,q1,w1⟩:=N K (hf 1 _ rfl);obtain⟨s2,e2,q2,w2⟩:=U J (hf 2 _ rfl);cases e0;cases e1;cases e2
  exact⟨⟨n0,n1,s2⟩,rfl,trivial⟩
theorem vL {fuel:Nat} {cs:List G} {y:γ H × List R} (hw:Lgt 89 y.1) (h:M enc X W 0 sp held fuel 89 cs=some y):∃c:fD,cs=kE c/\True:=by
 obtain⟨xs,n,_,rfl,hl,hxl,hf⟩:=I Tryz.underlying89 h;have hl3:cs.length=3:=hl.trans (by kernel_rfl)
 match xs,hxl,cs,hl3 with
 | [y0,y1,y2],_,[v0,v1,v2],_=>
  obtain⟨n0,e0,q0,w0⟩:=U J (hf 0 _ rfl);obtain⟨n1,e1,q1,w1⟩:=U J (hf 1 _ rfl);obtain⟨s2,e2,q2,w2⟩:=U J (hf 2 _ rfl);cases e0;cases e1;cases e2
  exact⟨⟨n0,n1,s2⟩,rfl,trivial⟩
theorem zI {fuel:Nat} {cs:List G} {y:γ H × List R} (h:M enc X W 0 sp held fuel 62 cs=some y):∃c:sK,cs=[.int .i64 c.kind,.int .i64 c.n,.string c.s]:=by
 obtain⟨xs,n,_,rfl,hl,hxl,hf⟩:=I Tryz.underlying62 h;have hl3:cs.length=3:=hl.trans (by kernel_rfl)
 match xs,hxl,cs,hl3 with
 | [y0,y1,y2],_,[v0,v1,v2],_=>
  obtain⟨n0,e0,q0,w0⟩:=N K (hf 0 _ rfl);obtain⟨n1,e1,q1,w1⟩:=N K (hf 1 _ rfl);obtain⟨s2,e2,q2,w2⟩:=U J (hf 2 _ rfl);cases e0;cases e1;cases e2
  exact⟨⟨n0,n1,s2⟩,rfl⟩
theorem vM {fuel:Nat} {cs:List G} {y:γ H × List R} (hw:Lgt 91 y.1) (h:M enc X W 0 sp held fuel 91 cs=some y):∃c:eO,cs=kF c/\True:=by
 obtain⟨xs,n,_,rfl,hl,hxl,hf⟩:=I Tryz.underlying91 h;have hl3:cs.length=7:=hl.trans (by kernel_rfl)
 match xs,hxl,cs,hl3 with
 | [y0,y1,y2,y3,y4],_,[v0,v1,v2,v3,v4,v5,v6],_=>
  obtain⟨s0,e0,q0,w0⟩:=U J (hf 0 _ rfl);obtain⟨s1,e1,q1,w1⟩:=U J (hf 1 _ rfl);obtain⟨n2,e2,q2,w2⟩:=N K (hf 2 _ rfl);obtain⟨n3,e3,q3,w3⟩:=N K (hf 3 _ rfl);obtain⟨c4,e4⟩:=zI (hf 4 _ rfl);cases e0;cases e1;cases e2;cases e3
  obtain⟨rfl,rfl,rfl⟩:v4=.int .i64 c4.kind/\v5=.int .i64 c4.n/\v6=.string c4.s:=by have e4': [v4,v5,v6]=[.int .i64 c4.kind,.int .i64 c4.n,.string c4.s]:=e4;simpa using e4'
  exact⟨⟨s0,s1,n2,n3,c4⟩,rfl,trivial⟩
theorem uD {fuel:Nat} {v:G} {x:γ H × List R} (hw:Lgt 27 x.1) (h:M enc X W 0 sp held fuel 27 [v]=some x):∃L,Cls 0 W.heap.size W v L/\L.length<=ε:=by obtain⟨L,h1,_,h3⟩:=jA (C:=cellC) (Q:=fun _=>True) Tryz.underlying27 (sz:=3) (by kernel_rfl) (by decide) (of_decide_eq_true (by kernel_rfl)) hw vK h;exact⟨L,h1,h3⟩
theorem zJ {fuel:Nat} {v:G} {x:γ H × List R} (hw:Lgt 23 x.1) (h:M enc X W 0 sp held fuel 23 [v]=some x):∃L,Nms 0 W.heap.size W v L/\L.length<=ε:=by obtain⟨L,h1,_,h3⟩:=jA (C:=kE) (Q:=fun _=>True) Tryz.underlying23 (sz:=3) (by kernel_rfl) (by decide) (of_decide_eq_true (by kernel_rfl)) hw vL h;exact⟨L,h1,h3⟩
theorem zK {fuel:Nat} {v:G} {x:γ H × List R} (hw:Lgt 24 x.1) (h:M enc X W 0 sp held fuel 24 [v]=some x):∃L,Lks 0 W.heap.size W v L/\L.length<=ε:=by obtain⟨L,h1,_,h3⟩:=jA (C:=kF) (Q:=fun _=>True) Tryz.underlying24 (sz:=7) (by kernel_rfl) (by decide) (of_decide_eq_true (by kernel_rfl)) hw vM h;exact⟨L,h1,h3⟩
theorem rH {fuel:Nat} {cs:List G} {y:γ H × List R} (hw:Lgt 78 y.1) (h:M enc X W 0 sp held fuel 78 cs=some y):∃c:aT × G,cs=bY c.1 c.2/\Cls 0 W.heap.size W c.2 c.1.cells/\c.1.name.size<=Δ/\c.1.cells.length<=ε:=by
 obtain⟨xs,n,_,rfl,hl,hxl,hf⟩:=I Tryz.underlying78 h;have hw2:=hw;simp only [DataW.weights,Tryz.underlying78] at hw2;have hl3:cs.length=2:=hl.trans (by kernel_rfl)
 match xs,hxl,cs,hl3 with
 | [y0,y1],_,[v0,v1],_=>
  obtain⟨s0,e0,q0,w0⟩:=U J (hf 0 _ rfl);obtain⟨L,hc,k1⟩:=uD (v:=v1) (x:=y1) (fun n hn=>hw2 n (DataW.weights_mem_each (j:=1) rfl rfl n hn)) (hf 1 _ rfl);cases e0
  exact⟨(⟨s0,L⟩,v1),rfl,hc,w0,k1⟩
theorem zL {fuel:Nat} {v:G} {x:γ H × List R} (hw:Lgt 22 x.1) (h:M enc X W 0 sp held fuel 22 [v]=some x):∃L,Shs 0 W.heap.size W v L/\(∀c ∈ L,c.name.size<=Δ/\c.cells.length<=ε)/\L.length<=ε:=by
 obtain⟨L,h1,h2,h3⟩:=jA (C:=fun c:aT × G=>bY c.1 c.2) (Q:=fun c=>Cls 0 W.heap.size W c.2 c.1.cells/\c.1.name.size<=Δ/\c.1.cells.length<=ε) Tryz.underlying22 (sz:=2) (by kernel_rfl) (by decide) (of_decide_eq_true (by kernel_rfl)) hw rH h;refine ⟨L.map (·.1),⟨fun j=>((L[j]?).map (·.2)).getD (.slice none 0 0), ?_,fun j o hj=> ?_⟩,fun c hc=> ?_,by simpa using h3⟩
 ·rw [Φ];refine Rws.congr h1 fun j hj=> ?_;simp [iG,β hj]
 ·rw [List.getElem?_map] at hj;rcases hq:L[j]? with _ | c
  ·rw [hq] at hj;cases hj
  ·rw [hq] at hj;cases hj
   dsimp only;rw [hq];exact(h2 j c hq).1
 ·obtain ⟨y,hy,rfl⟩:=List.mem_map.1 hc;obtain⟨j,hj⟩:=List.getElem?_of_mem hy;exact(h2 j y hj).2
theorem aAS {fuel:Nat} {cs:List G} {y:γ H × List R} (hw:Lgt 26 y.1) (h:M enc X W 0 sp held fuel 26 cs=some y):∃sv nv lv x,cs=[sv,nv,lv]/\BkM 0 W.heap.size W sv nv lv x/\(∀c ∈ x.sheets,c.name.size<=Δ/\c.cells.length<=ε)/\x.sheets.length<=ε/\x.names.length<=ε/\x.links.length<=ε:=by
 obtain⟨xs,n,_,rfl,hl,hxl,hf⟩:=I Tryz.underlying26 h;have hw2:=hw;simp only [DataW.weights,Tryz.underlying26] at hw2;have hl3:cs.length=3:=hl.trans (by kernel_rfl)
 match xs,hxl,cs,hl3 with
 | [y0,y1,y2],_,[v0,v1,v2],_=>
  obtain⟨L0,h0,k0,b0⟩:=zL (v:=v0) (x:=y0) (fun n hn=>hw2 n (DataW.weights_mem_each (j:=0) rfl rfl n hn)) (hf 0 _ rfl);obtain⟨L1,h1,b1⟩:=zJ (v:=v1) (x:=y1) (fun n hn=>hw2 n (DataW.weights_mem_each (j:=1) rfl rfl n hn)) (hf 1 _ rfl);obtain⟨L2,h2,b2⟩:=zK (v:=v2) (x:=y2) (fun n hn=>hw2 n (DataW.weights_mem_each (j:=2) rfl rfl n hn)) (hf 2 _ rfl);exact⟨v0,v1,v2,⟨L0,L1,L2⟩,rfl,⟨h0,h1,h2⟩,k0,b0,b1,b2⟩
end
end Go.Proofs.YtfedoljlipfhdaaGreatDoor.Sh
namespace Go.Proofs.YtfedoljlipfhdaaGreatDoor.Sh.Ub
open Go.ChangeShapes Go.WideShapes Go.ChangeAt Go.WideElems Go.RowKit Go.Deep
theorem aKP {H:Type} (d:γ H):1<=Rows.uptoBulk d:=by
 cases d with
 | lit l=>cases l <;> simp [Rows.uptoBulk]
 | nil=>simp [Rows.uptoBulk]
 | ptr d=>simp [Rows.uptoBulk]
 | slice elems spare=>simp [Rows.uptoBulk]
 | agg parts=>simp [Rows.uptoBulk]
 | iface t d=>simp [Rows.uptoBulk]
 | map entries=>simp [Rows.uptoBulk]
 | held h=>simp [Rows.uptoBulk]
theorem wf_i64 {n:Int} (h:(Lit.int .i64 n).wf=υ):In64 n:=by have h1:IntKind.i64.min= -9223372036854775808:=rfl;have h2:IntKind.i64.max=9223372036854775807:=rfl;simp [Lit.wf] at h;constructor <;> omega
theorem aHt {H α:Type} {B:α->List UInt8} {D:Nat->γ H} (L:List α) (h:∀i c,L[i]? =some c->(B c).length<=10 * Rows.uptoBulk (D i)):(L.flatMap B).length<=10 * Rows.uptoBulkAll ((ξ L.length).map D):=by
 induction L generalizing D with
 | nil=>simp
 | cons x r ih=>
  have h0:=h 0 x rfl;have h1:=ih (D:=fun i=>D (i+1)) fun i c hi=>h (i+1) c (by simpa using hi);rw [ν,List.range_succ_eq_map,μ,List.map_map,ρ,V];simp only [Rows.uptoBulkAll];have e:(ξ r.length).map (D ∘ Nat.succ)=(ξ r.length).map fun i=>D (i+1):=rfl;rw [e];omega
theorem iP {H:Type} (s:ByteArray) (hs:s.size<=Δ):(Bt.bR s).length<=10 * Rows.uptoBulk (DataW.lit (H:=H) (.string s.data.toList)):=by have:=Bt.gU (n:=s.size) (by unfold Δ at hs;constructor <;> omega);rw [Bt.kL];simp only [Rows.uptoBulk,Array.length_toList];have e:s.data.size=s.size:=rfl;rw [e];omega
theorem mP {H:Type} {n:Int} (h:In64 n):(Bt.bO n).length<=10 * Rows.uptoBulk (DataW.lit (H:=H) (.int .i64 n)):=by have:=Bt.gU h;simp only [Rows.uptoBulk];omega
section
variable {H:Type} {enc:Θ × G->H} {W:σ} {sp:Nat->Bool} {held:Bool}
theorem vK {fuel:Nat} {cs:List G} {y:γ H × List R} (h:M enc X W 0 sp held fuel 57 cs=some y):∃c:aN,cs=cellC c/\c.Ok/\(Bt.bV c).length<=10 * Rows.uptoBulk y.1:=by
 obtain⟨xs,n,_,rfl,hl,hxl,hf⟩:=I Tryz.underlying57 h;have hl3:cs.length=3:=hl.trans (by kernel_rfl)
 match xs,hxl,cs,hl3 with
 | [y0,y1,y2],_,[v0,v1,v2],_=>
  obtain⟨n0,e0,q0,w0⟩:=N K (hf 0 _ rfl);obtain⟨n1,e1,q1,w1⟩:=N K (hf 1 _ rfl);obtain⟨s2,e2,q2,w2⟩:=U J (hf 2 _ rfl);cases e0;cases e1;cases e2
  refine ⟨⟨n0,n1,s2⟩,rfl,⟨wf_i64 w0,wf_i64 w1⟩, ?_⟩;subst q0 q1 q2;have b0:=mP (H:=H) (wf_i64 w0);have b1:=mP (H:=H) (wf_i64 w1);have b2:=iP (H:=H) s2 w2;simp only [Bt.bV,V,μ,List.map_nil,Rows.uptoBulk,Rows.uptoBulkAll] at *;omega
theorem vL {fuel:Nat} {cs:List G} {y:γ H × List R} (h:M enc X W 0 sp held fuel 89 cs=some y):∃c:fD,cs=kE c/\(Bt.fB c).length<=10 * Rows.uptoBulk y.1:=by
 obtain⟨xs,n,_,rfl,hl,hxl,hf⟩:=I Tryz.underlying89 h;have hl3:cs.length=3:=hl.trans (by kernel_rfl)
 match xs,hxl,cs,hl3 with
 | [y0,y1,y2],_,[v0,v1,v2],_=>
  obtain⟨s0,e0,q0,w0⟩:=U J (hf 0 _ rfl);obtain⟨s1,e1,q1,w1⟩:=U J (hf 1 _ rfl);obtain⟨s2,e2,q2,w2⟩:=U J (hf 2 _ rfl);cases e0;cases e1;cases e2
  refine ⟨⟨s0,s1,s2⟩,rfl, ?_⟩;subst q0 q1 q2;have b0:=iP (H:=H) s0 w0;have b1:=iP (H:=H) s1 w1;have b2:=iP (H:=H) s2 w2;simp only [Bt.fB,V,μ,List.map_nil,Rows.uptoBulk,Rows.uptoBulkAll] at *;omega
theorem zI {fuel:Nat} {cs:List G} {y:γ H × List R} (h:M enc X W 0 sp held fuel 62 cs=some y):∃c:sK,cs=[.int .i64 c.kind,.int .i64 c.n,.string c.s]/\c.Ok/\(Bt.zB c).length<=10 * Rows.uptoBulk y.1:=by
 obtain⟨xs,n,_,rfl,hl,hxl,hf⟩:=I Tryz.underlying62 h;have hl3:cs.length=3:=hl.trans (by kernel_rfl)
 match xs,hxl,cs,hl3 with
 | [y0,y1,y2],_,[v0,v1,v2],_=>
  obtain⟨n0,e0,q0,w0⟩:=N K (hf 0 _ rfl);obtain⟨n1,e1,q1,w1⟩:=N K (hf 1 _ rfl);obtain⟨s2,e2,q2,w2⟩:=U J (hf 2 _ rfl);cases e0;cases e1;cases e2
  refine ⟨⟨n0,n1,s2⟩,rfl,⟨wf_i64 w0,wf_i64 w1⟩, ?_⟩;subst q0 q1 q2;have b0:=mP (H:=H) (wf_i64 w0);have b1:=mP (H:=H) (wf_i64 w1);have b2:=iP (H:=H) s2 w2;simp only [Bt.zB,V,μ,List.map_nil,Rows.uptoBulk,Rows.uptoBulkAll] at *;omega
theorem vM {fuel:Nat} {cs:List G} {y:γ H × List R} (h:M enc X W 0 sp held fuel 91 cs=some y):
  ∃c:eO,cs=kF c/\c.Ok/\(Bt.gG c).length<=10 * Rows.uptoBulk y.1:=by
 obtain⟨xs,n,_,rfl,hl,hxl,hf⟩:=I Tryz.underlying91 h;have hl3:cs.length=7:=hl.trans (by kernel_rfl)
 match xs,hxl,cs,hl3 with
 | [y0,y1,y2,y3,y4],_,[v0,v1,v2,v3,v4,v5,v6],_=>
  obtain⟨s0,e0,q0,w0⟩:=U J (hf 0 _ rfl);obtain⟨s1,e1,q1,w1⟩:=U J (hf 1 _ rfl);obtain⟨n2,e2,q2,w2⟩:=N K (hf 2 _ rfl);obtain⟨n3,e3,q3,w3⟩:=N K (hf 3 _ rfl);obtain⟨c4,e4,k4,b4⟩:=zI (hf 4 _ rfl);cases e0;cases e1;cases e2;cases e3
  obtain⟨rfl,rfl,rfl⟩:v4=.int .i64 c4.kind/\v5=.int .i64 c4.n/\v6=.string c4.s:=by have e4': [v4,v5,v6]=[.int .i64 c4.kind,.int .i64 c4.n,.string c4.s]:=e4;simpa using e4'
  refine ⟨⟨s0,s1,n2,n3,c4⟩,rfl,⟨wf_i64 w2,wf_i64 w3,k4⟩, ?_⟩;subst q0 q1 q2 q3;have b0:=iP (H:=H) s0 w0;have b1:=iP (H:=H) s1 w1;have b2:=mP (H:=H) (wf_i64 w2);have b3:=mP (H:=H) (wf_i64 w3);simp only [Bt.gG,V,μ,List.map_nil,Rows.uptoBulk,Rows.uptoBulkAll] at *;omega
theorem jA {t e:Θ} {sz:Nat} {α:Type} {C:α->List G} {B:α->List UInt8} {Q:α->Prop} {fuel:Nat} {v:G} {x:γ H × List R} (ht:Tryz.prog.underlying t=some (.slice e)) (hce:Tryz.prog.cellsOf e=sz) (hsz:0 < sz)
  (hC:∀{fuel:Nat} {cs:List G} {y:γ H × List R},M enc X W 0 sp held fuel e cs=some y->∃c:α,cs=C c/\Q c/\(B c).length<=10 * Rows.uptoBulk y.1)
  (h:M enc X W 0 sp held fuel t [v]=some x):
  ∃L:List α,Rws 0 W.heap.size sz W v L.length (fun j=>(L[j]?.map C).getD [])/\(∀(j:Nat) (c:α),L[j]? =some c->(C c).length=sz/\Q c)/\L.length<=Rows.uptoBulk x.1/\(Bt.cO B L).length<=10 * Rows.uptoBulk x.1/\L.length<=Δ:=by
 rcases open_slice ht h with ⟨hcs,hx⟩ | ⟨a,len,cap,m,n,D,Pl,hcs,hb,hl,hm,hmm,hx,hel⟩
 ·simp at hcs;subst hcs hx;refine ⟨[],.inl ⟨rfl,rfl⟩,fun j c hj=>by simp at hj,by simp, ?_,by simp⟩;have:=Bt.gU (n:=0) (by constructor <;> decide);simpa [Bt.cO,Rows.uptoBulk] using this
 ·simp at hcs;subst hcs hx;have hlm:len<=m:=by rw [hmm];split <;> omega
  obtain⟨L,hL,hP⟩:=aB2 (α:=α) (P:=fun i c=>W.cells? 0 (a.add (i * sz)) sz=some (C c)/\Q c/\(B c).length<=10 * Rows.uptoBulk (D i)) len fun i hi=>by obtain⟨cs',k1,k2⟩:=hel i (by omega);rw [hce] at k1;obtain⟨c,rfl,q1,q2⟩:=hC k2;exact⟨c,k1,q1,q2⟩
  have hlen:∀(j:Nat) (c:α),L[j]? =some c->(C c).length=sz:=fun j c hj=>(World.cells?_some (hP j c hj).1).2.1;have hcell:∀(j:Nat) (c:α) (i:Nat) (u:G),L[j]? =some c->(C c)[i]? =some u->W.cell? (a.add (j * sz+i))=some u:=fun j c i u hj hu=>by
   have h1:=World.cells?_some (hP j c hj).1;have hi:i < sz:=by
    rcases Nat.lt_or_ge i sz with h | h
    ·exact h
    ·rw [χ (by rw [hlen j c hj];exact h)] at hu;cases hu
   have:=h1.2.2 i hi;rw [Go.Deep.add_add] at this;rw [this,hu]
  have hmax:len<=9223372036854775807:=by unfold Δ at hm;omega
  have aFY:=aHt (B:=B) (D:=D) L fun i c hi=>(hP i c hi).2.2;have aQl:=Bt.gU (n:=L.length) (by constructor <;> omega);have aN2:∀n:Nat,n<=Rows.uptoBulkAll ((ξ n).map D):=fun n=>by
   have:∀l:List (γ H),l.length<=Rows.uptoBulkAll l:=fun l=>by
    induction l with
    | nil=>simp
    | cons y r ih=>have:=aKP y;simp only [Rows.uptoBulkAll,ν];omega
   simpa using this ((ξ n).map D)
  refine ⟨L,.inr ⟨a,cap,by rw [hL],by omega,hm,fun h0=> ?_,fun j i u hj hu=> ?_⟩,fun j c hj=>⟨hlen j c hj,(hP j c hj).2.1⟩, ?_, ?_, ?_⟩
  ·obtain ⟨c,hc⟩:∃c,L[0]? =some c:=⟨L[0],β h0⟩
   have hl0:=hlen 0 c hc;obtain⟨y,r,e⟩:=List.exists_cons_of_ne_nil (l:=C c) (by intro e;rw [e] at hl0;simp at hl0;omega);have:=World.block_lt_of_cell? W _ (hcell 0 c 0 y hc (by rw [e];rfl));rw [jG] at this;exact⟨π _,this⟩
  ·have hj':L[j]? =some L[j]:=β hj;dsimp only at hu;rw [hj'] at hu;exact hcell j _ i u hj' (by simpa using hu)
  ·have:=aN2 len;simp only [Rows.uptoBulk];omega
  ·rw [hL] at aFY;simp only [Bt.cO,V,Rows.uptoBulk];omega
  ·rw [hL];omega
theorem uD {fuel:Nat} {v:G} {x:γ H × List R} (h:M enc X W 0 sp held fuel 27 [v]=some x):∃L,Cls 0 W.heap.size W v L/\(∀c ∈ L,c.Ok)/\(Bt.cO Bt.bV L).length<=10 * Rows.uptoBulk x.1:=by obtain⟨L,h1,h2,_,h3,_⟩:=jA (C:=cellC) (B:=Bt.bV) (Q:=aN.Ok) Tryz.underlying27 (sz:=3) (by kernel_rfl) (by decide) vK h;refine ⟨L,h1,fun c hc=> ?_,h3⟩;obtain⟨j,hj⟩:=List.getElem?_of_mem hc;exact(h2 j c hj).2
theorem rH {fuel:Nat} {cs:List G} {y:γ H × List R} (h:M enc X W 0 sp held fuel 78 cs=some y):∃c:aT × G,cs=bY c.1 c.2/\(c.1.Ok/\Cls 0 W.heap.size W c.2 c.1.cells)/\(Bt.bC c.1).length<=10 * Rows.uptoBulk y.1:=by
 obtain⟨xs,n,_,rfl,hl,hxl,hf⟩:=I Tryz.underlying78 h;have hl3:cs.length=2:=hl.trans (by kernel_rfl)
 match xs,hxl,cs,hl3 with
 | [y0,y1],_,[v0,v1],_=>
  obtain⟨s0,e0,q0,w0⟩:=U J (hf 0 _ rfl);obtain⟨L,hc,k1,b1⟩:=uD (v:=v1) (x:=y1) (hf 1 _ rfl);cases e0
  refine ⟨(⟨s0,L⟩,v1),rfl,⟨k1,hc⟩, ?_⟩;subst q0;have b0:=iP (H:=H) s0 w0;simp only [Bt.bC,V,μ,List.map_nil,Rows.uptoBulk,Rows.uptoBulkAll] at *;omega
theorem zJ {fuel:Nat} {v:G} {x:γ H × List R} (h:M enc X W 0 sp held fuel 23 [v]=some x):∃L,Nms 0 W.heap.size W v L/\(Bt.cO Bt.fB L).length<=10 * Rows.uptoBulk x.1:=by obtain⟨L,h1,h2,_,h3,_⟩:=jA (C:=kE) (B:=Bt.fB) (Q:=fun _=>True) Tryz.underlying23 (sz:=3) (by kernel_rfl) (by decide) (fun h=>by obtain⟨c,e,b⟩:=vL h;exact⟨c,e,trivial,b⟩) h;exact⟨L,h1,h3⟩
theorem zK {fuel:Nat} {v:G} {x:γ H × List R} (h:M enc X W 0 sp held fuel 24 [v]=some x):∃L,Lks 0 W.heap.size W v L/\(∀c ∈ L,c.Ok)/\(Bt.cO Bt.gG L).length<=10 * Rows.uptoBulk x.1:=by obtain⟨L,h1,h2,_,h3,_⟩:=jA (C:=kF) (B:=Bt.gG) (Q:=eO.Ok) Tryz.underlying24 (sz:=7) (by kernel_rfl) (by decide) vM h;refine ⟨L,h1,fun c hc=> ?_,h3⟩;obtain⟨j,hj⟩:=List.getElem?_of_mem hc;exact(h2 j c hj).2
theorem zL {fuel:Nat} {v:G} {x:γ H × List R} (h:M enc X W 0 sp held fuel 22 [v]=some x):∃L,Shs 0 W.heap.size W v L/\(∀c ∈ L,c.Ok)/\(Bt.cO Bt.bC L).length<=10 * Rows.uptoBulk x.1:=by
 obtain⟨L,h1,h2,_,h3,_⟩:=jA (C:=fun c:aT × G=>bY c.1 c.2) (B:=fun c=>Bt.bC c.1) (Q:=fun c=>c.1.Ok/\Cls 0 W.heap.size W c.2 c.1.cells) Tryz.underlying22 (sz:=2) (by kernel_rfl) (by decide) rH h;refine ⟨L.map (·.1),⟨fun j=>((L[j]?).map (·.2)).getD (.slice none 0 0), ?_,fun j o hj=> ?_⟩,fun c hc=> ?_, ?_⟩
 ·rw [Φ];refine Rws.congr h1 fun j hj=> ?_;simp [iG,β hj]
 ·rw [List.getElem?_map] at hj;rcases hq:L[j]? with _ | c
  ·rw [hq] at hj;cases hj
  ·rw [hq] at hj;cases hj
   dsimp only;rw [hq];exact(h2 j c hq).2.2
 ·obtain ⟨y,hy,rfl⟩:=List.mem_map.1 hc;obtain⟨j,hj⟩:=List.getElem?_of_mem hy;exact(h2 j y hj).2.1
 ·simpa [Bt.cO,List.flatMap_map] using h3
theorem aAS {fuel:Nat} {cs:List G} {y:γ H × List R} (h:M enc X W 0 sp held fuel 26 cs=some y):∃sv nv lv x,cs=[sv,nv,lv]/\BkM 0 W.heap.size W sv nv lv x/\x.Ok/\(Bt.dA x).length<=10 * Rows.uptoBulk y.1:=by
 obtain⟨xs,n,_,rfl,hl,hxl,hf⟩:=I Tryz.underlying26 h;have hl3:cs.length=3:=hl.trans (by kernel_rfl)
 match xs,hxl,cs,hl3 with
 | [y0,y1,y2],_,[v0,v1,v2],_=>
  obtain⟨L0,h0,k0,b0⟩:=zL (v:=v0) (x:=y0) (hf 0 _ rfl);obtain⟨L1,h1,b1⟩:=zJ (v:=v1) (x:=y1) (hf 1 _ rfl);obtain⟨L2,h2,k2,b2⟩:=zK (v:=v2) (x:=y2) (hf 2 _ rfl);refine ⟨v0,v1,v2,⟨L0,L1,L2⟩,rfl,⟨h0,h1,h2⟩,⟨k0,k2⟩, ?_⟩;simp only [Bt.dA,V,μ,List.map_nil,Rows.uptoBulk,Rows.uptoBulkAll] at *;omega
theorem aMC {r:Reach} {b0:Nat} {v:G} {d:γ H} {p:List R} (hv:Value.okWide X W r b0 26 v) (h:DataW.Trod enc X W 0 sp held 26 v d p):∃sv nv lv x,v=.agg #[sv,nv,lv]/\BkM 0 W.heap.size W sv nv lv x/\x.Ok/\(Bt.dA x).length<=10 * Rows.uptoBulk d:=by
 obtain⟨cs,rfl,hsz⟩:=okWide_struct Tryz.underlying26 hv;obtain⟨fuel,hf⟩:=h;obtain⟨sv,nv,lv,x,e,h1⟩:=aAS hf;refine ⟨sv,nv,lv,x, ?_,h1⟩;have:cs.toList=[sv,nv,lv]:=by simpa [Value.cells] using e
 have h2:cs=[sv,nv,lv].toArray:=by rw [<-this,Array.toArray_toList]
 rw [h2]
end
section
variable {H:Type} {enc:Θ × G->H} {W:σ} {sp:Nat->Bool} {held:Bool}
theorem aHu {fuel:Nat} {cs:List G} {y:γ H × List R} (h:M enc X W 0 sp held fuel 29 cs=some y):∃(p:tZ) (L:List aN),cs=aBO p/\p.n=L.length/\Cls 0 W.heap.size W (.slice p.a L.length p.m) L/\(∀c ∈ L,c.Ok)/\(Bt.cO Bt.bV L).length<=10 * Rows.uptoBulk y.1/\p.sh.size<=Rows.uptoBulk y.1:=by
 obtain⟨xs,n,_,rfl,hl,hxl,hf⟩:=I Tryz.underlying29 h;have hl3:cs.length=6:=hl.trans (by kernel_rfl)
 match xs,hxl,cs,hl3 with
 | [y0,y1,y2,y3,y4,y5],_,[v0,v1,v2,v3,v4,v5],_=>
  obtain⟨s0,e0,q0,w0⟩:=U J (hf 0 _ rfl);obtain⟨n1,e1,q1,w1⟩:=N K (hf 1 _ rfl);obtain⟨n2,e2,q2,w2⟩:=N K (hf 2 _ rfl);obtain⟨s3,e3,q3,w3⟩:=U J (hf 3 _ rfl);obtain⟨n4,e4,q4,w4⟩:=N K (hf 4 _ rfl);obtain⟨L,hc,k5,b5⟩:=uD (v:=v5) (x:=y5) (hf 5 _ rfl);cases e0;cases e1;cases e2;cases e3;cases e4
  obtain⟨a,c,rfl,_,_⟩:=hc.slice;refine ⟨⟨s0,n1,n2,s3,n4,a,L.length,c⟩,L,rfl,rfl,hc,k5, ?_, ?_⟩;all_goals
   subst q0 q1 q2 q3 q4;have e0:s0.data.toList.length=s0.size:=by rw [Array.length_toList];rfl
   simp only [μ,List.map_nil,Rows.uptoBulk,Rows.uptoBulkAll];omega
theorem aHv {r:Reach} {b0:Nat} {v:G} {d:γ H} {p:List R} (hv:Value.okWide X W r b0 29 v) (h:DataW.Trod enc X W 0 sp held 29 v d p):∃(q:tZ) (L:List aN),v=aKI q/\q.n=L.length/\Cls 0 W.heap.size W (.slice q.a L.length q.m) L/\(∀c ∈ L,c.Ok)/\(Bt.cO Bt.bV L).length<=10 * Rows.uptoBulk d/\q.sh.size<=Rows.uptoBulk d:=by
 obtain⟨cs,rfl,hsz⟩:=okWide_struct Tryz.underlying29 hv;obtain⟨fuel,hf⟩:=h;obtain⟨q,L,e,h1⟩:=aHu hf;refine ⟨q,L, ?_,h1⟩;have:cs.toList=aBO q:=by simpa [Value.cells] using e
 have h2:cs=(aBO q).toArray:=by rw [<-this,Array.toArray_toList]
 rw [h2];rfl
end
theorem aDD {w:σ} (T:dS w) {sv nv lv:G} {x:aP} (h:BkM 0 w.heap.size w sv nv lv x) (ox:x.Ok) {n m:Nat} (lx:(Bt.dA x).length<=10 * n) (q:tZ) (L:List aN) (hq:q.n=L.length) (hc:Cls 0 w.heap.size w (.slice q.a L.length q.m) L) (oL:∀c ∈ L,c.Ok) (lL:(Bt.cO Bt.bV L).length<=10 * m) (hs:q.sh.size<=m) (hn:n+m<=1048576):
  CR 4 #[.agg #[sv,nv,lv],aKI q] w (.bool υ):=
 aE6 h (z _) ox (by omega) q hq hc (z _) oL (by simp only [Bt.cO,V] at lL;omega) (by omega) T
end Go.Proofs.YtfedoljlipfhdaaGreatDoor.Sh.Ub
