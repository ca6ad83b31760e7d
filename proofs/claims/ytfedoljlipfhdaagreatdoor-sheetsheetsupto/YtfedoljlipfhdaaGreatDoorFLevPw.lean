/- TBook, TName, TName2, TName3, TText, TText2, TNext, TSeq, TSame, BPure, PTok, FPar1, FPar2, FPar3, FStr, FPar4, FRow, FLev. -/
import Derived.Lib.IndexBytes
import Derived.Lib.OthersKept
import Derived.Lib.Replace
import Derived.Lib.SplitLaws
import Derived.Test.YtfedoljlipfhdaaGreatDoorTSignPw
set_option linter.unusedVariables false
set_option linter.unusedSimpArgs false
set_option maxHeartbeats 16000000
set_option maxRecDepth 100000
open Go.Proofs.Tryz renaming prog->Z,underlying67->z7
open Go renaming World->V,Calls->J,Value->α,bodyPost_ret->γ,heap_alloc_new->ζ,TypeId->ξ,callFunc->φ,cell_of_row->Φ,Operand->z3,execOp->y0,Addr->y3,setRow_heap->y6,Oper->y7,wpList_plain->x1,wpList->x2,Program->x4,Ending->x9
open Go.RowKit renaming Hid->U,Below->ρ
open Bool renaming false->G,true->δ,and_eq_true->y2
open List renaming length_cons->β,setIfInBounds_toArray->η,set_cons_zero->ο,set_cons_succ->π,eq_nil_of_length_eq_zero->χ,length_append->Δ,flatMap_cons->Θ,append_assoc->Ξ,not_mem_nil->Ψ,dropWhile_cons->z1,mem_cons->z5,getElem?_append_right->z6,getElem?_append_left->z8,cons_append->y1,length_map->y5,mem_cons_of_mem->y9,takeWhile_cons->x0,length->x5,isPrefixOf->x6,map_cons->x7
open Go.World renaming grownBy_alloc->ε,block_lt_of_cell?->y4
open Go.Instr renaming storeAt->θ,loadAt->κ,buildSlice->ν,build->y8
open Go.RowKit.Below renaming heap_alloc->ι,refl->μ
open Go.Result renaming andThen_ok->σ
open Go.Proofs renaming enters_of->τ
open Nat renaming le_refl->υ,le_trans->x3,zero_add->x8
open Option.some renaming inj->ψ,injEq->v0
open Go.Sem renaming run_pure->ω,run_bind->Γ
open Go.Oper renaming wp->Ω
open Go.ByteArray renaming toList_eq->z2
open Go.Calls renaming mono->z9
namespace Go.Proofs.YtfedoljlipfhdaaGreatDoor
open Go.RowKit
def trB (l:List UInt8):Bool:=(jQ (ba l)).2
theorem aEk {c:UInt8} (h:Ad.isL (szB 97 65 c)=δ):Ad.isL c=δ:=by
 unfold szB at h;split at h
 ·rename_i h1
  unfold Ad.isL;simp only [Bool.or_eq_true,y2,decide_eq_true_eq];omega
 ·exact h
theorem aCV {l:List UInt8} (h:trB l=δ):szF 97 65 l=[84,82,85,69]\/szF 97 65 l=[70,65,76,83,69]:=by
 unfold trB jQ at h;rcases mE (szF 97 65 l) with ⟨a,b,_⟩ | ⟨a,b,_⟩ | ⟨_,_,b,_⟩
 ·exact .inl a
 ·exact .inr a
 ·have:(aGh (szF 97 65 l)).2=δ:=h;rw [b] at this;cases this
theorem vP {l:List UInt8} (h:∀x ∈ szF 97 65 l,Ad.isL x=δ):∀x ∈ l,Ad.isL x=δ:=fun x hx=>aEk (h _ (List.mem_map_of_mem hx))
theorem vQ {l:List UInt8} (h:trB l=δ):l ≠ []/\∀x ∈ l,Ad.isL x=δ:=by
 rcases aCV h with e | e
 ·exact ⟨fun e2=>(by rw [e2] at e;cases e),vP (by rw [e];decide)⟩
 ·exact ⟨fun e2=>(by rw [e2] at e;cases e),vP (by rw [e];decide)⟩
theorem aJc (l:List UInt8):((dZ (ba l)).1==3)=trB l:=by
 cases h:trB l
 ·have h':(jQ (ba l)).2=G:=h;unfold dZ;split
  ·rfl
  ·split
   ·rfl
   ·split
    ·rfl
    ·rw [h',if_neg (by decide)];split <;> rfl
 ·obtain ⟨h1,h2⟩:=vQ h;have:nK l=δ:=by
   cases l with
   | nil=>exact absurd rfl h1
   | cons c r=>exact h2 c (by simp)
  rw [xE (s:=ba l) this];exact h
theorem aGK (l:List UInt8) (hl:l.length<=255) (w:V) (T:xB w):
  CR 234 #[.string (ba l)] w (.bool (trB l)):=by
 have Y:=uK (ba l) (by rw [size_mk];omega) w T;rw [<-aJc l];generalize (dZ (ba l)).1=k at *;generalize (dZ (ba l)).2.1=n at *;generalize (dZ (ba l)).2.2=x at *;generalize ba l=A at *;have FL:=fun W=>aFi W k n x;go_enter Tryz.func234,Tryz.ntmps234;go_wp2_with (go_at_call 160;refine Y.mono ?_;rintro e w1 ⟨rfl,hb⟩;have HB:U (ρ w.heap.size w w1):=hb;clear hb)
 go_ret;exact⟨rfl,HB.out⟩
def bkF (l:List UInt8):List UInt8 × List UInt8:=
 match Ad.strip 91 l with
 | (δ,m)=>(match Ad.at_ 93 m with
  | some (a,r)=>if gnF a=δ then (a,r) else ([],l)
  | none=>([],l))
 | (G,_)=>([],l)
theorem aLx {W w:V} {b:Nat} {l:List UInt8} (X:LX W b l w) {I N R:ByteArray} {m:List UInt8} (hR:R=ba m) {op cl g:Bool}
  (CP:∀u,CW 73 #[.string (ba l),.string ⟨#[91]⟩] u (.tuple #[.string I,.bool op]))
  (CU:∀u,CR 247 #[.string I,.string ⟨#[93]⟩] u (.tuple #[.string N,.string R,.bool cl]))
  (GN:∀u,dS u->CR 76 #[.string N] u (.bool g)):
  J Z 230 #[pt b] w fun e w'=>e=.returned (.string (if (op && cl && g)=δ then N else noB))/\St W b (if (op && cl && g)=δ then m else l) w w':=by
 obtain⟨c0,c1,f0⟩:=X.cells;have H0:U (St W b l w w):=St.refl X;have HR:U (R=ba m):=hR;clear X hR;generalize ba l=A at c0 CP;cases op <;> cases cl <;> cases g
 all_goals
  go_enter Tryz.func230,Tryz.ntmps230;go_wp2_with (first|(go_at_call 73;refine mw (CP _) ?_)|(go_at_call 247;refine (CU _).mono ?_;rintro e w1 ⟨rfl,hs⟩;have HS1:U (St W b l w w1):=H0.out.bel hs;obtain⟨d0,d1,g0⟩:=HS1.out.1.cells;clear hs)|(go_at_call 76;refine (GN _ HS1.out.1.t).mono ?_;rintro e w2 ⟨rfl,hs⟩;have HS2:U (St W b l w w2):=HS1.out.bel hs;obtain⟨k0,k1,k2⟩:=HS2.out.1.cells;clear hs))
  first|(go_ret;exact⟨rfl,HS1.out⟩)|(go_ret;exact⟨rfl,HS2.out⟩)|(go_ret;refine ⟨rfl, ?_⟩;have:=HS2.out.set m;rw [<-HR.out] at this;exact this)
theorem aJd {W w:V} {b:Nat} {l:List UInt8} (X:LX W b l w) (hl:l.length<=255):
  J Z 230 #[pt b] w fun e w'=>e=.returned (.string (ba (bkF l).1))/\St W b (bkF l).2 w w':=by
 have hI:(Ad.strip 91 l).2.length<=255:=by
  cases l with
  | nil=>exact Nat.zero_le _
  | cons c r=>rw [Ad.dO];split <;> simp at hl ⊢ <;> omega
 have hN:=(aCA 93 (Ad.strip 91 l).2).1;have B:=aLx X (R:=ba (jW 93 (Ad.strip 91 l).2).2.1) rfl (fun u=>mD 91 l u) (fun u=>wV 93 (Ad.strip 91 l).2 u (by omega))
  (fun u T=>kI ⟨(jW 93 (Ad.strip 91 l).2).1.toArray⟩ (by rw [size_mk];omega) u T.t.t)
 simp only [show (⟨(jW 93 (Ad.strip 91 l).2).1.toArray⟩:ByteArray).data.toList=(jW 93 (Ad.strip 91 l).2).1 from rfl] at B;unfold bkF;cases hs:Ad.strip 91 l with
 | mk o m=>
  rw [hs] at B;cases o with
  | false=>exact B
  | true=>
   simp only;cases ha:Ad.at_ 93 m with
   | none=>
    rw [oN ha] at B;exact B
   | some p=>
    obtain⟨a,r⟩:=p;rw [oO ha] at B;simp only;cases hg:gnF a with
    | false=>rw [hg] at B;exact B
    | true=>rw [hg] at B;exact B
section
variable {W w:V} {b:Nat} {l l1 l2 l3 l4:List UInt8} {K R R2 D:ByteArray}
theorem aCW (X:LX W b l w) (hl:l.length<=255) {B H:ByteArray} {r c:Int} {fr fc ok:Bool}
  (BK:U (J Z 230 #[pt b] (w.alloc tkO) fun e w'=>e=.returned (.string K)/\St W b l1 (w.alloc tkO) w'))
  (TK:∀u,LX W b l1 u->J Z 194 #[pt b,.func (.func 231) #[] #[]] u fun e w'=>e=.returned (.string R)/\St W b l2 u w')
  (SK:∀u,LX W b l2 u->J Z 228 #[pt b,.string ⟨#[33]⟩] u fun e w'=>e=.returned (.bool δ)/\St W b l3 u w')
  (TK2:∀u,LX W b l3 u->J Z 194 #[pt b,.func (.func 231) #[] #[]] u fun e w'=>e=.returned (.string R2)/\St W b l4 u w')
  (h4:l4.length<=l.length) (hD:(ba l).extract 0 (l.length - l4.length)=D)
  (PR:∀u,dS u->CR 232 #[.string D] u (.tuple #[dL B H r c fr fc,.bool ok])):
  J Z 192 #[pt b] w fun e w'=>e=.returned (.tuple #[.agg (tcs 3 0 noB B H r c fr fc),.bool ok])/\St W b l4 w w':=by
 have hb:=X.lt;obtain⟨c0,c1,f0⟩:=X.cells;obtain⟨a0,a1,a2⟩:=(X.alloc tkO).cells;have z0:(ba l).size=l.length:=size_mk l;have z4:(ba l4).size=l4.length:=size_mk l4;generalize ba l=A at *;generalize l.length=n0 at *;generalize l4.length=n4 at *;have i1:(0:Int)<=(n0:Int) - n4:=by omega
 have i2:(n0:Int) - n4<=n0:=by omega
 have hD2:A.extract 0 ((n0:Int) - (n4:Int)).toNat=D:=by rw [<-hD];congr 1;omega
 clear X;go_enter Tryz.func192,Tryz.ntmps192;go_wp2_with (first|(go_at_call 230;refine z9 BK.out ?_;rintro e w1 ⟨rfl,hs⟩;have HS1:U (St W b l1 (w.alloc tkO) w1):=hs;clear hs BK)|(go_at_call 194;refine (TK _ HS1.out.1).mono ?_;rintro e w2 ⟨rfl,hs⟩;have HS2:U (St W b l2 (w.alloc tkO) w2):=HS1.out.step hs;clear hs HS1)|(go_at_call 228;refine (SK _ HS2.out.1).mono ?_;rintro e w3 ⟨rfl,hs⟩;have HS3:U (St W b l3 (w.alloc tkO) w3):=HS2.out.step hs;clear hs HS2)|(go_at_call 194;refine (TK2 _ HS3.out.1).mono ?_;rintro e w4 ⟨rfl,hs⟩;have HS4:U (St W b l4 (w.alloc tkO) w4):=HS3.out.step hs;obtain⟨d0,d1,d2⟩:=HS4.out.1.cells;clear hs HS3;generalize ba l4=A4 at *)|(go_at_call 232;refine (PR _ HS4.out.1.t).mono ?_;rintro e w5 ⟨rfl,hs⟩;have HS5:U (St W b l4 (w.alloc tkO) (w5.alloc (dV B H r c fr fc))):=(HS4.out.bel hs).alloc _;have RR:=HS5.out.put hb 3 0 noB B H r c fr fc;clear hs HS4)|(refine aA rfl 156 _ _ rfl _ _ _ rfl rfl RR.out ?_))
 exact γ (HS5.out.ans hb (tcs 3 0 noB B H r c fr fc) rfl rfl rfl rfl) rfl ⟨rfl,HS5.out.fin hb _⟩
end
section
variable {W w:V} {b:Nat} {l l1 l2:List UInt8} {K R:ByteArray}
theorem aLy (X:LX W b l w) {B H:ByteArray} {r c:Int} {fr fc:Bool}
  (BK:U (J Z 230 #[pt b] (w.alloc tkO) fun e w'=>e=.returned (.string noB)/\St W b l1 (w.alloc tkO) w'))
  (TK:∀u,LX W b l1 u->J Z 194 #[pt b,.func (.func 231) #[] #[]] u fun e w'=>e=.returned (.string R)/\St W b l2 u w')
  (SK:∀u,LX W b l2 u->J Z 228 #[pt b,.string ⟨#[33]⟩] u fun e w'=>e=.returned (.bool G)/\St W b l2 u w')
  (CE:∀u,dS u->CR 233 #[.string R] u (.tuple #[dL B H r c fr fc,.bool δ])):
  J Z 192 #[pt b] w fun e w'=>e=.returned (.tuple #[.agg (tcs 3 0 noB B H r c fr fc),.bool δ])/\St W b l2 w w':=by
 have hb:=X.lt;obtain⟨c0,c1,f0⟩:=X.cells;obtain⟨a0,a1,a2⟩:=(X.alloc tkO).cells;generalize ba l=A at *;clear X;go_enter Tryz.func192,Tryz.ntmps192;go_wp2_with (first|(go_at_call 230;refine z9 BK.out ?_;rintro e w1 ⟨rfl,hs⟩;have HS1:U (St W b l1 (w.alloc tkO) w1):=hs;clear hs BK)|(go_at_call 194;refine (TK _ HS1.out.1).mono ?_;rintro e w2 ⟨rfl,hs⟩;have HS2:U (St W b l2 (w.alloc tkO) w2):=HS1.out.step hs;clear hs HS1)|(go_at_call 228;refine (SK _ HS2.out.1).mono ?_;rintro e w3 ⟨rfl,hs⟩;have HS3:U (St W b l2 (w.alloc tkO) w3):=HS2.out.step hs;clear hs HS2)|(go_at_call 233;refine (CE _ HS3.out.1.t).mono ?_;rintro e w5 ⟨rfl,hs⟩;have HS5:U (St W b l2 (w.alloc tkO) (w5.alloc (dV B H r c fr fc))):=(HS3.out.bel hs).alloc _;have RR:=HS5.out.put hb 3 0 noB B H r c fr fc;clear hs HS3)|(refine aA rfl 156 _ _ rfl _ _ _ rfl rfl RR.out ?_))
 exact γ (HS5.out.ans hb (tcs 3 0 noB B H r c fr fc) rfl rfl rfl rfl) rfl ⟨rfl,HS5.out.fin hb _⟩
theorem aJe (X:LX W b l w) {B H:ByteArray} {r c:Int} {fr fc g t:Bool}
  (BK:U (J Z 230 #[pt b] (w.alloc tkO) fun e w'=>e=.returned (.string noB)/\St W b l1 (w.alloc tkO) w'))
  (TK:∀u,LX W b l1 u->J Z 194 #[pt b,.func (.func 231) #[] #[]] u fun e w'=>e=.returned (.string R)/\St W b l2 u w')
  (SK:∀u,LX W b l2 u->J Z 228 #[pt b,.string ⟨#[33]⟩] u fun e w'=>e=.returned (.bool G)/\St W b l2 u w')
  (CE:∀u,dS u->CR 233 #[.string R] u (.tuple #[dL B H r c fr fc,.bool G]))
  (GN:∀u,dS u->CR 76 #[.string R] u (.bool g))
  (TR:∀u,dS u->CR 234 #[.string R] u (.bool t)):
  J Z 192 #[pt b] w fun e w'=>e=.returned (.tuple #[.agg (tcs 4 0 R noB noB 0 0 G G),.bool (g || t)])/\St W b l2 w w':=by
 have hb:=X.lt;obtain⟨c0,c1,f0⟩:=X.cells;obtain⟨a0,a1,a2⟩:=(X.alloc tkO).cells;generalize ba l=A at *;clear X;cases g
 ·go_enter Tryz.func192,Tryz.ntmps192;go_wp2_with (first|(go_at_call 230;refine z9 BK.out ?_;rintro e w1 ⟨rfl,hs⟩;have HS1:U (St W b l1 (w.alloc tkO) w1):=hs;clear hs BK)|(go_at_call 194;refine (TK _ HS1.out.1).mono ?_;rintro e w2 ⟨rfl,hs⟩;have HS2:U (St W b l2 (w.alloc tkO) w2):=HS1.out.step hs;clear hs HS1)|(go_at_call 228;refine (SK _ HS2.out.1).mono ?_;rintro e w3 ⟨rfl,hs⟩;have HS3:U (St W b l2 (w.alloc tkO) w3):=HS2.out.step hs;clear hs HS2)|(go_at_call 233;refine (CE _ HS3.out.1.t).mono ?_;rintro e w5 ⟨rfl,hs⟩;have HS5:U (St W b l2 (w.alloc tkO) (w5.alloc (dV B H r c fr fc))):=(HS3.out.bel hs).alloc _;clear hs HS3)|(go_at_call 76;refine (GN _ HS5.out.1.t).mono ?_;rintro e w6 ⟨rfl,hs⟩;have HS6:U (St W b l2 (w.alloc tkO) w6):=HS5.out.bel hs;clear hs HS5)|(go_at_call 234;refine (TR _ HS6.out.1.t).mono ?_;rintro e w7 ⟨rfl,hs⟩;have HS7:U (St W b l2 (w.alloc tkO) w7):=HS6.out.bel hs;have RR:=HS7.out.put hb 4 0 R noB noB 0 0 G G;clear hs HS6)|(refine aA rfl 156 _ _ rfl _ _ _ rfl rfl RR.out ?_))
  exact γ (HS7.out.ans hb (tcs 4 0 R noB noB 0 0 G G) rfl rfl rfl rfl) rfl ⟨rfl,HS7.out.fin hb _⟩
 ·go_enter Tryz.func192,Tryz.ntmps192;go_wp2_with (first|(go_at_call 230;refine z9 BK.out ?_;rintro e w1 ⟨rfl,hs⟩;have HS1:U (St W b l1 (w.alloc tkO) w1):=hs;clear hs BK)|(go_at_call 194;refine (TK _ HS1.out.1).mono ?_;rintro e w2 ⟨rfl,hs⟩;have HS2:U (St W b l2 (w.alloc tkO) w2):=HS1.out.step hs;clear hs HS1)|(go_at_call 228;refine (SK _ HS2.out.1).mono ?_;rintro e w3 ⟨rfl,hs⟩;have HS3:U (St W b l2 (w.alloc tkO) w3):=HS2.out.step hs;clear hs HS2)|(go_at_call 233;refine (CE _ HS3.out.1.t).mono ?_;rintro e w5 ⟨rfl,hs⟩;have HS5:U (St W b l2 (w.alloc tkO) (w5.alloc (dV B H r c fr fc))):=(HS3.out.bel hs).alloc _;clear hs HS3)|(go_at_call 76;refine (GN _ HS5.out.1.t).mono ?_;rintro e w6 ⟨rfl,hs⟩;have HS6:U (St W b l2 (w.alloc tkO) w6):=HS5.out.bel hs;have RR:=HS6.out.put hb 4 0 R noB noB 0 0 G G;clear hs HS5)|(refine aA rfl 156 _ _ rfl _ _ _ rfl rfl RR.out ?_))
  exact γ (HS6.out.ans hb (tcs 4 0 R noB noB 0 0 G G) rfl rfl rfl rfl) rfl ⟨rfl,HS6.out.fin hb _⟩
theorem aJf (X:LX W b l w) {B H:ByteArray} {r c:Int} {fr fc g ok:Bool} (hK:(K.toList==[])=G)
  (BK:U (J Z 230 #[pt b] (w.alloc tkO) fun e w'=>e=.returned (.string K)/\St W b l1 (w.alloc tkO) w'))
  (TK:∀u,LX W b l1 u->J Z 194 #[pt b,.func (.func 231) #[] #[]] u fun e w'=>e=.returned (.string R)/\St W b l2 u w')
  (SK:∀u,LX W b l2 u->J Z 228 #[pt b,.string ⟨#[33]⟩] u fun e w'=>e=.returned (.bool G)/\St W b l2 u w')
  (CE:∀u,dS u->CR 233 #[.string R] u (.tuple #[dL B H r c fr fc,.bool ok]))
  (GN:∀u,dS u->CR 76 #[.string R] u (.bool g)):
  J Z 192 #[pt b] w fun e w'=>e=.returned (.tuple #[.agg (tcs 4 0 R K noB 0 0 G G),.bool g])/\St W b l2 w w':=by
 have hb:=X.lt;obtain⟨c0,c1,f0⟩:=X.cells;obtain⟨a0,a1,a2⟩:=(X.alloc tkO).cells;generalize ba l=A at *;clear X;cases g <;> cases ok
 all_goals
  go_enter Tryz.func192,Tryz.ntmps192;go_wp2_with (first|(go_at_call 230;refine z9 BK.out ?_;rintro e w1 ⟨rfl,hs⟩;have HS1:U (St W b l1 (w.alloc tkO) w1):=hs;clear hs BK)|(go_at_call 194;refine (TK _ HS1.out.1).mono ?_;rintro e w2 ⟨rfl,hs⟩;have HS2:U (St W b l2 (w.alloc tkO) w2):=HS1.out.step hs;clear hs HS1)|(go_at_call 228;refine (SK _ HS2.out.1).mono ?_;rintro e w3 ⟨rfl,hs⟩;have HS3:U (St W b l2 (w.alloc tkO) w3):=HS2.out.step hs;clear hs HS2)|(go_at_call 233;refine (CE _ HS3.out.1.t).mono ?_;rintro e w5 ⟨rfl,hs⟩;have HS5:U (St W b l2 (w.alloc tkO) (w5.alloc (dV B H r c fr fc))):=(HS3.out.bel hs).alloc _;clear hs HS3)|(go_at_call 76;refine (GN _ HS5.out.1.t).mono ?_;rintro e w6 ⟨rfl,hs⟩;have HS6:U (St W b l2 (w.alloc tkO) w6):=HS5.out.bel hs;have RR:=HS6.out.put hb 4 0 R K noB 0 0 G G;clear hs HS5)|(refine aA rfl 156 _ _ rfl _ _ _ rfl rfl RR.out ?_))
  exact γ (HS6.out.ans hb (tcs 4 0 R K noB 0 0 G G) rfl rfl rfl rfl) rfl ⟨rfl,HS6.out.fin hb _⟩
end
theorem at_eq {c:UInt8}:∀{l a r:List UInt8},Ad.at_ c l=some (a,r)->l=a++c:: r
 | [],a,r,h=>by cases h
 | x:: l,a,r,h=>by
  unfold Ad.at_ at h;split at h
  ·rename_i e;cases h;rw [e];rfl
  ·cases hq:Ad.at_ c l with
   | none=>rw [hq] at h;cases h
   | some p=>
    rw [hq] at h;cases h
    rw [y1,<-at_eq (a:=p.1) (r:=p.2) hq]
theorem vR (p:UInt8->Bool) (l:List UInt8):l.takeWhile p++l.dropWhile p=l:=List.takeWhile_append_dropWhile
theorem aEl {l A B:List UInt8} (h:l=A++B):l.take (l.length - B.length)=A/\B.length<=l.length/\A.length<=l.length:=by subst h;rw [Δ];refine ⟨?_,by omega,by omega⟩;rw [show A.length+B.length - B.length=A.length by omega];exact List.take_left
theorem aCX {W w:V} {b:Nat} {l l1 k pre:List UInt8} (X:LX W b l w) (hl:l.length<=255) (he:l=pre++l1) (hk:k=[]\/k ≠ [])
  (BK:U (J Z 230 #[pt b] (w.alloc tkO) fun e w'=>e=.returned (.string (ba k))/\St W b l1 (w.alloc tkO) w')):
  J Z 192 #[pt b] w (Ans W b w (Tk.gQ gnF trB k pre l1)):=by
 have hl1:l1.length<=255:=by rw [he,Δ] at hl;omega
 have hd:(l1.dropWhile Tk.aQ).length<=l1.length:=Tk.lD _ _;have ht:(l1.takeWhile Tk.aQ).length<=255:=x3 (List.takeWhile_sublist _).length_le hl1;have TK:=fun u (Y:LX W b l1 u)=>nV Y hl1 aCG e56;have SK:=fun u (Y:LX W b (l1.dropWhile Tk.aQ) u)=>jS Y [33];have CE:=fun u (T:dS u)=>lQ (l1.takeWhile Tk.aQ) (by omega) u T.t;have GN:∀u,dS u->CR 76 #[.string (ba (l1.takeWhile Tk.aQ))] u (.bool (gnF (l1.takeWhile Tk.aQ))):=fun u T=>kI (ba (l1.takeWhile Tk.aQ)) (by rw [size_mk];omega) u T.t.t;have TR:=fun u (T:dS u)=>aGK (l1.takeWhile Tk.aQ) (by omega) u T.t.t;have plain: [33].isPrefixOf (l1.dropWhile Tk.aQ)=G->J Z 192 #[pt b] w (Ans W b w (if k=[] then (match Ad.cellP (l1.takeWhile Tk.aQ) with
   | some c=>some (.ref ⟨[],[],c⟩,l1.dropWhile Tk.aQ)
   | none=>if gnF (l1.takeWhile Tk.aQ)=δ\/trB (l1.takeWhile Tk.aQ)=δ then some (.word [] (l1.takeWhile Tk.aQ),l1.dropWhile Tk.aQ) else none)
  else if gnF (l1.takeWhile Tk.aQ)=δ then some (.word k (l1.takeWhile Tk.aQ),l1.dropWhile Tk.aQ) else none)):=by
  intro hno;simp only [aBb hno,hno] at SK;by_cases e:k=[]
  ·subst e;rw [if_pos rfl];cases hc:Ad.cellP (l1.takeWhile Tk.aQ) with
   | some c=>
    rw [hc] at CE;refine (aLy X BK TK SK CE).mono ?_;rintro e w' ⟨rfl,h⟩;exact⟨rfl,h⟩
   | none=>
    rw [hc] at CE;refine (aJe X BK TK SK CE GN TR).mono ?_;rintro e w' ⟨rfl,h⟩;cases hg:gnF (l1.takeWhile Tk.aQ) <;> cases hr:trB (l1.takeWhile Tk.aQ)
    ·exact ⟨⟨⟨4,0,_,noB,noB,0,0,G,G⟩,rfl⟩,_,h⟩
    ·exact ⟨rfl,h⟩
    ·exact ⟨rfl,h⟩
    ·exact ⟨rfl,h⟩
  ·rw [if_neg e];have hK:((ba k).toList==[])=G:=by
    rw [wD];cases k with
    | nil=>exact absurd rfl e
    | cons _ _=>rfl
   have main:=fun {B H:ByteArray} {r c:Int} {fr fc ok:Bool} (CE:∀u,dS u->CR 233 #[.string (ba (l1.takeWhile Tk.aQ))] u (.tuple #[dL B H r c fr fc,.bool ok]))=>aJf X hK BK TK SK CE GN;have fin:∀(e:x9) (w':V),(e=.returned (.tuple #[.agg (tcs 4 0 (ba (l1.takeWhile Tk.aQ)) (ba k) noB 0 0 G G),.bool (gnF (l1.takeWhile Tk.aQ))])/\St W b (l1.dropWhile Tk.aQ) w w')->Ans W b w (if gnF (l1.takeWhile Tk.aQ)=δ then some (.word k (l1.takeWhile Tk.aQ),l1.dropWhile Tk.aQ) else none) e w':=by
    rintro e w' ⟨rfl,h⟩;cases hg:gnF (l1.takeWhile Tk.aQ)
    ·exact ⟨⟨⟨4,0,_,_,noB,0,0,G,G⟩,rfl⟩,_,h⟩
    ·exact ⟨rfl,h⟩
   cases hc:Ad.cellP (l1.takeWhile Tk.aQ) with
   | some c=>
    rw [hc] at CE;exact(main CE).mono fin
   | none=>
    rw [hc] at CE;exact(main CE).mono fin
 unfold Tk.gQ;cases hx:l1.dropWhile Tk.aQ with
 | nil=>
  have:=plain (by rw [hx];rfl);rw [hx] at this;exact this
 | cons x r=>
  by_cases h33:x=33
  ·subst h33;clear plain;have hr:r.length<=255:=by rw [hx,β] at hd;omega
   rw [hx] at TK SK;have SK2:∀u,LX W b (33:: r) u->J Z 228 #[pt b,.string ⟨#[33]⟩] u fun e w'=>e=.returned (.bool δ)/\St W b r u w':=SK;have TK2:=fun u (Y:LX W b r u)=>nV Y hr aCG e56;have h4:=Tk.lD Tk.aQ r;have hall:l=pre++l1.takeWhile Tk.aQ++33:: r.takeWhile Tk.aQ++r.dropWhile Tk.aQ:=by rw [Ξ,Ξ,y1,vR,<-hx,vR];exact he
   obtain⟨f1,hl4,f3⟩:=aEl hall;have hD:(ba l).extract 0 (l.length - (r.dropWhile Tk.aQ).length)=ba (pre++l1.takeWhile Tk.aQ++33:: r.takeWhile Tk.aQ):=by rw [sJ,f1]
   have hlD:(pre++l1.takeWhile Tk.aQ++33:: r.takeWhile Tk.aQ).length<=255:=by omega
   have PR:=fun u (T:dS u)=>aA6 (pre++l1.takeWhile Tk.aQ++33:: r.takeWhile Tk.aQ) (by omega) u T.t;simp only;cases hp:Ad.lY gnF (pre++l1.takeWhile Tk.aQ++33:: r.takeWhile Tk.aQ) with
   | none=>
    rw [hp] at PR;refine (aCW X hl BK TK SK2 TK2 hl4 hD PR).mono ?_;rintro e w' ⟨rfl,h⟩;exact⟨⟨⟨3,0,noB,noB,noB,0,0,G,G⟩,rfl⟩,_,h⟩
   | some x=>
    rw [hp] at PR;refine (aCW X hl BK TK SK2 TK2 hl4 hD PR).mono ?_;rintro e w' ⟨rfl,h⟩;exact⟨rfl,h⟩
  ·have:=plain (by
    rw [hx];simp [x6,Ne.symm h33])
   rw [hx] at this;split
   ·rename_i e;cases e;exact absurd rfl h33
   ·exact this
theorem aLz {l:List UInt8} (h:Ad.strip 91 l=(G,l)):bkF l=([],l):=by unfold bkF;rw [h]
theorem aJg {W w:V} {b:Nat} {l:List UInt8} (X:LX W b l w) (hl:l.length<=255):J Z 192 #[pt b] w (Ans W b w (Tk.named gnF trB l)):=by
 have B:=aJd (X.alloc tkO) hl;have other:bkF l=([],l)->J Z 192 #[pt b] w (Ans W b w (Tk.gQ gnF trB [] [] l)):=fun h=>by rw [h] at B;exact aCX X hl rfl (.inl rfl) B
 rcases l with _ | ⟨c,m⟩
 ·exact other rfl
 ·by_cases hc:c=91
  ·subst hc;have no:bkF (91:: m)=([],91:: m)->J Z 192 #[pt b] w (Ans W b w none):=fun h=>by
    have:=other h;rw [show Tk.gQ gnF trB [] [] (91:: m)=none by
     unfold Tk.gQ;rw [z1,if_neg (by decide),x0,if_neg (by decide)];rfl] at this
    exact this
   unfold Tk.named;simp only;cases ha:Ad.at_ 93 m with
   | none=>
    refine no ?_;unfold bkF;rw [Ad.dO,if_pos rfl];simp only [ha]
   | some p=>
    obtain⟨a,r⟩:=p;simp only;cases hg:gnF a with
    | false=>
     refine no ?_;unfold bkF;rw [Ad.dO,if_pos rfl];simp only [ha,hg];rfl
    | true=>
     rw [if_pos rfl];have hb:bkF (91:: m)=(a,r):=by unfold bkF;rw [Ad.dO,if_pos rfl];simp only [ha,hg,if_true]
     rw [hb] at B;refine aCX X hl ?_ (.inr fun e=> ?_) B
     ·rw [at_eq ha];simp
     ·rw [e] at hg;cases hg
  ·have h:Tk.named gnF trB (c:: m)=Tk.gQ gnF trB [] [] (c:: m):=by
    unfold Tk.named;split
    ·rename_i e;cases e;exact absurd rfl hc
    ·rfl
   rw [h];exact other (aLz (by rw [Ad.dO,if_neg hc]))
abbrev nq (c:UInt8):Bool:= !(c==34)
theorem oZ:∀(A D:List UInt8),(∀x ∈ A,nq x=δ)->Tk.cZ (A++D)=(Tk.cZ D).map fun p=>(A++p.1,p.2)
 | [],D,_=>by show Tk.cZ D=(Tk.cZ D).map _;cases Tk.cZ D <;> rfl
 | a:: A,D,h=>by
  have ha:¬a=34:=by simpa using h a (by simp)
  have ih:=oZ A D (fun x hx=>h x (y9 _ hx));cases hAD:A++D with
  | nil=>
   obtain⟨rfl,rfl⟩:=List.append_eq_nil_iff.1 hAD;show Tk.cZ [a]=_;unfold Tk.cZ;rw [if_neg ha];rfl
  | cons d r=>
   rw [y1,hAD];have e:Tk.cZ (a:: d:: r)=(Tk.cZ (d:: r)).map fun p=>(a:: p.1,p.2):=by
    conv=>lhs;unfold Tk.cZ
    rw [if_neg ha]
   rw [e,<-hAD,ih];cases Tk.cZ D <;> rfl
theorem aBl {D:List UInt8} (h:∀r,D ≠ 34:: r):Tk.cZ (34:: D)=some ([],D):=by
 cases D with
 | nil=>rfl
 | cons d r=>
  unfold Tk.cZ;rw [if_pos rfl,if_neg (fun e=>h r (by rw [e]))]
theorem aCY (D:List UInt8):Tk.cZ (34:: 34:: D)=(Tk.cZ D).map fun p=>(34:: p.1,p.2):=by
 conv=>lhs;unfold Tk.cZ
 rw [if_pos rfl,if_pos rfl]
theorem aJh {p:UInt8->Bool} {l:List UInt8}:∀x ∈ l.takeWhile p,p x=δ:=by
 have:(l.takeWhile p).all p=δ:=by rw [List.all_takeWhile]
 exact List.all_eq_true.1 this
theorem uU {p:UInt8->Bool}:∀{l:List UInt8} {c:UInt8} {r:List UInt8},l.dropWhile p=c:: r->p c=G
 | [],_,_,h=>by cases h
 | a:: l,c,r,h=>by
  rw [z1] at h;split at h
  ·exact uU h
  ·rename_i ha;cases h;simpa using ha
structure TX (W:V) (b:Nat) (w:V) (m acc:List UInt8) (u:V):Prop where
 st:St W b m w u
 z:u.heap[w.heap.size]? =some tkO
 bd:Lib.IsBuilderF 163 5 (w.heap.size+1) (w.heap.size+1) (Lib.byteCells acc) u
theorem aAC {T e:ξ} {B k b:Nat} {p:α} {bs:List α} {w w':V} (h:Lib.BuilderAtF T e B k p bs w) (hg:w.grownBy w' (some b)) (hb:b < B):Lib.BuilderAtF T e B k p bs w':=by
 have hlt:=h.lt;obtain⟨hB,v,hk,hown,hne⟩:=h;refine ⟨hB,v,(hg.block k hlt (fun e=>by cases e;omega)).trans hk,hown.kept hg ?_,hne⟩;rcases hown.2 with ⟨rfl,_⟩ | ⟨g,cap,cur,fz,rfl,hge,_⟩
 ·exact .inl rfl
 ·exact .inr fun e=>by simp [Value.ownBlock] at e;omega
theorem aLA {T e:ξ} {B k b:Nat} {bs:List α} {w w':V} (h:Lib.IsBuilderF T e B k bs w) (hg:w.grownBy w' (some b)) (hb:b < B):Lib.IsBuilderF T e B k bs w':=
 h.elim (fun x=> .inl (aAC x hg hb)) (fun x=> .inr (aAC x hg hb))
theorem TX.method {W w u u1:V} {b:Nat} {m m' acc:List UInt8} (hb:b < w.heap.size) (h:TX W b w m acc u) (k:St W b m' u u1):TX W b w m' acc u1:=
 ⟨h.st.step k,k.kept h.z (by omega),aLA h.bd k.2 (by omega)⟩
theorem St.low {W w u u1:V} {b:Nat} {m:List UInt8} (hb:b < w.heap.size) (h:St W b m w u) (k:ρ (w.heap.size+1) u u1):St W b m w u1:=
 ⟨⟨h.1.tab,⟨k.os.trans h.1.bel.os,k.tape.trans h.1.bel.tape,k.output.trans h.1.bel.output,x3 h.1.bel.size k.size,fun i hi=>(k.block i (by have:=h.1.lo;omega)).trans (h.1.bel.block i hi)⟩,h.1.lo,(k.block b (by omega)).trans h.1.blk⟩,
  ⟨k.os.trans h.2.os,k.tape.trans h.2.tape,k.output.trans h.2.output,x3 h.2.size k.size,fun i hi hne=>(k.block i (by omega)).trans (h.2.block i hi hne)⟩⟩
theorem TX.write {W w u u1:V} {b:Nat} {m acc s:List UInt8} (hb:b < w.heap.size) (h:TX W b w m acc u) (hB:Lib.BuilderAtF 163 5 (w.heap.size+1) (w.heap.size+1) (.pointer (some ⟨w.heap.size+1,0,none⟩)) (Lib.byteCells acc++Lib.strCells (ba s)) u1) (k:ρ (w.heap.size+1) u u1):TX W b w m (acc++s) u1:=
 ⟨h.st.low hb k,(k.block _ (by omega)).trans h.z,.inr (by
  have e:Lib.byteCells (acc++s)=Lib.byteCells acc++Lib.strCells (ba s):=by simp [Lib.byteCells,Lib.strCells]
  rw [e];exact hB)⟩
theorem TX.begin {W w:V} {b:Nat} {l:List UInt8} (X:LX W b l w):TX W b w l [] ((w.alloc tkO).alloc (.cells #[.pointer none,.slice none 0 0] 163)):=
 ⟨((St.refl X).alloc _).alloc _,(ι _ _ _ (by simp)).trans (ζ w tkO),by
  have:=Lib.IsBuilderF.of (Lib.fresh_isBuilder 163 5 (w.alloc tkO));show Lib.IsBuilderF 163 5 (w.heap.size+1) (w.heap.size+1) [] _;simpa using this⟩
theorem TX.put {W w u:V} {b:Nat} {m acc:List UInt8} (h:TX W b w m acc u) (k n:Int) (s b' h':ByteArray) (r c:Int) (fr fc:Bool):
  U ((θ 156 (pt w.heap.size) (.agg (tcs k n s b' h' r c fr fc))).run Z u=.ok () (u.setRow w.heap.size (tcs k n s b' h' r c fr fc))):=
 sto h.z nS rfl (oU k n s b' h' r c fr fc)
theorem TX.ans {W w u:V} {b:Nat} {m acc:List UInt8} (h:TX W b w m acc u) (es:Array α) (he:es.size=9) {fn:Func} {p q:Tmp} (hr:fn.results=#[.cell p 156,.tmp q]) {tmps:Array α} {v2:α}
  (hp:tmps.getD p undef=pt w.heap.size) (hv:tmps.getD q undef=v2):(results fn tmps).run Z (u.setRow w.heap.size es)=.ok (.tuple #[.agg es,v2]) (u.setRow w.heap.size es):=
 kJ hr hp (y6 _ _ _ es _ _ h.z) rfl Tryz.underlying156 (by rw [he];exact nS) hv
theorem TX.fin {W w u:V} {b:Nat} {m acc:List UInt8} (hb:b < w.heap.size) (h:TX W b w m acc u) (es:Array α):St W b m w (u.setRow w.heap.size es):=
 h.st.grown (aK _ _ _) (υ _) hb
def aFD (b:Nat) (u:V):Nat:=match u.cell? ⟨b,0,none⟩ with
 | some (.string s)=>s.size
 | _=>0
theorem sW {W u:V} {b:Nat} {l:List UInt8} (X:LX W b l u):aFD b u=l.length:=by unfold aFD;rw [X.cells.1];exact size_mk l
theorem aEm {W w u:V} {b:Nat} {m acc:List UInt8} (hb:b < w.heap.size) (h:TX W b w m acc u) (s:List UInt8) (hs:acc.length+s.length<=1000):
  J Z 133 #[.pointer (some ⟨w.heap.size+1,0,none⟩),.string (ba s)] u fun e w'=>e=.returned (.tuple #[.int .i64 (s.length:Nat),.nilIface])/\TX W b w m (acc++s) w':=by
 have:=Tryz.Builder_WriteString_k (w.heap.size+1) (w.heap.size+1) (Lib.byteCells acc) (ba s) u h.bd (by rw [Lib.byteCells_length,size_mk];omega) (by have:=bA h.z;omega);refine this.mono ?_;rintro e w' ⟨rfl,h1,h2,_⟩;exact⟨by rw [size_mk],h.write hb h1 h2⟩
theorem aNm {W w u:V} {b:Nat} {m acc:List UInt8} (hb:b < w.heap.size) (h:TX W b w m acc u):
  J Z 135 #[.pointer (some ⟨w.heap.size+1,0,none⟩)] u fun e w'=>e=.returned (.string (ba acc))/\TX W b w m acc w':=by
 have:=Tryz.Builder_String_any_k (w.heap.size+1) (w.heap.size+1) acc u h.bd (by have:=bA h.z;omega);refine this.mono ?_;rintro e w' ⟨rfl,h1,h2,_⟩;exact⟨rfl,h.st.low hb h2,(h2.block _ (by omega)).trans h.z,h1⟩
theorem aJi {W w:V} {b:Nat} {r:List UInt8} (X:LX W b (34:: r) w) (hl:(34:: r).length<=255):J Z 189 #[pt b] w (Ans W b w ((Tk.cZ r).map fun p=>(.str p.1,p.2))):=by
 have hb:=X.lt;have H0:U (TX W b w (34:: r) [] ((w.alloc tkO).alloc (.cells #[.pointer none,.slice none 0 0] 163))):=TX.begin X;have SK0:=fun u (Y:LX W b (34:: r) u)=>jS Y [34];have SK1:∀u,LX W b (34:: r) u->J Z 228 #[pt b,.string ⟨#[34]⟩] u fun e w'=>e=.returned (.bool δ)/\St W b r u w':=SK0;generalize ho:(Tk.cZ r).map (fun p=>((.str p.1,p.2):Tk.Tok × List UInt8))=o;have HO:U ((Tk.cZ r).map (fun p=>((.str p.1,p.2):Tk.Tok × List UInt8))=o):=ho;have hr:r.length<=254:=by simpa using hl
 clear ho X SK0 hl;go_enter Tryz.func189,Tryz.ntmps189;go_wp2_with (go_at_call 228;refine (SK1 _ H0.out.st.1).mono ?_;rintro e w1 ⟨rfl,hs⟩;have H1:U (TX W b w r [] w1):=H0.out.method hb hs;clear hs)
 clear H0 SK1;go_loopw [7] (fun _ wr=>∃m acc:List UInt8,acc.length+m.length<=254/\U ((Tk.cZ r)=(Tk.cZ m).map fun p=>(acc++p.1,p.2))/\U (TX W b w m acc wr)) (fun _ wr=>aFD b wr)
 case atStart=>exact⟨r,[],by simpa using hr,by show Tk.cZ r=_;cases Tk.cZ r <;> rfl,H1⟩
 case round=>
  obtain⟨m,acc,hlen,HQ,HX⟩:=hrel;clear H1;have hm:m.length<=255:=by omega
  have hlm:=sW HX.out.st.1;have TK:=fun u (Y:LX W b m u)=>nV Y hm aD9 e53;have hA:∀x ∈ m.takeWhile nq,nq x=δ:=aJh;have hsplit:=vR nq m;have hh:=fun {c:UInt8} {q:List UInt8} (h:m.dropWhile nq=c:: q)=>uU h;have TK':∀u,LX W b m u->J Z 194 #[pt b,.func (.func 229) #[] #[]] u fun e w'=>e=.returned (.string (ba (m.takeWhile nq)))/\St W b (m.dropWhile nq) u w':=TK;clear TK;generalize m.takeWhile nq=A at *;cases hD:m.dropWhile nq with
  | nil=>
   rw [hD] at TK' hsplit;have hAm:A.length+0=m.length:=by rw [<-hsplit];simp
   have HN:U (o=none):=by show _=_;rw [<-HO.out,HQ.out,<-hsplit,oZ A [] hA];rfl
   have SK:=fun u (Y:LX W b [] u)=>jS Y [34];have SK':∀u,LX W b [] u->J Z 228 #[pt b,.string ⟨#[34]⟩] u fun e w'=>e=.returned (.bool G)/\St W b [] u w':=SK;clear HO HQ hsplit hA hh SK;have WR:=fun u (Y:TX W b w [] acc u)=>aEm hb Y A (by omega);go_wp2_with (first|(go_at_call 194;refine (TK' _ HX.out.st.1).mono ?_;rintro e w2 ⟨rfl,hs⟩;have H2:U (TX W b w [] acc w2):=HX.out.method hb hs;clear hs)|(go_at_call 133;refine (WR _ H2.out).mono ?_;rintro e w3 ⟨rfl,hs⟩;have H3:U (TX W b w [] (acc++A) w3):=hs;clear hs)|(go_at_call 228;refine (SK' _ H3.out.st.1).mono ?_;rintro e w4 ⟨rfl,hs⟩;have H4:U (TX W b w [] (acc++A) w4):=H3.out.method hb hs;have RR:=H4.out.put 0 0 noB noB noB 0 0 G G;clear hs)|(refine aA rfl 156 _ _ rfl _ _ _ rfl rfl RR.out ?_))
   refine γ (H4.out.ans (tcs 0 0 noB noB noB 0 0 G G) rfl rfl rfl rfl) rfl ?_;rw [HN.out];exact⟨⟨⟨0,0,noB,noB,noB,0,0,G,G⟩,rfl⟩,_,H4.out.fin hb _⟩
  | cons c D=>
   have hc:c=34:=by have:=hh hD;simpa [nq] using this
   subst hc;rw [hD] at TK' hsplit;have hAm:A.length+(D.length+1)=m.length:=by rw [<-hsplit];simp
   have SK:=fun u (Y:LX W b (34:: D) u)=>jS Y [34];have SK':∀u,LX W b (34:: D) u->J Z 228 #[pt b,.string ⟨#[34]⟩] u fun e w'=>e=.returned (.bool δ)/\St W b D u w':=SK;have WR:=fun u (Y:TX W b w (34:: D) acc u)=>aEm hb Y A (by omega);have hq:=oZ A (34:: D) hA;clear SK hA hh;by_cases h2:∃E,D=34:: E
   ·obtain ⟨E,rfl⟩:=h2;have SKE:=fun u (Y:LX W b (34:: E) u)=>jS Y [34];have aNn:∀u,LX W b (34:: E) u->J Z 228 #[pt b,.string ⟨#[34]⟩] u fun e w'=>e=.returned (.bool δ)/\St W b E u w':=SKE;have WQ:=fun u (Y:TX W b w E (acc++A) u)=>aEm hb Y [34] (by simp;simp at hAm;omega);have HN:U (Tk.cZ r=(Tk.cZ E).map fun p=>((acc++A++ [34])++p.1,p.2)):=by show _=_;rw [HQ.out,<-hsplit,hq,aCY];cases Tk.cZ E <;> simp
    have aMJ:(acc++A++ [34]).length+E.length<=254:=by simp;simp at hAm;omega
    have hme:E.length < m.length:=by simp at hAm;omega
    clear SKE HQ hq hsplit;go_wp2_with (first|(go_at_call 194;refine (TK' _ HX.out.st.1).mono ?_;rintro e w2 ⟨rfl,hs⟩;have H2:U (TX W b w (34:: 34:: E) acc w2):=HX.out.method hb hs;clear hs)|(go_at_call 133;refine (WR _ H2.out).mono ?_;rintro e w3 ⟨rfl,hs⟩;have H3:U (TX W b w (34:: 34:: E) (acc++A) w3):=hs;clear hs H2)|(go_at_call 228;refine (SK' _ H3.out.st.1).mono ?_;rintro e w4 ⟨rfl,hs⟩;have H4:U (TX W b w (34:: E) (acc++A) w4):=H3.out.method hb hs;clear hs H3)|(go_at_call 228;refine (aNn _ H4.out.st.1).mono ?_;rintro e w5 ⟨rfl,hs⟩;have H5:U (TX W b w E (acc++A) w5):=H4.out.method hb hs;clear hs H4)|(go_at_call 133;refine (WQ _ H5.out).mono ?_;rintro e w6 ⟨rfl,hs⟩;have H6:U (TX W b w E (acc++A++ [34]) w6):=hs;clear hs))
    go_roundw
    case rel=>exact⟨E,acc++A++ [34],aMJ,HN,H6⟩
    case measure=>rw [sW H6.out.st.1,hlm];exact hme
   ·have hno:∀q,D ≠ 34:: q:=fun q e=>h2 ⟨q,e⟩;have hpn: [34].isPrefixOf D=G:=by
     cases D with
     | nil=>rfl
     | cons x q=>simp [x6];rintro rfl;exact hno q rfl
    have SKE:=fun u (Y:LX W b D u)=>jS Y [34];simp only [hpn,aBb hpn] at SKE;have aNn:∀u,LX W b D u->J Z 228 #[pt b,.string ⟨#[34]⟩] u fun e w'=>e=.returned (.bool G)/\St W b D u w':=SKE;have HN:U (o=some (.str (acc++A),D)):=by show _=_;rw [<-HO.out,HQ.out,<-hsplit,hq,aBl hno];simp
    have SG:=fun u (Y:TX W b w D (acc++A) u)=>aNm hb Y;clear SKE HQ hq hsplit HO h2 hno hpn;generalize hac:acc++A=F at *;go_wp2_with (first|(go_at_call 194;refine (TK' _ HX.out.st.1).mono ?_;rintro e w2 ⟨rfl,hs⟩;have H2:U (TX W b w (34:: D) acc w2):=HX.out.method hb hs;clear hs)|(go_at_call 133;refine (WR _ H2.out).mono ?_;rintro e w3 ⟨rfl,hs⟩;have H3:U (TX W b w (34:: D) F w3):=hs;clear hs H2)|(go_at_call 228;refine (SK' _ H3.out.st.1).mono ?_;rintro e w4 ⟨rfl,hs⟩;have H4:U (TX W b w D F w4):=H3.out.method hb hs;clear hs H3)|(go_at_call 228;refine (aNn _ H4.out.st.1).mono ?_;rintro e w5 ⟨rfl,hs⟩;have H5:U (TX W b w D F w5):=H4.out.method hb hs;clear hs H4)|(go_at_call 135;refine (SG _ H5.out).mono ?_;rintro e w6 ⟨rfl,hs⟩;have H6:U (TX W b w D F w6):=hs;have RR:=H6.out.put 2 0 (ba F) noB noB 0 0 G G;clear hs)|(refine aA rfl 156 _ _ rfl _ _ _ rfl rfl RR.out ?_))
    refine γ (H6.out.ans (tcs 2 0 (ba F) noB noB 0 0 G G) rfl rfl rfl rfl) rfl ?_;rw [HN.out];exact⟨rfl,H6.out.fin hb _⟩
def aOp (W:V) (b:Nat) (w:V) (o:Option (Tk.Tok × List UInt8)) (e:x9) (w':V):Prop:=
 ∃(t:TT) (ok:Bool) (m:List UInt8),e=.returned (.tuple #[.agg (tcs t.k t.n t.s t.b t.h t.r t.c t.fr t.fc),.bool ok])/\St W b m w w'/\∀v v',St W b m v v'->Ans W b v o (.returned (.tuple #[.agg (tcs t.k t.n t.s t.b t.h t.r t.c t.fr t.fc),.bool ok])) v'
theorem Ans.e {W:V} {b:Nat} {w:V} {o:Option (Tk.Tok × List UInt8)} {e:x9} {w':V} (h:Ans W b w o e w'):aOp W b w o e w':=by
 rcases o with _ | ⟨t,m⟩
 ·obtain ⟨⟨t,rfl⟩,m,hs⟩:=h;exact⟨t,G,m,rfl,hs,fun v v' hv=>⟨⟨t,rfl⟩,m,hv⟩⟩
 ·obtain ⟨rfl,hs⟩:=h;exact⟨tk t,δ,m,rfl,hs,fun v v' hv=>⟨rfl,hv⟩⟩
theorem e13:∀args u,(φ 149 args).run Z u=.ok (.enter 149 args) u:=τ Tryz.func149 (by kernel_rfl) rfl
theorem eM (c:UInt8):∀args u,(φ (aCU c) args).run Z u=.ok (.enter (aCU c) args) u:=by
 unfold aCU;split
 ·exact τ Tryz.func188 (by kernel_rfl) rfl
 ·split
  ·exact τ Tryz.func189 (by kernel_rfl) rfl
  ·split
   ·exact τ Tryz.func190 (by kernel_rfl) rfl
   ·split
    ·exact τ Tryz.func192 (by kernel_rfl) rfl
    ·exact τ Tryz.func193 (by kernel_rfl) rfl
theorem aJj {W w:V} {b:Nat} {c:UInt8} {r:List UInt8} (X:LX W b (c:: r) w) (hl:(c:: r).length<=255):
  J Z (aCU c) #[pt b] w (Ans W b w (Tk.one gnF trB pnF (c:: r))):=by
 unfold aCU Tk.one;simp only;by_cases hd:Ad.isD c=δ
 ·rw [if_pos hd,if_pos hd];exact aEa X hl
 rw [if_neg hd,if_neg hd];by_cases h34:c=34
 ·rw [if_pos h34,if_pos h34];subst h34;exact aJi X hl
 rw [if_neg h34,if_neg h34];by_cases h35:c=35
 ·rw [if_pos h35,if_pos h35];exact aGq X
 rw [if_neg h35,if_neg h35];by_cases hn:c=91\/c=36\/Ad.isL c=δ
 ·rw [if_pos hn,if_pos hn];exact aJg X hl
 rw [if_neg hn,if_neg hn];exact aBe X
theorem aGL {W w:V} {b k n:Nat} {l:List UInt8} {A:ByteArray} {o:Option (Tk.Tok × List UInt8)} (X:LX W b l w) (hA:A=ba l) (hz:0 < A.size) (hn:(A[0].toNat:Int)=(n:Int)) (h8:n < 256)
  (hE:∀args u,(φ k args).run Z u=.ok (.enter k args) u)
  (SG:∀u,CW 149 #[.int .i32 (n:Int)] u (.func (.func k) #[] #[]))
  (M:∀u,LX W b l u->J Z k #[pt b] u (aOp W b u o)):
  J Z 151 #[pt b] w (Ans W b w o):=by
 have hb:=X.lt;have e13:=e13;obtain⟨c0,c1,f0⟩:=X.cells;obtain⟨a0,a1,a2⟩:=(X.alloc tkO).cells;have H0:U (LX W b l (w.alloc tkO)):=X.alloc tkO;have SG2:∀u,CW 149 #[.int .i32 (A[0].toNat:Int)] u (.func (.func k) #[] #[]):=by rw [hn];exact SG
 rw [<-hA] at c0 a0;have HA:U (A=ba l):=hA;have hwr:IntKind.i32.wrap (A[0].toNat:Int)=(A[0].toNat:Int):=by rw [hn];unfold IntKind.wrap;simp [IntKind.bits,IntKind.signed];omega
 have H1:U (St W b l (w.alloc tkO) (w.alloc tkO).drew):=(St.refl H0.out).drew;clear X hA hn SG;go_enter Tryz.func151,Tryz.ntmps151;go_wp2;have HC:U ((w.alloc tkO).drew.cell? ⟨b,0,none⟩=some (.string A)/\(w.alloc tkO).drew.cell? ⟨b,1,none⟩=some sH):=⟨a0,a1⟩
 refine aO (fun u=>u.cell? ⟨b,0,none⟩=some (.string A)/\u.cell? ⟨b,1,none⟩=some sH) (fun _=>G) (by kernel_rfl) ?_;refine dwp 0 (pt b) ?_;refine dwp 1 (pt b) ?_;refine dwp 2 (.pointer (some ⟨b,1,none⟩)) ?_;refine dwl 3 (sH) ?_ (hS:=HC.out) (hy:=(fun u hSu=>by obtain⟨k0,k1⟩:=hSu;go_simp));refine dwp 4 (pt b) ?_;refine dwp 5 (pt b) ?_;refine dwp 6 (pt b) ?_;refine dwl 7 (.string A) ?_ (hS:=HC.out) (hy:=(fun u hSu=>by obtain⟨k0,k1⟩:=hSu;go_simp));refine dwp 8 (.int .u8 (A[0].toNat:Int)) ?_;refine dwp 9 (.int .i32 (A[0].toNat:Int)) ?_;refine aH (i:=10) (by kernel_rfl) rfl ?_;intro K hK;go_simp;refine (SG2 _).mono ?_;rintro e w' ⟨rfl,hw⟩;obtain rfl:=hw.symm;clear hw;refine hK _ _ (.inr fun h=>h) ?_;clear hK;try simp only [Act.put,η,ο,π]
 refine dwp 11 (.func (.func k) #[] #[]) ?_;refine aM (by kernel_rfl) ?_ _;go_wp2_with (first|(go_at_fn k;refine (M _ H1.out.1).mono ?_;rintro e w2 ⟨t,ok,m,rfl,hs,ha⟩;have H2:U (St W b m (w.alloc tkO) w2):=H1.out.step hs;have HF:U (∀v v',St W b m v v'->Ans W b v o (.returned (.tuple #[.agg (tcs t.k t.n t.s t.b t.h t.r t.c t.fr t.fc),.bool ok])) v'):=ha;have RR:=H2.out.put hb t.k t.n t.s t.b t.h t.r t.c t.fr t.fc;clear hs ha)|(refine aA rfl 156 _ _ rfl _ _ _ rfl rfl RR.out ?_))
 exact γ (v:=.tuple #[.agg (tcs t.k t.n t.s t.b t.h t.r t.c t.fr t.fc),.bool ok]) (H2.out.ans hb (tcs t.k t.n t.s t.b t.h t.r t.c t.fr t.fc) rfl rfl rfl rfl) rfl (HF.out _ _ (H2.out.fin hb _))
theorem aJk {W w:V} {b:Nat} {c:UInt8} {r:List UInt8} (X:LX W b (c:: r) w) (hl:(c:: r).length<=255):
  J Z 151 #[pt b] w (Ans W b w (Tk.one gnF trB pnF (c:: r))):=by
 have hz:0 < (ba (c:: r)).size:=by rw [size_mk];simp
 refine aGL (A:=ba (c:: r)) X rfl hz (n:=c.toNat) ?_ c.toNat_lt (eM c) (fun u=>aJb c u) (fun u Y=>(aJj Y hl).mono fun e w' h=>h.e);rw [mW (c:: r) 0 (by simp) hz];rfl
def TT.cl (t:TT):List α:=[.int .i64 t.k,.int .i64 t.n,.string t.s,.string t.b,.string t.h,.int .i64 t.r,.int .i64 t.c,.bool t.fr,.bool t.fc]
theorem aEn (t:TT):t.cl.length=9:=rfl
theorem aNo (t:TT):∀u ∈ t.cl,u.oneCell'=δ:=by intro u hu;simp only [TT.cl,z5,Ψ,or_false] at hu;rcases hu with rfl | rfl | rfl | rfl | rfl | rfl | rfl | rfl | rfl <;> rfl
theorem oC:∀L:List TT,(L.flatMap TT.cl).length=L.length * 9
 | []=>rfl
 | t:: L=>by rw [Θ,Δ,oC L,aEn,β];omega
theorem aFE:∀(L:List TT) (i j:Nat) (v:α) (hi:i < L.length),L[i].cl[j]? =some v->(L.flatMap TT.cl)[i * 9+j]? =some v
 | t:: L,0,j,v,_,h=>by have hj:j < t.cl.length:=(List.getElem?_eq_some_iff.1 h).1;rw [Θ,Nat.zero_mul,x8,z8 hj];exact h
 | t:: L,i+1,j,v,hi,h=>by rw [Θ,z6 (by rw [aEn];omega),aEn,show (i+1) * 9+j - 9=i * 9+j by omega];exact aFE L i j v (by simpa using hi) h
def fO (e:ξ) (base:Nat) (w:V) (v:α) (L:List TT):Prop:=w.ownsRow base e 9 v L.length (L.flatMap TT.cl)
theorem fO.nil (e:ξ) (base:Nat) (w:V):fO e base w (.slice none 0 0) []:=World.ownsRow_nil w base e 9
theorem fO.slice {e:ξ} {base:Nat} {w:V} {v:α} {L:List TT} (h:fO e base w v L):∃a c,v=.slice a L.length c:=by
 rcases h.2 with ⟨rfl,h0⟩ | ⟨g,cap,cur,rfl,_⟩
 ·exact ⟨none,0,by rw [h0]⟩
 ·exact ⟨_,_,rfl⟩
theorem fO.ne {e:ξ} {base:Nat} {w:V} {v:α} {L:List TT} (h:fO e base w v L) {b:Nat} {o:Obj} (hb:w.heap[b]? =some o) (ho:∀c z,o ≠ .cells c e z):v.ownBlock=none\/v.ownBlock ≠ some b:=by
 rcases h.2 with ⟨rfl,_⟩ | ⟨g,cap,cur,rfl,_,hg,_⟩
 ·exact .inl rfl
 ·refine .inr fun e=> ?_;have:g=b:=by simpa [Value.ownBlock] using e
  subst this;rw [hb] at hg;cases hg
  exact ho _ _ rfl
theorem fO.kept {e:ξ} {base:Nat} {w w':V} {v:α} {L:List TT} {row:Option Nat} (h:fO e base w v L) (hg:w.grownBy w' row) (hne:v.ownBlock=none\/v.ownBlock ≠ row):fO e base w' v L:=World.ownsRow.kept h hg hne
theorem fO.below {e:ξ} {base:Nat} {w w':V} {v:α} {L:List TT} (h:fO e base w v L) (hb:ρ w.heap.size w w'):fO e base w' v L:=
 h.kept (bH (row:=none) hb) (by cases v.ownBlock <;> simp)
theorem aNp:(Tryz.prog.info? 156).map (fun i=>(i.zero,i.size,i.bytes))=some (some (.agg tk0),9,88):=by kernel_rfl
theorem aNq:(Tryz.prog.info? 188).map (fun i=>(i.zero,i.size,i.bytes))=some (some (.agg tk0),9,88):=by kernel_rfl
theorem aCZ {e st:ξ} (hst:Tryz.prog.underlying st=some (.slice e)) (aCJ:(Tryz.prog.info? e).map (fun i=>(i.zero,i.size,i.bytes))=some (some (.agg tk0),9,88))
  {base:Nat} {w:V} {v:α} {L:List TT} (h:fO e base w v L) {g:Nat} {t:TT} {z:Nat × Nat} {e':ξ} (hg:w.heap[g]? =some (.cells t.cs e' z)) (hn:L.length+1<=1000000) (hbase:base<=w.heap.size):
  ∃v' w',U ((Builtin.append_ #[st,st] st #[v,.slice (some ⟨g,0,none⟩) 1 1]).run Z w=.ok v' w')/\fO e base w' v' (L++ [t])/\w.grownBy w' v.ownBlock/\ρ base w w':=by
 obtain⟨i0,hi,hz0,hz1,hz2⟩:=info_parts aCJ;have hadd:∀k,(⟨g,0,none⟩:y3).add k=⟨g,k,none⟩:=fun k=>by unfold Addr.add;split <;> simp_all
 obtain⟨v',w',r1,o1,g1,_,_⟩:=run_append_own_at w base st st e i0 _ 9 88 hst hi hz0 hz1 hz2 rfl (by decide) v _ _ h ⟨g,0,none⟩ 1 1 t.cl rfl
  (fun j u hj=>by rw [hadd,Φ w g j _ _ _ hg,<-hj];simp [TT.cs,TT.cl]) (aNo t) (by simp only [maxLen];omega) (by omega) hbase
 refine ⟨v',w',r1, ?_,g1,(μ base w).grown g1 hbase fun k hk=>(World.ownsRow.lt h k hk).1⟩;unfold fO;rw [Δ,List.flatMap_append];simpa using o1
theorem wpList_append_run {P:x4} {w:V} {ops:Array y7} {rest:List y7} {o:y7} {a:Act} {Q:Exit->Act->V->Prop} (hgd:o.guard=none) (s x:z3) (t:ξ)
  (ho:o.op=.call { callee:=.builtin .append,args:=#[s,x],argTypes:=#[t,t] }) (v bv v':α) (w':V) (hs:a.eval s=v) (hx:a.eval x=bv) (hrun:(Builtin.append_ #[t,t] o.type #[v,bv]).run P w=.ok v' w')
  (h:x2 P ops Q rest (a.put o.dst v') w'):x2 P ops Q (o:: rest) a w:=by
 refine x1 hgd fun K hK=> ?_;unfold Ω;simp [y0,ho,resolve,invoke,builtin,hs,hx,hrun,Result.andThen];exact hK _ _ h
theorem pE {l m:List UInt8} {t:Tk.Tok} (h:Tk.one gnF trB pnF l=some (t,m)):m.length < l.length:=by
 cases l with
 | nil=>cases h
 | cons c r=>
  unfold Tk.one at h;simp only at h;split at h
  ·rename_i hd
   cases hp:pnF ((c:: r).takeWhile Tk.dB) with
   | none=>rw [hp] at h;cases h
   | some n=>
    rw [hp] at h;cases h
    exact Tk.aFl _ (by unfold Tk.dB;rw [hd];rfl)
  ·split at h
   ·cases hq:Tk.cZ r with
    | none=>rw [hq] at h;cases h
    | some p=>
     rw [hq] at h;cases h
     have:=Tk.aA9 r.length r p.1 p.2 (υ _) hq;simp only [β];omega
   ·split at h
    ·exact Tk.aK8 h
    ·split at h
     ·rename_i hn
      unfold Tk.named at h;split at h
      ·rename_i m' he
       cases he
       cases ha:Ad.at_ 93 r with
       | none=>rw [ha] at h;cases h
       | some p=>
        obtain⟨a,q⟩:=p;rw [ha] at h;simp only at h;split at h
        ·have h1:=Tk.wW h;have h2:=congrArg x5 (at_eq ha);simp at h2 ⊢;omega
        ·cases h
      ·rename_i hne
       have hrun:Tk.aQ c=δ:=by
        rcases hn with h1 | h1 | h1
        ·subst h1;exact absurd rfl (hne r)
        ·subst h1;rfl
        ·exact Tk.aK9 h1
       unfold Tk.gQ at h;have hlt:=Tk.aFl (p:=Tk.aQ) (c:=c) (r:=r) hrun;split at h
       ·rename_i q hq
        rw [hq] at hlt;have hd:=Tk.lD Tk.aQ q;cases hp:Ad.lY gnF ([]++(c:: r).takeWhile Tk.aQ++33:: q.takeWhile Tk.aQ) with
        | none=>rw [hp] at h;cases h
        | some x=>
         rw [hp] at h;cases h
         simp only [β] at hlt ⊢;omega
       ·rw [if_pos rfl] at h;split at h
        ·cases h;exact hlt
        ·split at h
         ·cases h;exact hlt
         ·cases h
     ·exact Tk.aNb h
def gY (l:List UInt8):Option (List Tk.Tok):=Tk.nR gnF trB pnF (l.length+1) l
theorem sZ:∀(k:Nat) (l:List UInt8),l.length < k->∀k',l.length < k'->Tk.nR gnF trB pnF k l=Tk.nR gnF trB pnF k' l
 | 0,l,h,_,_=>absurd h (Nat.not_lt_zero _)
 | k+1,[],_,0,h=>absurd h (Nat.not_lt_zero _)
 | k+1,[],_,k'+1,_=>rfl
 | k+1,c:: r,h,0,h'=>absurd h' (Nat.not_lt_zero _)
 | k+1,c:: r,h,k'+1,h'=>by
  simp only [β] at h h';unfold Tk.nR;split
  ·exact sZ k r (by omega) k' (by omega)
  ·cases ho:Tk.one gnF trB pnF (c:: r) with
   | none=>rfl
   | some p=>
    have:=pE (t:=p.1) (m:=p.2) ho;simp only [β] at this;simp only;rw [sZ k p.2 (by omega) k' (by omega)]
theorem aAD {c:UInt8} {r:List UInt8} (h:Tk.blank c=δ):gY (c:: r)=gY r:=by
 unfold gY
 conv=>lhs;unfold Tk.nR
 rw [if_pos h];exact sZ _ r (by simp) _ (by simp)
theorem aC0 {c:UInt8} {r:List UInt8} (h:Tk.blank c=G):gY (c:: r)=match Tk.one gnF trB pnF (c:: r) with
  | none=>none
  | some (t,m)=>(gY m).map (t:: ·):=by
 conv=>lhs;unfold gY Tk.nR
 rw [if_neg (by rw [h];decide)];cases ho:Tk.one gnF trB pnF (c:: r) with
 | none=>rfl
 | some p=>
  have:=pE (t:=p.1) (m:=p.2) ho;simp only;unfold gY;rw [sZ _ p.2 this _ (Nat.lt_succ_self _)]
theorem yI:∀l:List UInt8,gY (l.dropWhile Tk.blank)=gY l
 | []=>rfl
 | c:: r=>by
  rw [z1];split
  ·rename_i h;rw [yI r,aAD h]
  ·rfl
theorem lU {P:x4} {ev:z3->α} {o:y7} {ty:ξ} {x:z3} {p v:α} {u:V} (ho:o.op=.load ty x) (hx:ev x=p) (hrun:(κ ty p).run P u=.ok v u):(y0 ev o).run P u=.ok (.value v) u:=by unfold y0;simp only [ho,hx,Γ,ω,hrun,σ]
def okN (n:Int):Prop:=0<=n/\n<=100000000000
theorem aC1 {l:List UInt8} (h:gnF l=δ):l.length<=16/\nK l=δ/\l.all okC=δ/\lcF l=G:=by unfold gnF at h;simp only [y2,Bool.not_eq_true'] at h;obtain⟨a,b,c⟩:=xD h.1.1;exact⟨a,b,c,h.1.2⟩
theorem aLB (n:Nat):aB4 (n:Int) G=n:=rfl
theorem aNr {c:UInt8} {r:List UInt8} {n:Int} (hc:Ad.isD c=δ) (h:pnF (c:: r)=some n):okN n:=by
 unfold pnF at h;split at h
 ·rename_i h2
  have hg:=aCo (c:: r);cases h
  unfold gd at hg;simp only [y2,decide_eq_true_eq] at hg;refine ⟨?_,hg.2⟩;have hd:dash (c:: r)=G:=by unfold dash;rw [List.head?_cons];simp only [beq_eq_false_iff_ne,ne_eq,v0];rintro rfl;exact absurd hc (by decide)
  unfold cK;split
  ·rw [hd,aLB];unfold ans;split
   ·exact Int.natCast_nonneg _
   ·exact Int.le_refl _
  ·exact Int.le_refl _
 ·cases h
theorem aFF {b pre l m:List UInt8} {t:Tk.Tok} (hb:b=[]\/gnF b=δ) (h:Tk.gQ gnF trB b pre l=some (t,m)):Tk.okT gnF trB okN t:=by
 unfold Tk.gQ at h;split at h
 ·rename_i q hq
  cases hp:Ad.lY gnF (pre++l.takeWhile Tk.aQ++33:: q.takeWhile Tk.aQ) with
  | none=>rw [hp] at h;cases h
  | some x=>
   rw [hp] at h;cases h
   exact(Ad.aMS aCq hp).1
 ·split at h
  ·split at h
   ·rename_i c hc
    cases h
    exact⟨(Ad.cell_of hc).1,.inl rfl,.inl rfl⟩
   ·split at h
    ·rename_i hw
     cases h
     exact .inl ⟨rfl,hw⟩
    ·cases h
  ·rename_i hne
   split at h
   ·rename_i hw
    cases h
    exact .inr ⟨hb.resolve_left hne,hw⟩
   ·cases h
theorem aNs {l m:List UInt8} {t:Tk.Tok} (h:Tk.one gnF trB pnF l=some (t,m)):Tk.okT gnF trB okN t:=by
 cases l with
 | nil=>cases h
 | cons c r=>
  unfold Tk.one at h;simp only at h;split at h
  ·rename_i hd
   cases hp:pnF ((c:: r).takeWhile Tk.dB) with
   | none=>rw [hp] at h;cases h
   | some n=>
    rw [hp] at h;cases h
    rw [x0,if_pos (by unfold Tk.dB;rw [hd];rfl)] at hp;exact aNr hd hp
  ·split at h
   ·cases hq:Tk.cZ r with
    | none=>rw [hq] at h;cases h
    | some p=>rw [hq] at h;cases h;exact trivial
   ·split at h
    ·unfold Tk.pV at h;cases hf: [1,2,3,4,5,6,7,8].find? fun i=>(Tk.eP i).isPrefixOf (c:: r) with
     | none=>rw [hf] at h;cases h
     | some i=>
      rw [hf] at h;cases h
      have:=List.mem_of_find?_eq_some hf;simp only [z5,Ψ,or_false] at this;show 1<=i/\i<=8;omega
    ·split at h
     ·unfold Tk.named at h;split at h
      ·rename_i m' he
       cases he
       cases ha:Ad.at_ 93 r with
       | none=>rw [ha] at h;cases h
       | some p=>
        obtain⟨a,q⟩:=p;rw [ha] at h;simp only at h;split at h
        ·rename_i hg;exact aFF (.inr hg) h
        ·cases h
      ·exact aFF (.inl rfl) h
     ·rcases r with _ | ⟨d,r⟩
      ·simp only [Tk.opF] at h;split at h
       ·rename_i hm;cases h;exact .inl ⟨c,hm,rfl⟩
       ·cases h
      ·simp only [Tk.opF] at h;split at h
       ·rename_i hm;cases h;exact .inr ⟨c,d,hm,rfl⟩
       ·split at h
        ·rename_i hm;cases h;exact .inl ⟨c,hm,rfl⟩
        ·cases h
theorem aBm:∀(k:Nat) (l:List UInt8) (L:List Tk.Tok),Tk.nR gnF trB pnF k l=some L->∀t ∈ L,Tk.okT gnF trB okN t
 | 0,l,L,h=>by cases h
 | k+1,[],L,h=>by cases h;intro t ht;cases ht
 | k+1,c:: r,L,h=>by
  unfold Tk.nR at h;split at h
  ·exact aBm k r L h
  ·cases ho:Tk.one gnF trB pnF (c:: r) with
   | none=>rw [ho] at h;cases h
   | some p=>
    rw [ho] at h;simp only at h;cases hk:Tk.nR gnF trB pnF k p.2 with
    | none=>rw [hk] at h;cases h
    | some M=>
     rw [hk] at h;cases h
     intro t ht;rcases List.mem_cons.1 ht with rfl | ht
     ·exact aNs (m:=p.2) ho
     ·exact aBm k p.2 M hk t ht
theorem aJl {l:List UInt8} {L:List Tk.Tok} (h:gY l=some L):∀t ∈ L,Tk.okT gnF trB okN t:=aBm _ _ _ h
theorem yJ:∀(a r:List UInt8),(∀x ∈ a,x ≠ 34)->Tk.aD6 (a++r)=a++Tk.aD6 r
 | [],r,_=>rfl
 | x:: a,r,h=>by show (if x=34 then _ else x:: Tk.aD6 (a++r))=_;rw [if_neg (h x (by simp)),yJ a r (fun y hy=>h y (by simp [hy]))];rfl
theorem aJm {c:UInt8}:∀{l a r:List UInt8},Ad.at_ c l=some (a,r)->∀x ∈ a,x ≠ c
 | [],a,r,h=>by cases h
 | y:: l,a,r,h=>by
  unfold Ad.at_ at h;split at h
  ·cases h;intro x hx;cases hx
  ·rename_i hy
   cases hq:Ad.at_ c l with
   | none=>rw [hq] at h;cases h
   | some p=>
    rw [hq] at h;cases h
    intro x hx;rcases List.mem_cons.1 hx with rfl | hx
    ·exact hy
    ·exact aJm (a:=p.1) (r:=p.2) hq x hx
theorem aC2 {c:UInt8}:∀{l:List UInt8},Ad.at_ c l=none->∀x ∈ l,x ≠ c
 | [],_=>fun x hx=>by cases hx
 | y:: l,h=>by
  unfold Ad.at_ at h;split at h
  ·cases h
  ·rename_i hy
   cases hq:Ad.at_ c l with
   | some p=>rw [hq] at h;cases h
   | none=>
    intro x hx;rcases List.mem_cons.1 hx with rfl | hx
    ·exact hy
    ·exact aC2 hq x hx
theorem aOX:∀(k:Nat) (s:List UInt8),s.length<=k->Lib.replaceK [34] [34,34] (Lib.count s [34]) s++ [34]=Tk.aD6 s:=by
 intro k;induction k with
 | zero=>
  intro s hs;have:s=[]:=χ (by omega);subst this;rw [Lib.count_one];rfl
 | succ k ih=>
  intro s hs;cases ha:Ad.at_ 34 s with
  | none=>
   have hno:=aC2 ha;rw [Lib.count_one,List.count_eq_zero_of_not_mem (fun h=>hno 34 h rfl)];have:=yJ s [] hno;rw [List.append_nil] at this;rw [this];rfl
  | some p=>
   obtain⟨a,r⟩:=p;have hno:=aJm ha;have he:s=a++34:: r:=at_eq ha;have hix:Lib.index s [34]=(a.length:Nat):=by
    rw [Lib.index_one];have hge:=Lib.indexByte_ge s 34;by_cases h1:Lib.indexByte s 34= -1
    ·rw [(nP 34 s).1 h1] at ha;cases ha
    ·obtain ⟨i,hi⟩:∃i:Nat,Lib.indexByte s 34=i:=⟨(Lib.indexByte s 34).toNat,by omega⟩
     have h2:=(nP 34 s).2 i hi;rw [ha] at h2;cases h2
     rw [hi,List.length_take];have:=congrArg x5 he;simp at this;omega
   have hc:Lib.count s [34]=Lib.count r [34]+1:=by rw [Lib.count_one,Lib.count_one,he,List.count_append,List.count_eq_zero_of_not_mem (fun h=>hno 34 h rfl)];simp
   have hr:r.length<=k:=by have:=congrArg x5 he;simp at this;omega
   rw [hc,Lib.replaceK_hit _ _ _ _ _ hix];have e1:s.take a.length=a:=by rw [he];exact List.take_left
   have e2:s.drop (a.length+([34]:List UInt8).length)=r:=by rw [he];show (a++34:: r).drop (a.length+1)=r;rw [<-List.drop_drop];rw [List.drop_left];rfl
   rw [e1,e2,Ξ,Ξ,ih r hr,he,yJ a (34:: r) hno];rfl
def smT:Tk.Tok->Prop
 | .inr (.inl s)=>s.length<=255
 | _=>True
theorem yK:∀(k:Nat) (l s r:List UInt8),l.length<=k->Tk.cZ l=some (s,r)->s.length<=l.length
 | 0,l,s,r,hk,h=>by have:l=[]:=χ (by omega);subst this;cases h
 | k+1,[],s,r,hk,h=>by cases h
 | k+1,[c],s,r,hk,h=>by
  unfold Tk.cZ at h;split at h
  ·cases h;simp
  ·cases h
 | k+1,c:: d:: l,s,r,hk,h=>by
  unfold Tk.cZ at h;simp only [β] at hk ⊢;split at h
  ·split at h
   ·cases hq:Tk.cZ l with
    | none=>rw [hq] at h;cases h
    | some p=>
     rw [hq] at h;cases h
     have:=yK k l p.1 p.2 (by omega) hq;simp only [β];omega
   ·cases h;simp
  ·cases hq:Tk.cZ (d:: l) with
   | none=>rw [hq] at h;cases h
   | some p=>
    rw [hq] at h;cases h
    have:=yK k (d:: l) p.1 p.2 (by simp only [β];omega) hq;simp only [β] at this ⊢;omega
theorem aNt {l m:List UInt8} {t:Tk.Tok} (hl:l.length<=255) (h:Tk.one gnF trB pnF l=some (t,m)):smT t:=by
 cases t using Tk.Tok.cs with
 | str s=>
  cases l with
  | nil=>cases h
  | cons c r=>
   unfold Tk.one at h;simp only at h;split at h
   ·cases hp:pnF ((c:: r).takeWhile Tk.dB) with
    | none=>rw [hp] at h;cases h
    | some n=>rw [hp] at h;cases h
   ·split at h
    ·cases hq:Tk.cZ r with
     | none=>rw [hq] at h;cases h
     | some p=>
      rw [hq] at h;cases h
      have:=yK r.length r p.1 p.2 (υ _) hq;show p.1.length<=255;simp only [β] at hl;omega
    ·split at h
     ·unfold Tk.pV at h;cases hf: [1,2,3,4,5,6,7,8].find? fun i=>(Tk.eP i).isPrefixOf (c:: r) with
      | none=>rw [hf] at h;cases h
      | some i=>rw [hf] at h;cases h
     ·have tl:∀{b pre q:List UInt8},Tk.gQ gnF trB b pre q=some (.str s,m)->False:=fun {b pre q} h=>by
       unfold Tk.gQ at h;split at h
       ·rename_i z hz
        cases hp:Ad.lY gnF (pre++q.takeWhile Tk.aQ++33:: z.takeWhile Tk.aQ) with
        | none=>rw [hp] at h;cases h
        | some x=>rw [hp] at h;cases h
       ·split at h
        ·split at h
         ·cases h
         ·split at h <;> cases h
        ·split at h <;> cases h
      split at h
      ·unfold Tk.named at h;split at h
       ·rename_i m' he
        cases he
        cases ha:Ad.at_ 93 r with
        | none=>rw [ha] at h;cases h
        | some p=>
         obtain⟨a,q⟩:=p;rw [ha] at h;simp only at h;split at h
         ·exact (tl h).elim
         ·cases h
       ·exact (tl h).elim
      ·rcases r with _ | ⟨d,r⟩
       ·simp only [Tk.opF] at h;split at h <;> cases h
       ·simp only [Tk.opF] at h;split at h
        ·cases h
        ·split at h <;> cases h
 | num n=>trivial
 | ref r=>trivial
 | word b s=>trivial
 | op x=>trivial
 | bad n=>trivial
theorem aBn:∀(k:Nat) (l:List UInt8) (L:List Tk.Tok),l.length<=255->Tk.nR gnF trB pnF k l=some L->∀t ∈ L,smT t
 | 0,l,L,_,h=>by cases h
 | k+1,[],L,_,h=>by cases h;intro t ht;cases ht
 | k+1,c:: r,L,hl,h=>by
  unfold Tk.nR at h;split at h
  ·exact aBn k r L (by simp only [β] at hl;omega) h
  ·cases ho:Tk.one gnF trB pnF (c:: r) with
   | none=>rw [ho] at h;cases h
   | some p=>
    rw [ho] at h;simp only at h;cases hk:Tk.nR gnF trB pnF k p.2 with
    | none=>rw [hk] at h;cases h
    | some M=>
     rw [hk] at h;cases h
     intro t ht;rcases List.mem_cons.1 ht with rfl | ht
     ·exact aNt (m:=p.2) hl ho
     ·exact aBn k p.2 M (by have:=pE (t:=p.1) (m:=p.2) ho;omega) hk t ht
theorem aJn {l:List UInt8} {L:List Tk.Tok} (hl:l.length<=255) (h:gY l=some L):∀t ∈ L,smT t:=aBn _ _ _ hl h
end Go.Proofs.YtfedoljlipfhdaaGreatDoor
namespace Go.Proofs.YtfedoljlipfhdaaGreatDoor
open Go.RowKit Go.Fm
abbrev aJo (v:α):Obj:=.cells #[v] 138
def TS (w:V) (v:α) (L:List TT):Prop:=(L=[]/\∃a c,v=.slice a 0 c)\/∃g o c,v=.slice (some ⟨g,o,none⟩) L.length c/\0 < L.length/\L.length<=c/\∀i j x (hi:i < L.length),L[i].cl[j]? =some x->w.cell? ⟨g,o+(i * 9+j),none⟩=some x
theorem TS.of {e:ξ} {base:Nat} {w:V} {v:α} {L:List TT} (h:fO e base w v L):TS w v L:=by
 have hc:=fun g (hg:v.ownBlock=some g)=>World.ownsRow.cells h hg;rcases h.2 with ⟨rfl,h0⟩ | ⟨g,cap,cur,rfl,_,_,h1,h2,_⟩
 ·have:L=[]:=χ h0;exact .inl ⟨this,none,0,rfl⟩
 ·by_cases hl:L=[]
  ·subst hl;exact .inl ⟨rfl,_,_,rfl⟩
  ·refine .inr ⟨g,0,cap,rfl,List.length_pos_iff.2 hl,h1,fun i j x hi hx=> ?_⟩;have hadd:∀k,(⟨g,0,none⟩:y3).add k=⟨g,k,none⟩:=fun k=>by unfold Addr.add;split <;> simp_all
   have:=hc g rfl (i * 9+j) x (aFE L i j x hi hx);rw [hadd] at this;rw [x8];exact this
theorem TS.slice {w:V} {v:α} {L:List TT} (h:TS w v L):∃a c,v=.slice a L.length c:=by
 rcases h with ⟨rfl,a,c,rfl⟩ | ⟨g,o,c,rfl,_⟩
 ·exact ⟨a,c,rfl⟩
 ·exact ⟨_,c,rfl⟩
theorem TS.cons {w:V} {v:α} {t:TT} {L:List TT} (h:TS w v (t:: L)):∃g o c,v=.slice (some ⟨g,o,none⟩) (L.length+1) c/\L.length+1<=c/\(∀j x,t.cl[j]? =some x->w.cell? ⟨g,o+j,none⟩=some x)/\
  TS w (.slice (if c=1 then some ⟨g,o,none⟩ else some ⟨g,o+9,none⟩) L.length (c - 1)) L:=by
 rcases h with ⟨h,_⟩ | ⟨g,o,c,h1,h2,h3,h4⟩
 ·cases h
 ·refine ⟨g,o,c,h1,h3,fun j x hx=>by simpa using h4 0 j x (by simp) hx, ?_⟩;by_cases hl:L=[]
  ·subst hl;exact .inl ⟨rfl,_,_,rfl⟩
  ·have hp:=List.length_pos_iff.2 hl;simp only [β] at h3;rw [if_neg (by omega)];refine .inr ⟨g,o+9,c - 1,rfl,hp,by omega,fun i j x hi hx=> ?_⟩;have:=h4 (i+1) j x (by simpa using hi) hx;rw [show o+9+(i * 9+j)=o+((i+1) * 9+j) by omega];exact this
def OkL (L:List Tk.Tok):Prop:=∀t ∈ L,Tk.okT gnF trB okN t/\smT t
structure PR (W:V) (b:Nat) (L:List Tk.Tok) (w:V):Prop where
 tab:dS W
 bel:ρ W.heap.size W w
 lo:W.heap.size<=b
 ok:OkL L
 blk:∃v,w.heap[b]? =some (aJo v)/\TS W v (L.map tk)
theorem PR.lt {W w:V} {b:Nat} {L:List Tk.Tok} (h:PR W b L w):b < w.heap.size:=by obtain⟨v,h1,_⟩:=h.blk;exact bA h1
theorem PR.t {W w:V} {b:Nat} {L:List Tk.Tok} (h:PR W b L w):dS w:=h.tab.below h.bel
theorem PR.grown {W w w':V} {b:Nat} {L:List Tk.Tok} (h:PR W b L w) {row:Option Nat} (hg:w.grownBy w' row) (hr:∀k,row=some k->W.heap.size<=k/\k ≠ b):PR W b L w':=by obtain⟨v,h1,h2⟩:=h.blk;exact⟨h.tab,h.bel.grown hg h.bel.size (fun k hk=>(hr k hk).1),h.lo,h.ok,v,(hg.block b h.lt (fun e=>(hr b e.symm).2 rfl)).trans h1,h2⟩
theorem PR.below {W w w':V} {b:Nat} {L:List Tk.Tok} (h:PR W b L w) (hb:ρ w.heap.size w w'):PR W b L w':=h.grown (bH (row:=none) hb) (fun k e=>by cases e)
theorem PR.alloc {W w:V} {b:Nat} {L:List Tk.Tok} (h:PR W b L w) (o:Obj):PR W b L (w.alloc o):=h.below (aC (μ _ _) o)
theorem PR.drew {W w:V} {b:Nat} {L:List Tk.Tok} (h:PR W b L w):PR W b L w.drew:=h.below (μ _ _).drew
def Sp (W:V) (b:Nat) (L:List Tk.Tok) (w w':V):Prop:=PR W b L w'/\w.grownBy w' (some b)
theorem Sp.refl {W w:V} {b:Nat} {L:List Tk.Tok} (h:PR W b L w):Sp W b L w w:=⟨h,World.grownBy.refl _ _⟩
theorem Sp.step {W w w1 w2:V} {b:Nat} {L M:List Tk.Tok} (h:Sp W b L w w1) (k:Sp W b M w1 w2):Sp W b M w w2:=⟨k.1,aG h.2 k.2⟩
theorem Sp.bel {W w w1 w2:V} {b:Nat} {L:List Tk.Tok} (h:Sp W b L w w1) (hb:ρ w1.heap.size w1 w2):Sp W b L w w2:=⟨h.1.below hb,aG h.2 (bH hb)⟩
theorem Sp.alloc {W w w1:V} {b:Nat} {L:List Tk.Tok} (h:Sp W b L w w1) (o:Obj):Sp W b L w (w1.alloc o):=h.bel (aC (μ _ _) o)
theorem Sp.dW {W w w1:V} {b:Nat} {L:List Tk.Tok} {o:Obj} (h:Sp W b L (w.alloc o) w1):Sp W b L w w1:=⟨h.1,aG (ε w o _) h.2⟩
theorem Sp.kept {W w w1:V} {b:Nat} {L:List Tk.Tok} (h:Sp W b L w w1) {i:Nat} {o:Obj} (hi:w.heap[i]? =some o) (hb:i ≠ b):w1.heap[i]? =some o:=
 (h.2.block i (bA hi) (fun e=>hb (ψ e))).trans hi
theorem Sp.grown {W w w1 w2:V} {b g:Nat} {L:List Tk.Tok} (h:Sp W b L w w1) (hg:w1.grownBy w2 (some g)) (h1:w.heap.size<=g) (h2:b < w.heap.size):Sp W b L w w2:=
 ⟨h.1.grown hg (fun k hk=>by cases hk;exact⟨by have:=h.1.lo;omega,by omega⟩),World.grownBy.andThen h.2 hg (fun j hj=>by cases hj;exact .inl h1)⟩
abbrev dK:List PanicEntry:=[{ v:=.iface 33 (.int .i64 10),recovered:=G }]
theorem aNu {W w:V} {b:Nat} (X:PR W b [] w):CW 235 #[pt b] w (.string noB):=by
 obtain⟨v,hv,hs⟩:=X.blk;obtain⟨a,c,rfl⟩:=hs.slice;have hc:w.cell? ⟨b,0,none⟩=some (.slice a 0 c):=by rw [Φ w b 0 _ 138 (0,0) hv];rfl
 go_enter Tryz.func235,Tryz.ntmps235;go_wp2;go_ret;exact⟨rfl,rfl⟩
theorem aLC {W w:V} {b:Nat} {t:Tk.Tok} {L:List Tk.Tok} (X:PR W b (t:: L) w) (hn:L.length<=255):CW 235 #[pt b] w (.string (if (tk t).k=5 then (tk t).s else noB)):=by
 obtain⟨v,hv,hs⟩:=X.blk;rw [x7] at hs;obtain⟨g,o,c,rfl,hlc,hcs,_⟩:=hs.cons;rw [y5] at hv hlc;have hc:w.cell? ⟨b,0,none⟩=some (.slice (some ⟨g,o,none⟩) (L.length+1) c):=by rw [Φ w b 0 _ 138 (0,0) hv];rfl
 have h0:w.cell? ⟨g,o,none⟩=some (.int .i64 (tk t).k):=iU X.bel (hcs 0 _ rfl);have h2:w.cell? ⟨g,o+2,none⟩=some (.string (tk t).s):=iU X.bel (hcs 2 _ rfl);have hl:(((L.length:Int)+1)==0)=G:=by simp;omega
 generalize (tk t).k=k at *;generalize (tk t).s=s at *;generalize L.length=n at *;clear hs hcs X hv;by_cases h5:k=5
 ·subst h5;rw [if_pos rfl];go_enter Tryz.func235,Tryz.ntmps235;go_wp2;all_goals (go_ret;exact⟨rfl,rfl⟩)
 ·rw [if_neg h5];have h5b:(k !=5)=δ:=by simpa using h5
  go_enter Tryz.func235,Tryz.ntmps235;go_wp2;all_goals (go_ret;exact⟨rfl,rfl⟩)
theorem aJp (L:List Tk.Tok):(match L with | []=>noB | t:: _=>if (tk t).k=5 then (tk t).s else noB)=ba (aU L):=by
 cases L with
 | nil=>rfl
 | cons t L=>cases t using Tk.Tok.cs <;> rfl
theorem aEo {W w:V} {b:Nat} {L:List Tk.Tok} (X:PR W b L w) (hn:L.length<=256):CW 235 #[pt b] w (.string (ba (aU L))):=by
 rw [<-aJp L];cases L with
 | nil=>exact aNu X
 | cons t L=>exact aLC X (by simpa using hn)
theorem take_nil {W w:V} {b:Nat} (X:PR W b [] w):J Z 236 #[pt b] w fun e w'=>e=.panicked dK/\w.grownBy w' (some b):=by
 obtain⟨v,hv,hs⟩:=X.blk;obtain⟨a,c,rfl⟩:=hs.slice;have hc:(w.alloc (.cells tk0 156)).cell? ⟨b,0,none⟩=some (.slice a 0 c):=by rw [Φ _ b 0 _ 138 (0,0) ((ι _ _ _ X.lt).trans hv)];rfl
 go_enter Tryz.func236,Tryz.ntmps236;go_wp2;exact⟨rfl,rfl,ε _ _ _⟩
theorem take_cons {W w:V} {b:Nat} {t:Tk.Tok} {L:List Tk.Tok} (X:PR W b (t:: L) w) (hn:L.length<=255):J Z 236 #[pt b] w fun e w'=>e=.returned (.agg (tk t).cs)/\Sp W b L w w':=by
 obtain⟨v,hv,hs⟩:=X.blk;rw [x7] at hs;obtain⟨g,o,c,rfl,hlc,hcs,hts⟩:=hs.cons;rw [y5] at hv hlc hts;have hb:=X.lt;have hc:∀u,ρ w.heap.size w u->u.cell? ⟨b,0,none⟩=some (.slice (some ⟨g,o,none⟩) (L.length+1) c):=fun u hu=>by rw [Φ u b 0 _ 138 (0,0) ((hu.block _ hb).trans hv)];rfl
 have hf:∀u,ρ w.heap.size w u->u.frozen? ⟨b,0,none⟩=G:=fun u hu=>by unfold World.frozen?;rw [(hu.block _ hb).trans hv];rfl
 have B1:ρ w.heap.size w (w.alloc (.cells tk0 156)):=aC (μ _ _) _;have RL:U ((κ 156 (.pointer (some ⟨g,o,none⟩))).run Z (w.alloc (.cells tk0 156))=.ok (.agg (tk t).cs) (w.alloc (.cells tk0 156))):=
  run_loadAt_mid (P:=Z) _ g o 156 (tk t).cl _ (fun j x hx=>iU (aD X.bel B1) (hcs j x hx)) Tryz.underlying156 rfl nS
 have hl:(((L.length:Int)+1)==0)=G:=by simp;omega
 generalize htt:(tk t).cs=es at *;have hes:es.size=9:=by rw [<-htt];rfl
 have hone:es.all (·.oneCell')=δ:=by rw [<-htt];exact oU _ _ _ _ _ _ _ _ _
 obtain⟨k,n,s,bk,h,r,cc,fr,fc,hE⟩:∃k n s bk h r cc fr fc,es=tcs k n s bk h r cc fr fc:=⟨_,_,_,_,_,_,_,_,_,htt.symm⟩
 have B2:ρ w.heap.size w ((w.alloc (.cells tk0 156)).alloc (.cells (tcs k n s bk h r cc fr fc) 156)):=aC B1 _;have hc1:=hc _ B1;have hc2:=hc _ B2;have hf2:=hf _ B2;obtain⟨A,hA⟩:∃A,(if c=1 then some (⟨g,o,none⟩:y3) else some ⟨g,o+9,none⟩)=A:=⟨_,rfl⟩
 rw [hA] at hts;obtain⟨w3,hw3⟩:∃w3,((w.alloc (.cells tk0 156)).alloc (.cells (tcs k n s bk h r cc fr fc) 156)).setCell ⟨b,0,none⟩ (.slice A L.length (c - 1))=w3:=⟨_,rfl⟩
 have G3:((w.alloc (.cells tk0 156)).alloc (.cells (tcs k n s bk h r cc fr fc) 156)).grownBy w3 (some b):=by rw [<-hw3];exact Lib.grownBy_setCell _ _ _ _
 have H3a:w3.heap[w.heap.size]? =some (.cells tk0 156):=(G3.block _ (by simp;omega) (by intro e;have:=ψ e;omega)).trans ((ι _ _ _ (by simp)).trans (ζ w _));have H3b:w3.heap[w.heap.size+1]? =some (.cells (tcs k n s bk h r cc fr fc) 156):=(G3.block _ (by simp) (by intro e;have:=ψ e;omega)).trans (by
  have:=ζ (w.alloc (.cells tk0 156)) (.cells (tcs k n s bk h r cc fr fc) 156);simpa using this)
 have P3:PR W b L w3:=by
  refine ⟨X.tab, ?_,X.lo,fun x hx=>X.ok x (y9 _ hx),_, ?_,hts⟩
  ·rw [<-hw3];exact(aD X.bel B2).setCell X.lo _
  ·rw [<-hw3];have:((w.alloc (.cells tk0 156)).alloc (.cells (tcs k n s bk h r cc fr fc) 156)).heap[b]? =some (aJo (.slice (some ⟨g,o,none⟩) (L.length+1) c)):=(B2.block _ hb).trans hv;simp [World.setCell,Array.getElem?_modify,this]
 have RL3:U ((κ 156 (.pointer (some ⟨w.heap.size+1,0,none⟩))).run Z w3=.ok (.agg (tcs k n s bk h r cc fr fc)) w3):=lod H3b rfl Tryz.underlying156 nS;have RS3:U ((θ 156 (pt w.heap.size) (.agg (tcs k n s bk h r cc fr fc))).run Z w3=.ok () (w3.setRow w.heap.size (tcs k n s bk h r cc fr fc))):=sto H3a nS rfl (oU k n s bk h r cc fr fc);have S3:Sp W b L w w3:=⟨P3,aG (aG (ε _ _ _) (ε _ _ _)) G3⟩
 have HF:U (Sp W b L w (w3.setRow w.heap.size (tcs k n s bk h r cc fr fc))):=S3.grown (aK _ _ _) (υ _) hb;have HR:U ((w3.setRow w.heap.size (tcs k n s bk h r cc fr fc)).heap[w.heap.size]? =some (.cells (tcs k n s bk h r cc fr fc) 156)):=y6 _ _ _ _ _ _ H3a;rw [hE] at RL ⊢;clear hE hone hes htt S3 P3 H3a H3b G3 hts hv hs hcs hc hf X B1 B2;have hcl:L.length+1<=c:=hlc;have hci:(L.length:Int)+1<=c:=by omega
 go_enter Tryz.func236,Tryz.ntmps236;go_wp2_with (first|(refine aB rfl 156 _ rfl _ _ rfl RL.out ?_)|(refine aB rfl 156 _ rfl _ _ rfl RL3.out ?_)|(refine aA rfl 156 _ _ rfl _ _ _ rfl rfl RS3.out ?_))
 exact γ (results_cell_row rfl _ _ w.heap.size 156 _ (0,0) _ rfl HR.out Tryz.underlying156 rfl nS) rfl ⟨rfl,HF.out⟩
theorem iW {W w:V} {b:Nat} {L:List Tk.Tok} (X:PR W b L w) (hn:L.length<=256) (s:List UInt8) (h:aU L ≠ s):CW 311 #[pt b,.string (ba s)] w (.bool G):=by
 have O:=aEo X hn;have hne:((ba (aU L)).toList==(ba s).toList)=G:=by rw [z2,z2];simpa using h
 generalize ba (aU L)=A at *;generalize ba s=S at *;clear h X;go_enter Tryz.func311,Tryz.ntmps311;go_wp2_with (go_at_call 235;refine mw O ?_)
 go_ret;exact⟨rfl,rfl⟩
theorem fP {W w:V} {b:Nat} {L:List Tk.Tok} (X:PR W b L w) (hn:L.length<=256) (s:List UInt8) (hs:s ≠ []) (h:aU L=s):J Z 311 #[pt b,.string (ba s)] w fun e w'=>e=.returned (.bool δ)/\Sp W b L.tail w w':=by
 have O:=aEo X hn;obtain⟨h1,h2⟩:=bB (ts:=L) h hs;have TK:J Z 236 #[pt b] w fun e w'=>e=.returned (.agg (tk (Tk.Tok.op s)).cs)/\Sp W b L.tail w w':=by rw [h2] at X;exact take_cons X (by omega)
 rw [h] at O;generalize (tk (Tk.Tok.op s)).cs=es at *;generalize ba s=S at *;clear h h2 X h1;go_enter Tryz.func311,Tryz.ntmps311;go_wp2_with (first|(go_at_call 235;refine mw O ?_)|(go_at_call 236;refine TK.mono ?_;rintro e w1 ⟨rfl,hw⟩;have HS:U (Sp W b L.tail w w1):=hw;clear hw))
 go_ret;exact⟨rfl,HS.out⟩
theorem aFG {W w:V} {b:Nat} {L:List Tk.Tok} (X:PR W b L w) (hn:L.length<=256) (s:List UInt8) (h:aU L ≠ s):J Z 322 #[pt b,.string (ba s)] w fun e w'=>e=.panicked dK/\w'=w:=by
 have O:=iW X hn s h;generalize ba s=S at *;clear h X;go_enter Tryz.func322,Tryz.ntmps322;go_wp2_with (go_at_call 311;refine mw O ?_)
 exact⟨rfl,rfl,rfl⟩
theorem aC3 {W w:V} {b:Nat} {L:List Tk.Tok} (X:PR W b L w) (hn:L.length<=256) (s:List UInt8) (hs:s ≠ []) (h:aU L=s):J Z 322 #[pt b,.string (ba s)] w fun e w'=>e=.returned (.tuple #[])/\Sp W b L.tail w w':=by
 have O:=fP X hn s hs h;generalize ba s=S at *;clear h X;go_enter Tryz.func322,Tryz.ntmps322;go_wp2_with (go_at_call 311;refine O.mono ?_;rintro e w1 ⟨rfl,hw⟩;have HS:U (Sp W b L.tail w w1):=hw;clear hw)
 go_end0
 exact⟨rfl,HS.out⟩
theorem mI (w:V) (k:Int) (s:ByteArray) (p:Option y3) (n c:Nat):(y8 67 #[(0,.int .i64 k),(1,.string s),(5,.slice p n c)]).run Z w=.ok (.agg (lcs (bN k s) (.slice p n c))) w:=by kernel_rfl
theorem mJ (w:V) (k n:Int) (s:ByteArray):(y8 67 #[(0,.int .i64 1),(2,.agg #[.int .i64 k,.int .i64 n,.string s])]).run Z w=.ok (.agg (lcs (fQ k n s) (.slice none 0 0))) w:=by kernel_rfl
theorem pF (w:V) (a:Lab) (p:Option y3) (n c:Nat):(ν 65 1 #[(0,.agg (lcs a (.slice p n c)))]).run Z w=.ok (.slice (some ⟨w.heap.size,0,none⟩) 1 1) (w.alloc (.cells (lcs a (.slice p n c)) 67)):=by kernel_rfl
theorem aAE (w:V) (a a':Lab) (p p':Option y3) (n c n' c':Nat):(ν 65 2 #[(0,.agg (lcs a (.slice p n c))),(1,.agg (lcs a' (.slice p' n' c')))]).run Z w=.ok (.slice (some ⟨w.heap.size,0,none⟩) 2 2) (w.alloc (.cells (lcl a (.slice p n c)++lcl a' (.slice p' n' c')).toArray 67)):=by kernel_rfl
theorem aL {P:x4} {ops:Array y7} {rest:List y7} {o:y7} {a:Act} {w:V} {Q:Exit->Act->V->Prop} (hgd:o.guard=none) (ty:ξ) (xs:Array (Nat × z3)) (ho:o.op=.build ty xs)
  (ps:Array (Nat × α)) (v:α) (hx:(xs.map fun (i,x)=>(i,a.eval x))=ps) (hrun:(y8 ty ps).run P w=.ok v w) (h:x2 P ops Q rest (a.put o.dst v) w):x2 P ops Q (o:: rest) a w:=by
 refine x1 hgd fun K hK=> ?_;unfold Ω y0;simp only [ho,hx,Γ,ω,hrun,σ];exact hK _ _ h
theorem dQ {P:x4} {ops:Array y7} {rest:List y7} {o:y7} {a:Act} {w:V} {Q:Exit->Act->V->Prop} (hgd:o.guard=none) (ty:ξ) (len:Nat) (xs:Array (Nat × z3)) (ho:o.op=.buildSlice ty len xs)
  (ps:Array (Nat × α)) (v:α) (w':V) (hx:(xs.map fun (i,x)=>(i,a.eval x))=ps) (hrun:(ν ty len ps).run P w=.ok v w') (h:x2 P ops Q rest (a.put o.dst v) w'):x2 P ops Q (o:: rest) a w:=by
 refine x1 hgd fun K hK=> ?_;unfold Ω y0;simp only [ho,hx,Γ,ω,hrun,σ];exact hK _ _ h
theorem qV {u:V} {g:Nat} {zs:Array α} (hg:u.heap[g]? =some (.cells zs 67)) (hz:zs.size=18) (a:Lab) (p:Option y3) (n c:Nat):
  U ((θ 67 (pt g) (.agg (lcs a (.slice p n c)))).run Z u=.ok () (u.setRow g (lcs a (.slice p n c)))):=
 sto hg (by rw [fE];exact iO) hz (nC _ _ _ _)
theorem aZ {u:V} {g:Nat} {zs es:Array α} (hg:u.heap[g]? =some (.cells zs 67)) (he:es.size=18) {fn:Func} {i:Tmp} (hr:fn.results=#[.cell i 67]) {tmps:Array α} (hp:tmps.getD i undef=pt g):
  (results fn tmps).run Z (u.setRow g es)=.ok (.agg es) (u.setRow g es):=
 results_cell_row hr _ _ g 67 _ (0,0) _ hp (y6 _ _ _ _ _ _ hg) z7 rfl (by rw [he];exact iO)
def InK (K:Nat->Prop) (w:V):y3->F->Prop
 | _,.nil=>True
 | a,.node _ _ l f r=>(∃p n c,K a.block/\(∀j v,(lcl l (.slice p n c))[j]? =some v->w.cell? (a.add j)=some v)/\n=(kids f).length/\(f=.nil\/∃a',p=some a'/\InK K w a' f))/\InK K w (a.add 18) r
def NK (K:Nat->Prop) (w:V) (es:Array α) (t:T):Prop:=∃p n c,es=lcs t.1 (.slice p n c)/\n=(kids t.2).length/\(t.2=.nil\/∃a,p=some a/\InK K w a t.2)
theorem InK.inf {K:Nat->Prop}:∀{f:F} {w:V} {a:y3},InK K w a f->InF w a f:=by
 intro f;induction f with
 | nil=>intro w a _;trivial
 | node b o l f r ihf ihr=>
  intro w a h;obtain⟨⟨p,n,c,h0,h1,h2,h3⟩,h4⟩:=h;exact⟨⟨p,n,c,h1,h2,h3.imp id fun ⟨a',e,hi⟩=>⟨a',e,ihf hi⟩⟩,ihr h4⟩
theorem NK.nt {K:Nat->Prop} {w:V} {es:Array α} {t:T} (h:NK K w es t):NT w es t:=by obtain⟨p,n,c,e,h1,h2⟩:=h;exact⟨p,n,c,e,h1,h2.imp id fun ⟨a,e,hi⟩=>⟨a,e,hi.inf⟩⟩
theorem InK.mono {K K':Nat->Prop}:∀{f:F} {w:V} {a:y3},InK K w a f->(∀i,K i->i < w.heap.size->K' i)->InK K' w a f:=by
 intro f;induction f with
 | nil=>intro w a _ _;trivial
 | node b o l f r ihf ihr=>
  intro w a h hK;obtain⟨⟨p,n,c,h0,h1,h2,h3⟩,h4⟩:=h;have hlt:a.block < w.heap.size:=by
   have:=y4 w (a.add 0) (h1 0 _ rfl)
   rwa [show (a.add 0).block=a.block by unfold Addr.add;split <;> rfl] at this
  exact⟨⟨p,n,c,hK _ h0 hlt,h1,h2,h3.imp id fun ⟨a',e,hi⟩=>⟨a',e,ihf hi hK⟩⟩,ihr h4 hK⟩
theorem NK.mono {K K':Nat->Prop} {w:V} {es:Array α} {t:T} (h:NK K w es t) (hK:∀i,K i->i < w.heap.size->K' i):NK K' w es t:=by obtain⟨p,n,c,e,h1,h2⟩:=h;exact⟨p,n,c,e,h1,h2.imp id fun ⟨a,e,hi⟩=>⟨a,e,hi.mono hK⟩⟩
theorem InK.grown {K:Nat->Prop}:∀{f:F} {w w':V} {a:y3} {row:Option Nat},InK K w a f->w.grownBy w' row->(∀g,row=some g->¬K g)->InK K w' a f:=by
 intro f;induction f with
 | nil=>intro w w' a row _ _ _;trivial
 | node b o l f r ihf ihr=>
  intro w w' a row h hg hr;obtain⟨⟨p,n,c,h0,h1,h2,h3⟩,h4⟩:=h;have hc:∀j x,w.cell? (a.add j)=some x->w'.cell? (a.add j)=some x:=fun j x hx=>by have hlt:=y4 w _ hx;refine (World.cell?_of_block (hg.block _ hlt ?_)).trans hx;rw [show (a.add j).block=a.block by unfold Addr.add;split <;> rfl];intro e;exact hr _ e.symm h0
  exact⟨⟨p,n,c,h0,fun j x hj=>hc j x (h1 j x hj),h2,h3.imp id fun ⟨a',e,hi⟩=>⟨a',e,ihf hi hg hr⟩⟩,ihr h4 hg hr⟩
theorem NK.grown {K:Nat->Prop} {w w':V} {es:Array α} {t:T} {row:Option Nat} (h:NK K w es t) (hg:w.grownBy w' row) (hr:∀g,row=some g->¬K g):NK K w' es t:=by obtain⟨p,n,c,e,h1,h2⟩:=h;exact⟨p,n,c,e,h1,h2.imp id fun ⟨a,e,hi⟩=>⟨a,e,hi.grown hg hr⟩⟩
theorem NK.below {K:Nat->Prop} {w w':V} {es:Array α} {t:T} (h:NK K w es t) (hb:ρ w.heap.size w w'):NK K w' es t:=h.grown (bH (row:=none) hb) (fun g e=>by cases e)
theorem InK.row {K:Nat->Prop} {u:V} {g:Nat} (hK:K g):∀(l:List (Array α × T)) (o:Nat),(∀x ∈ l,NK K u x.1 x.2)->(∀j v,(l.flatMap (·.1.toList))[j]? =some v->u.cell? ⟨g,o+j,none⟩=some v)->InK K u ⟨g,o,none⟩ (mk (l.map (·.2)))
 | [],o,_,_=>trivial
 | x:: l,o,h1,h2=>by
  obtain⟨p,n,c,e,hs⟩:=h1 x (by simp);have hadd:∀k,(⟨g,o,none⟩:y3).add k=⟨g,o+k,none⟩:=fun k=>by unfold Addr.add;split <;> simp_all
  have hlen:x.1.toList.length=18:=by rw [e];rfl
  rw [Θ] at h2;refine ⟨⟨p,n,c,hK,fun j v hj=> ?_,hs.1,hs.2⟩, ?_⟩
  ·rw [hadd];refine h2 j v ?_;have hjl:j < x.1.toList.length:=by rw [hlen];exact(List.getElem?_eq_some_iff.1 hj).1
   rw [z8 hjl,e];exact hj
  ·rw [hadd];refine InK.row hK l (o+18) (fun y hy=>h1 y (by simp [hy])) (fun j v hj=> ?_);have:=h2 (18+j) v (by rw [z6 (by omega),hlen,Nat.add_sub_cancel_left];exact hj);rw [Nat.add_assoc];exact this
theorem NK.newAt {K:Nat->Prop} {u:V} {g:Nat} (hK:K g) {k:Int} {s:ByteArray} (l:List (Array α × T)) (h:∀x ∈ l,NK K u x.1 x.2) {es:Array α} {z:Nat × Nat} (hg:u.heap[g]? =some (.cells es 67 z)) {o:Nat} (he:∀j v,(l.flatMap (·.1.toList))[j]? =some v->es[o+j]? =some v) (c:Nat):
  NK K u (lcs (bN k s) (.slice (some ⟨g,o,none⟩) l.length c)) (tree (bN k s) (l.map (·.2))):=by
 refine ⟨_,_,_,rfl, ?_,.inr ⟨_,rfl,InK.row hK l o h (fun j v hj=> ?_)⟩⟩
 ·show l.length=(kids (mk (l.map (·.2)))).length;rw [sV,y5]
 ·rw [Φ _ _ _ es 67 z hg];exact he j v hj
theorem NK.leaf {K:Nat->Prop} {w:V} {a:Lab}:NK K w (lcs a (.slice none 0 0)) (tree a []):=⟨_,_,_,rfl,rfl,.inl rfl⟩
theorem NK.size {K:Nat->Prop} {w:V} {es:Array α} {t:T} (h:NK K w es t):es.size=18:=by obtain⟨p,n,c,e,_⟩:=h;rw [e];rfl
theorem NK.one {K:Nat->Prop} {w:V} {es:Array α} {t:T} (h:NK K w es t):es.all (·.oneCell')=δ:=by obtain⟨p,n,c,e,_⟩:=h;rw [e];exact nC _ _ _ _
theorem NK.sto {K:Nat->Prop} {w u:V} {es:Array α} {t:T} (h:NK K w es t) {g:Nat} {zs:Array α} (hg:u.heap[g]? =some (.cells zs 67)) (hz:zs.size=18):
  U ((θ 67 (pt g) (.agg es)).run Z u=.ok () (u.setRow g es)):=YtfedoljlipfhdaaGreatDoor.sto hg (by rw [h.size];exact iO) (by rw [h.size];exact hz) h.one
theorem NK.lod {K:Nat->Prop} {w u:V} {es:Array α} {t:T} (h:NK K w es t) {g:Nat} (hg:u.heap[g]? =some (.cells es 67)):
  U ((κ 67 (pt g)).run Z u=.ok (.agg es) u):=YtfedoljlipfhdaaGreatDoor.lod (z:=(0,0)) hg rfl z7 (by rw [h.size];exact iO)
theorem mK (k n:Int) (s:ByteArray) (w:V):CR 323 #[.agg #[.int .i64 k,.int .i64 n,.string s]] w (.agg (lcs (fQ k n s) (.slice none 0 0))):=by
 obtain⟨w2,hw2⟩:∃w2,(w.alloc (.cells #[.int .i64 k,.int .i64 n,.string s] 62)).alloc (.cells nd0 67)=w2:=⟨_,rfl⟩
 have H2:w2.heap[w.heap.size+1]? =some (.cells nd0 67):=by rw [<-hw2];have:=ζ (w.alloc (.cells #[.int .i64 k,.int .i64 n,.string s] 62)) (.cells nd0 67);simpa using this
 have H1:w2.heap[w.heap.size]? =some (.cells #[.int .i64 k,.int .i64 n,.string s] 62):=by rw [<-hw2];exact(ι _ _ _ (by simp)).trans (ζ w _)
 have HB:U (ρ w.heap.size w w2):=by show ρ _ _ _;rw [<-hw2];exact aC (aC (μ _ _) _) _
 have RL:U ((κ 62 (pt w.heap.size)).run Z w2=.ok (.agg #[.int .i64 k,.int .i64 n,.string s]) w2):=lod H1 rfl Tryz.underlying62 (by kernel_rfl);have RB:U _:=mJ w2 k n s;have RS:=qV H2 rfl (fQ k n s) none 0 0;have HR:U (w2.heap[w.heap.size+1]? =some (.cells nd0 67)):=H2;have HF:U (ρ w.heap.size w (w2.setRow (w.heap.size+1) (lcs (fQ k n s) (.slice none 0 0)))):=HB.out.grown (aK _ _ _) HB.out.size (fun j e=>by cases e;omega);clear H1 H2 HB;have hes:=fE (fQ k n s) (.slice none 0 0);go_enter Tryz.func323,Tryz.ntmps323;go_wp2_with (first|(refine aB rfl 62 _ rfl _ _ rfl RL.out ?_)|(refine aL rfl 67 _ rfl _ _ rfl RB.out ?_)|(refine aA rfl 67 _ _ rfl _ _ _ rfl rfl RS.out ?_))
 exact γ (aZ HR.out hes rfl rfl) rfl ⟨rfl,HF.out⟩
theorem bP {s x:List UInt8} (h:s ≠ x):((ba s).toList==x)=G:=by rw [z2];simpa using h
theorem yL (s:List UInt8):(s=[61]\/s=[60,62]\/s=[60]\/s=[60,61]\/s=[62]\/s=[62,61]\/s=[38]\/s=[43]\/s=[45]\/s=[42]\/s=[47]\/s=[94])\/
    (mH s=0/\s ≠ [61]/\s ≠ [60,62]/\s ≠ [60]/\s ≠ [60,61]/\s ≠ [62]/\s ≠ [62,61]/\s ≠ [38]/\s ≠ [43]/\s ≠ [45]/\s ≠ [42]/\s ≠ [47]/\s ≠ [94]):=by
  by_cases h:s=[61]\/s=[60,62]\/s=[60]\/s=[60,61]\/s=[62]\/s=[62,61]\/s=[38]\/s=[43]\/s=[45]\/s=[42]\/s=[47]\/s=[94]
  · exact .inl h
  · simp only [not_or] at h
    obtain⟨h1,h2,h3,h4,h5,h6,h7,h8,h9,h10,h11,h12⟩:=h;refine .inr ⟨?_,h1,h2,h3,h4,h5,h6,h7,h8,h9,h10,h11,h12⟩;unfold mH;simp [h1,h2,h3,h4,h5,h6,h7,h8,h9,h10,h11,h12]
theorem aBo (s:List UInt8) (w:V):CW 169 #[.string (ba s)] w (.int .i64 (mH s:Nat)):=by
  rcases yL s with h | ⟨h0,h1,h2,h3,h4,h5,h6,h7,h8,h9,h10,h11,h12⟩
  · rcases h with rfl | rfl | rfl | rfl | rfl | rfl | rfl | rfl | rfl | rfl | rfl | rfl <;>
      (go_enter Tryz.func169,Tryz.ntmps169
       go_wp2;go_ret;exact⟨rfl,rfl⟩)
  · rw [h0]
    have k1:=bP h1;have k2:=bP h2;have k3:=bP h3;have k4:=bP h4;have k5:=bP h5;have k6:=bP h6;have k7:=bP h7;have k8:=bP h8;have k9:=bP h9;have k10:=bP h10;have k11:=bP h11;have k12:=bP h12;clear h0 h1 h2 h3 h4 h5 h6 h7 h8 h9 h10 h11 h12;generalize ba s=S at *;go_enter Tryz.func169,Tryz.ntmps169;go_wp2;go_ret;exact⟨rfl,rfl⟩
theorem aAF (s:List UInt8) {w:V} {K:Nat->Prop} {es:Array α} {t:T} (h:NK K w es t):J Z 312 #[.string (ba s),.agg es] w fun e w'=>∃fs,e=.returned (.agg fs)/\NK (fun i=>K i\/w.heap.size<=i) w' fs (unT s t)/\ρ w.heap.size w w':=by
 obtain⟨w2,hw2⟩:∃w2,(w.alloc (.cells es 67)).alloc (.cells nd0 67)=w2:=⟨_,rfl⟩
 have H2:w2.heap[w.heap.size+1]? =some (.cells nd0 67):=by rw [<-hw2];have:=ζ (w.alloc (.cells es 67)) (.cells nd0 67);simpa using this
 have H1:w2.heap[w.heap.size]? =some (.cells es 67):=by rw [<-hw2];exact(ι _ _ _ (by simp)).trans (ζ w _)
 have hz:w2.heap.size=w.heap.size+2:=by rw [<-hw2];simp
 have HB:ρ w.heap.size w w2:=by rw [<-hw2];exact aC (aC (μ _ _) _) _
 have hes:es.size=18:=by obtain⟨p,n,c,e,_⟩:=h;rw [e];rfl
 have RL:U ((κ 67 (pt w.heap.size)).run Z w2=.ok (.agg es) w2):=lod H1 rfl z7 (by rw [hes];exact iO);have RC:U ((ν 65 1 #[(0,.agg es)]).run Z w2=.ok (.slice (some ⟨w.heap.size+2,0,none⟩) 1 1) (w2.alloc (.cells es 67))):=by obtain⟨p,n,c,e,_⟩:=h;show _=_;rw [e,pF,hz]
 have H3:(w2.alloc (.cells es 67)).heap[w.heap.size+1]? =some (.cells nd0 67):=(ι _ _ _ (by omega)).trans H2;have RS:=qV H3 rfl (bN 5 (ba s)) (some ⟨w.heap.size+2,0,none⟩) 1 1;have HR:U ((w2.alloc (.cells es 67)).heap[w.heap.size+1]? =some (.cells nd0 67)):=H3;have HB3:ρ w.heap.size w (w2.alloc (.cells es 67)):=aC HB _;have HF:U (ρ w.heap.size w ((w2.alloc (.cells es 67)).setRow (w.heap.size+1) (lcs (bN 5 (ba s)) (.slice (some ⟨w.heap.size+2,0,none⟩) 1 1)))):=HB3.grown (aK _ _ _) HB3.size (fun j e=>by cases e;omega);have HN:U (NK (fun i=>K i\/w.heap.size<=i) ((w2.alloc (.cells es 67)).setRow (w.heap.size+1) (lcs (bN 5 (ba s)) (.slice (some ⟨w.heap.size+2,0,none⟩) 1 1))) (lcs (bN 5 (ba s)) (.slice (some ⟨w.heap.size+2,0,none⟩) 1 1)) (unT s t)):=by
  refine NK.newAt (.inr (by omega)) (k:=5) (s:=ba s) [(es,t)] (fun x hx=> ?_) (g:=w.heap.size+2) (es:=es) (z:=(0,0)) (o:=0) ?_ (fun j v hj=>by simpa using hj) 1
  ·simp only [z5,Ψ,or_false] at hx;subst hx;exact(h.below HF.out).mono (fun i hi _=> .inl hi)
  ·refine ((aK _ _ _).block _ (by simp [hz]) (by simp)).trans ?_;have:=ζ w2 (.cells es 67);rw [hz] at this;exact this
 have RB:U _:=mI (w2.alloc (.cells es 67)) 5 (ba s) (some ⟨w.heap.size+2,0,none⟩) 1 1;have hfs:=fE (bN 5 (ba s)) (.slice (some ⟨w.heap.size+2,0,none⟩) 1 1);clear H1 H2 HB h H3 HB3;go_enter Tryz.func312,Tryz.ntmps312;go_wp2_with (first|(refine aB rfl 67 _ rfl _ _ rfl RL.out ?_)|(refine dQ rfl 65 1 _ rfl _ _ _ (by go_simp) RC.out ?_)|(refine aL rfl 67 _ rfl _ _ (by go_simp) RB.out ?_)|(refine aA rfl 67 _ _ rfl _ _ _ rfl rfl RS.out ?_))
 exact γ (aZ HR.out hfs rfl rfl) rfl ⟨_,rfl,HN.out,HF.out⟩
def upF (l:List UInt8):List UInt8:=szF 97 65 l
def trF (s:List UInt8):Option Int:=if (jQ (ba s)).2=δ then some (if (jQ (ba s)).1=δ then 1 else 0) else none
def PP (lv:Nat) (ts:List Tk.Tok):Option (T × List Tk.Tok):=ps upF trF lv ts
def PO (W:V) (b:Nat) (w:V) (o:Option (T × List Tk.Tok)) (e:x9) (w':V):Prop:=
 match o with
 | none=>e=.panicked dK/\w.grownBy w' (some b)
 | some p=>∃es,e=.returned (.agg es)/\NK (fun i=>w.heap.size<=i) w' es p.1/\Sp W b p.2 w w'
def nM (b:Nat) (w:V):Nat:=match w.heap[b]? with
 | some (.cells cs _ _)=>(match (cs[0]? :Option α) with
  | some (.slice _ n _)=>n
  | _=>0)
 | _=>0
theorem PR.left {W w:V} {b:Nat} {L:List Tk.Tok} (h:PR W b L w):nM b w=L.length:=by obtain⟨v,h1,h2⟩:=h.blk;obtain⟨a,c,rfl⟩:=h2.slice;unfold nM;rw [h1];simp
theorem aFH {part:Part} {lv:Nat} {n:T} {r:List Tk.Tok} (h:mH (aU r) ≠ lv) (k:Nat):eG part lv k n r=some (n,r):=by
 cases k with
 | zero=>rfl
 | succ k=>unfold eG;rw [if_neg h]
theorem aC4 {lv:Nat} (h1:1<=lv) {n:T} {r:List Tk.Tok} (h:mH (aU r)=lv):eG (PP (lv+1)) lv r.length n r=(PP (lv+1) r.tail).bind fun p=>eG (PP (lv+1)) lv p.2.length (yG (aU r) n p.1) p.2:=by
 have h2:=(bB (ts:=r) rfl (mY (by omega))).1;rw [<-h2]
 conv=>lhs;unfold eG
 rw [if_pos h];cases hq:PP (lv+1) r.tail with
 | none=>rfl
 | some p=>
  simp only [Option.bind_some];have h3:=jC upF trF (by omega) _ p.1 p.2 hq;exact uS (by omega) (jC upF trF (by omega)) _ _ _ _ (by omega) (υ _)
theorem aPx (W:V) (k n:Int) (s b h:ByteArray) (r c:Int) (fr fc:Bool):(Instr.field 156 (.agg (tcs k n s b h r c fr fc)) 2).run Z W=.ok (.string s) W:=by kernel_rfl
theorem aJq {W:V} {b:Nat} {lv pf:Nat} (hE:∀args u,(φ pf args).run Z u=.ok (.enter pf args) u) {w:V} (hb:b < w.heap.size)
  (C:J Z pf #[pt b] (w.alloc (.cells nd0 67)) fun e w'=>e=.panicked dK/\(w.alloc (.cells nd0 67)).grownBy w' (some b)):
  J Z 196 #[pt b,.int .i64 (lv:Nat),.func (.func pf) #[] #[]] w fun e w'=>e=.panicked dK/\w.grownBy w' (some b):=by
 go_enter Tryz.func196,Tryz.ntmps196;go_wp2_with (go_at_fn pf;refine C.mono ?_;rintro e w1 ⟨rfl,hg⟩)
 exact⟨rfl,rfl,aG (ε _ _ _) hg⟩
section
variable {P:x4} {o:y7} {a:Act} {w w':V} {K:Act->V->Prop} {Q:Exit->Act->V->Prop}
theorem aBp (d:Option Tmp) (hd:o.dst=d) (ty:ξ) (xs:Array (Nat × z3)) (ho:o.op=.build ty xs) (ps:Array (Nat × α)) (v:α) (hx:(xs.map fun (i,x)=>(i,a.eval x))=ps) (hrun:(y8 ty ps).run P w=.ok v w) (h:K (a.put d v) w):Ω P o a w K Q:=by subst hd;unfold Ω y0;simp only [ho,hx,Γ,ω,hrun,σ];exact h
theorem qB (d:Option Tmp) (hd:o.dst=d) (ty:ξ) (len:Nat) (xs:Array (Nat × z3)) (ho:o.op=.buildSlice ty len xs) (ps:Array (Nat × α)) (v:α) (hx:(xs.map fun (i,x)=>(i,a.eval x))=ps) (hrun:(ν ty len ps).run P w=.ok v w') (h:K (a.put d v) w'):Ω P o a w K Q:=by subst hd;unfold Ω y0;simp only [ho,hx,Γ,ω,hrun,σ];exact h
theorem kK (d:Option Tmp) (hd:o.dst=d) (ty:ξ) (x y:z3) (ho:o.op=.store ty x y) (p v:α) (hx:a.eval x=p) (hy:a.eval y=v) (hrun:(θ ty p v).run P w=.ok () w') (h:K (a.put d undef) w'):Ω P o a w K Q:=by subst hd;unfold Ω y0;simp only [ho,hx,hy,Γ,ω,hrun,σ];exact h
end
theorem aGM {K K':Nat->Prop} {w w1 u:V} {es es2:Array α} {t t2:T} (h:NK K w es t) (h2:NK K' w1 es2 t2):(ν 65 2 #[(0,.agg es),(1,.agg es2)]).run Z u=.ok (.slice (some ⟨u.heap.size,0,none⟩) 2 2) (u.alloc (.cells (es.toList++es2.toList).toArray 67)):=by obtain⟨p,n,c,rfl,_⟩:=h;obtain⟨p',n',c',rfl,_⟩:=h2;exact aAE u _ _ _ _ _ _ _ _
theorem aJr {W:V} {b:Nat} {lv pf:Nat} (h1:1<=lv) (h5:lv<=5) (hE:∀args u,(φ pf args).run Z u=.ok (.enter pf args) u) {n0:T} {r0:List Tk.Tok} (hn:r0.length<=256)
  (C:∀ts' u,ts'.length<=r0.length->PR W b ts' u->J Z pf #[pt b] u (PO W b u (PP (lv+1) ts'))) {w:V} (hb:b < w.heap.size)
  (C0:J Z pf #[pt b] (w.alloc (.cells nd0 67)) fun e w'=>∃es,e=.returned (.agg es)/\NK (fun i=>(w.alloc (.cells nd0 67)).heap.size<=i) w' es n0/\Sp W b r0 (w.alloc (.cells nd0 67)) w'):
  J Z 196 #[pt b,.int .i64 (lv:Nat),.func (.func pf) #[] #[]] w (PO W b w (eG (PP (lv+1)) lv r0.length n0 r0)):=by
 have C0':J Z pf #[pt b] (w.alloc (.cells nd0 67)) fun e w1=>∃es,e=.returned (.agg es)/\
   U ((θ 67 (pt w1.heap.size) (.agg es)).run Z (w1.alloc (.cells nd0 67))=.ok () (w1.alloc (.cells es 67)))/\U (NK (fun i=>w.heap.size < i/\i ≠ w1.heap.size) (w1.alloc (.cells es 67)) es n0)/\U (Sp W b r0 w (w1.alloc (.cells es 67)))/\
   U ((w1.alloc (.cells es 67)).heap[w.heap.size]? =some (.cells nd0 67))/\U ((w1.alloc (.cells es 67)).heap[w1.heap.size]? =some (.cells es 67))/\U (w.heap.size < w1.heap.size):=by
  refine C0.mono ?_;rintro e w1 ⟨es,rfl,h1,h2⟩;have hlt:w.heap.size < w1.heap.size:=by have:=h2.2.size;simp at this;omega
  refine ⟨es,rfl,(aCS w1 h1.nt).1, ?_,h2.dW.alloc _, ?_,ζ _ _,hlt⟩
  ·have:=h1.below (aC (μ _ _) (.cells es 67));refine NK.below (K:=fun i=>w.heap.size < i/\i ≠ w1.heap.size) (h1.mono (fun i hi hl=> ?_)) (aC (μ _ _) (.cells es 67));simp at hi;exact⟨by omega,by omega⟩
  ·exact (ι _ _ _ hlt).trans (h2.kept (ζ w _) (by omega))
 clear C0;generalize ho:eG (PP (lv+1)) lv r0.length n0 r0=o;have HO:U (eG (PP (lv+1)) lv r0.length n0 r0=o):=ho;have HC:U (∀ts' u,ts'.length<=r0.length->PR W b ts' u->J Z pf #[pt b] u (PO W b u (PP (lv+1) ts'))):=C;clear ho C;go_enter Tryz.func196,Tryz.ntmps196;go_wp2_with (first|(go_at_fn pf;refine C0'.mono ?_;rintro e w1 ⟨es0,rfl,RS0,HN0,HS0,HG0,HG7,HLT⟩)|(refine aA rfl 67 _ _ rfl _ _ _ rfl rfl RS0.out ?_))
 clear C0';try simp only [Act.put,η,ο,π]
 generalize hg7:w1.heap.size=g7 at *;clear hg7;go_loopw [8] (fun _ wr=>∃(nT:T) (r:List Tk.Tok) (es:Array α),U (eG (PP (lv+1)) lv r.length nT r=o)/\r.length<=r0.length/\U (wr.heap[g7]? =some (.cells es 67))/\U (NK (fun i=>w.heap.size < i/\i ≠ g7) wr es nT)/\U (Sp W b r w wr)/\U (wr.heap[w.heap.size]? =some (.cells nd0 67))) (fun _ wr=>nM b wr)
 case atStart=>exact⟨n0,r0,es0,HO,υ _,HG7,HN0,HS0,HG0⟩
 case round=>
  obtain⟨nT,r,es,HL,hr,H7,HN,HS,H0⟩:=hrel;clear HO HG7 HN0 HS0 HG0 RS0;have OP:=aEo HS.out.1 (by omega);have ST:=fun u=>aBo (aU r) u;have hleft:=HS.out.1.left;by_cases hq:mH (aU r)=lv
  ·have hne:=mY (s:=aU r) (by omega);obtain⟨hrt,hrc⟩:=bB (ts:=r) rfl hne;have HQ:U (o=(PP (lv+1) r.tail).bind fun p=>eG (PP (lv+1)) lv p.2.length (yG (aU r) nT p.1) p.2):=by show _=_;rw [<-HL.out];exact aC4 h1 hq
   have TK:J Z 236 #[pt b] wr fun e w'=>e=.returned (.agg (tcs 5 0 (ba (aU r)) noB noB 0 0 G G))/\Sp W b r.tail wr w':=by have X:=HS.out.1;rw [hrc] at X;exact take_cons X (by omega)
   have hqi:(((mH (aU r):Nat):Int)==((lv:Nat):Int))=δ:=by simp [hq]
   have aPy:g7 < wr.heap.size:=bA H7.out;have aPz:r.tail.length < r.length:=by omega
   have FL:=fun u=>aPx u 5 0 (ba (aU r)) noB noB 0 0 G G;clear HL hq hrc;generalize hrr:r.tail=r' at *;generalize mH (aU r)=sv at *;generalize hss:aU r=sg at *;clear hrr hss;go_wp2_with (first|(go_at_call 235;refine mw OP ?_)|(go_at_call 169;refine mw (ST _) ?_)|(go_at_call 236;refine TK.mono ?_;rintro e w2 ⟨rfl,hw⟩;have HS2:U (Sp W b r' wr w2):=hw;clear hw TK))
   have H72:w2.heap[g7]? =some (.cells es 67):=HS2.out.kept H7.out (by have:=HLT.out;omega);have H02:w2.heap[w.heap.size]? =some (.cells nd0 67):=HS2.out.kept H0.out (by omega);have hz2:wr.heap.size<=w2.heap.size:=HS2.out.2.size;have C1:=HC.out r' w2.drew (by omega) HS2.out.1.drew;have RLS:U ((κ 67 (pt g7)).run Z w2.drew=.ok (.agg es) w2.drew):=HN.out.lod (u:=w2.drew) H72;have K1:∀i,(fun i=>w.heap.size < i/\i ≠ g7) i->i ≠ b:=fun i hi e=>by have:=hi.1;omega
   have HN2:U (NK (fun i=>w.heap.size < i/\i ≠ g7) w2.drew es nT):=(HN.out.grown HS2.out.2 (fun g e hk=>by cases e;exact K1 _ hk rfl)).below (μ _ _).drew;cases hP:PP (lv+1) r' with
   | none=>
    rw [hP] at C1 HQ;have HQ2:U (o=none):=HQ.out;have C1':J Z pf #[pt b] w2.drew fun e w'=>e=.panicked dK/\w2.drew.grownBy w' (some b):=C1;clear C1 HQ;refine aO (fun u=>(κ 67 (pt g7)).run Z u=.ok (.agg es) u) (fun j=>j==7) (by kernel_rfl) ?_;refine dwp 0 (.string (ba sg)) ?_;refine dwl 1 (.agg es) ?_ (hS:=RLS.out) (hy:=(fun u hSu=>lU rfl rfl hSu));refine dwp 2 (.func (.func pf) #[] #[]) ?_;refine dwp 3 (pt b) ?_;refine aH (i:=4) (by kernel_rfl) rfl ?_;intro K hK;go_simp;refine C1'.mono ?_;rintro e w3 ⟨rfl,hg3⟩;refine ⟨rfl, ?_⟩;rw [HQ2.out];exact⟨rfl,aG HS.out.2 (aG HS2.out.2 (aG (bH (μ _ _).drew) hg3))⟩
   | some p=>
    obtain⟨m,r2⟩:=p;have hr2:=jC upF trF (by omega) _ m r2 hP;rw [hP] at C1 HQ;have HQ2:U (eG (PP (lv+1)) lv r2.length (yG sg nT m) r2=o):=HQ.out.symm;have C1':J Z pf #[pt b] w2.drew fun e w3=>∃es2,e=.returned (.agg es2)/\U (Sp W b r2 w2.drew w3)/\U (NK (fun i=>w2.drew.heap.size<=i) w3 es2 m)/\
      U ((ν 65 2 #[(0,.agg es),(1,.agg es2)]).run Z w3=.ok (.slice (some ⟨w3.heap.size,0,none⟩) 2 2) (w3.alloc (.cells (es.toList++es2.toList).toArray 67))):=C1.mono (by
     rintro e w3 ⟨es2,rfl,h1,h2⟩;exact⟨es2,rfl,h2,h1,aGM HN.out h1⟩)
    clear C1 HQ hP;refine aO (fun u=>(κ 67 (pt g7)).run Z u=.ok (.agg es) u) (fun j=>j==7) (by kernel_rfl) ?_;refine dwp 0 (.string (ba sg)) ?_;refine dwl 1 (.agg es) ?_ (hS:=RLS.out) (hy:=(fun u hSu=>lU rfl rfl hSu));refine dwp 2 (.func (.func pf) #[] #[]) ?_;refine dwp 3 (pt b) ?_;refine aH (i:=4) (by kernel_rfl) rfl ?_;intro K hK;go_simp;refine C1'.mono ?_;rintro e w3 ⟨es2,rfl,HS3,HM,RC⟩;have H73:w3.heap[g7]? =some (.cells es 67):=HS3.out.kept (w:=w2.drew) H72 (by have:=HLT.out;omega);have H03:w3.heap[w.heap.size]? =some (.cells nd0 67):=HS3.out.kept (w:=w2.drew) H02 (by omega);have hz3:w2.heap.size<=w3.heap.size:=HS3.out.2.size;have RL3:U ((κ 67 (pt g7)).run Z w3=.ok (.agg es) w3):=HN.out.lod H73;refine hK _ _ (.inr fun _=>RL3.out) ?_;clear hK C1';try simp only [Act.put,η,ο,π]
    obtain⟨w4,hw4⟩:∃w4,w3.alloc (.cells (es.toList++es2.toList).toArray 67)=w4:=⟨_,rfl⟩
    rw [hw4] at RC;have H74:w4.heap[g7]? =some (.cells es 67):=by rw [<-hw4];exact(ι _ _ _ (bA H73)).trans H73
    have H04:w4.heap[w.heap.size]? =some (.cells nd0 67):=by rw [<-hw4];exact(ι _ _ _ (bA H03)).trans H03
    have H4:w4.heap[w3.heap.size]? =some (.cells (es.toList++es2.toList).toArray 67):=by rw [<-hw4];exact ζ _ _
    have hz4:w4.heap.size=w3.heap.size+1:=by rw [<-hw4];simp
    have B4:ρ w3.heap.size w3 w4:=by rw [<-hw4];exact aC (μ _ _) _
    have RL4:U ((κ 67 (pt g7)).run Z w4=.ok (.agg es) w4):=HN.out.lod H74;have RB:=mI w4 6 (ba sg) (some ⟨w3.heap.size,0,none⟩) 2 2;have RS:=qV H74 HN.out.size (bN 6 (ba sg)) (some ⟨w3.heap.size,0,none⟩) 2 2;generalize hfs:lcs (bN 6 (ba sg)) (.slice (some ⟨w3.heap.size,0,none⟩) 2 2)=fs at *;have G5:=aK w4 g7 fs;have K4:∀g,(some g7:Option Nat)=some g->¬(fun i=>w.heap.size < i/\i ≠ g7) g:=fun g e hk=>by cases e;exact hk.2 rfl
    have HA:NK (fun i=>w.heap.size < i/\i ≠ g7) (w4.setRow g7 fs) es nT:=(((HN2.out.grown HS3.out.2 (fun g e hk=>by cases e;exact K1 _ hk rfl)).below B4).grown G5 K4)
    have HBm:NK (fun i=>w.heap.size < i/\i ≠ g7) (w4.setRow g7 fs) es2 m:=((HM.out.mono (K':=fun i=>w.heap.size < i/\i ≠ g7) (fun i hi _=>by
     have hi':w2.heap.size<=i:=hi;have:=HLT.out;exact⟨by omega,by omega⟩)).below B4).grown G5 K4
    have HN5:U (NK (fun i=>w.heap.size < i/\i ≠ g7) (w4.setRow g7 fs) fs (yG sg nT m)):=by
     have:=HLT.out;rw [<-hfs] at HA HBm ⊢;refine NK.newAt (g:=w3.heap.size) ⟨by omega,by omega⟩ (k:=6) (s:=ba sg) [(es,nT),(es2,m)] (fun x hx=> ?_) (es:=(es.toList++es2.toList).toArray) (z:=(0,0)) (o:=0) (((aK w4 g7 _).block _ (by omega) (by intro e;have:=ψ e;omega)).trans H4) (fun j v hj=>by simpa using hj) 2;simp only [z5,Ψ,or_false] at hx;rcases hx with rfl | rfl
     ·exact HA
     ·exact HBm
    have aP8:fs.size=18:=by rw [<-hfs];rfl
    have H75:U ((w4.setRow g7 fs).heap[g7]? =some (.cells fs 67)):=y6 _ _ _ _ _ _ H74;have H05:U ((w4.setRow g7 fs).heap[w.heap.size]? =some (.cells nd0 67)):=(G5.block _ (bA H04) (by intro e;have:=ψ e;have:=HLT.out;omega)).trans H04;have HS5:U (Sp W b r2 w (w4.setRow g7 fs)):=by
     have s1:Sp W b r2 wr w3:=⟨HS3.out.1,aG HS2.out.2 (aG (bH (μ _ _).drew) HS3.out.2)⟩
     exact((HS.out.step s1).bel B4).grown G5 (by have:=HLT.out;omega) hb
    clear HA HBm G5 K4 hfs;refine aH (i:=5) (by kernel_rfl) rfl ?_;intro K hK;rw [if_pos (by go_simp)];refine qB (some 25) rfl 65 2 _ rfl _ _ (by go_simp) RC.out (hK _ _ (.inr fun _=>RL4.out) ?_);clear hK;try simp only [Act.put,η,ο,π]
    refine aH (i:=6) (by kernel_rfl) rfl ?_;intro K hK;rw [if_pos (by go_simp)];refine aBp (some 26) rfl 67 _ rfl _ _ (by go_simp) RB (hK _ _ (.inr id) ?_);clear hK;try simp only [Act.put,η,ο,π]
    refine aH (i:=7) (by kernel_rfl) rfl ?_;intro K hK;rw [if_pos (by go_simp)];refine kK none rfl 67 _ _ rfl _ _ rfl rfl RS.out (hK _ _ (.inl rfl) ?_);clear hK;try simp only [Act.put,η,ο,π]
    refine aM (by kernel_rfl) ?_ _;go_wp2;go_roundw
    case rel=>exact⟨yG sg nT m,r2,fs,HQ2,by omega,H75,HN5,HS5,H05⟩
    case measure=>rw [HS5.out.1.left,hleft];omega
  ·have HQ:U (o=some (nT,r)):=by show _=_;rw [<-HL.out];exact aFH hq _
   have hqi:(((mH (aU r):Nat):Int)==((lv:Nat):Int))=G:=by simp;omega
   generalize mH (aU r)=sv at *;generalize ba (aU r)=A at *;have RL:=HN.out.lod H7.out;have RS:=HN.out.sto H0.out rfl;have HF:U (Sp W b r w (wr.setRow w.heap.size es)):=HS.out.grown (aK _ _ _) (υ _) hb;have HNF:U (NK (fun i=>w.heap.size<=i) (wr.setRow w.heap.size es) es nT):=(HN.out.grown (aK _ _ _) (fun g e hk=>by cases e;have:=hk.1;omega)).mono (fun i hi _=>by have:=hi.1;omega);have hes:=HN.out.size;clear hq HL hleft;go_wp2_with (first|(go_at_call 235;refine mw OP ?_)|(go_at_call 169;refine mw (ST _) ?_)|(refine aB rfl 67 _ rfl _ _ rfl RL.out ?_)|(refine aA rfl 67 _ _ rfl _ _ _ rfl rfl RS.out ?_))
   refine γ (aZ H0.out hes rfl rfl) rfl ?_;rw [HQ.out];exact⟨es,rfl,HNF.out,HF.out⟩
theorem gF {W w w1:V} {b:Nat} {es:Array α} {t:T} {r:List Tk.Tok} (hb:b < w.heap.size) (h1:NK (fun i=>w.heap.size < i) w1 es t) (h2:Sp W b r (w.alloc (.cells nd0 67)) w1):
  U ((θ 67 (pt w.heap.size) (.agg es)).run Z w1=.ok () (w1.setRow w.heap.size es))/\U (w1.heap[w.heap.size]? =some (.cells nd0 67))/\U (es.size=18)/\
  U (NK (fun i=>w.heap.size<=i) (w1.setRow w.heap.size es) es t/\Sp W b r w (w1.setRow w.heap.size es)):=by
 have hg:=h2.kept (ζ w _) (by omega);exact⟨h1.sto hg rfl,hg,h1.size,(h1.grown (aK _ _ _) (fun g e hk=>by cases e;exact Nat.lt_irrefl _ hk)).mono (fun i hi _=>Nat.le_of_lt hi),(h2.dW).grown (aK _ _ _) (υ _) hb⟩
theorem qW {w w1:V} {es:Array α} {t:T} (h:NK (fun i=>(w.alloc (.cells nd0 67)).heap.size<=i) w1 es t):NK (fun i=>w.heap.size < i) w1 es t:=
 h.mono (fun i hi _=>by simp at hi;omega)
theorem tF {W:V} {b:Nat} {lv pf:Nat} (h1:1<=lv) (h5:lv<=5) (hE:∀args u,(φ pf args).run Z u=.ok (.enter pf args) u) {ts:List Tk.Tok} (hn:ts.length<=256)
  (C:∀ts' u,ts'.length<=ts.length->PR W b ts' u->J Z pf #[pt b] u (PO W b u (PP (lv+1) ts'))) {w:V} (X:PR W b ts w):
  J Z 196 #[pt b,.int .i64 (lv:Nat),.func (.func pf) #[] #[]] w (PO W b w (PP lv ts)):=by
 have C0:=C ts (w.alloc (.cells nd0 67)) (υ _) (X.alloc _);have e:PP lv ts=(PP (lv+1) ts).bind fun p=>eG (PP (lv+1)) lv p.2.length p.1 p.2:=aI5 upF trF h1 h5 ts;rw [e];cases hP:PP (lv+1) ts with
 | none=>
  rw [hP] at C0;exact aJq (W:=W) hE X.lt C0
 | some p=>
  rw [hP] at C0;have:=jC upF trF (by omega) _ p.1 p.2 hP;exact aJr h1 h5 hE (by omega) (fun ts' u hl hx=>C ts' u (by omega) hx) X.lt C0
theorem e82:∀args u,(φ 197 args).run Z u=.ok (.enter 197 args) u:=τ Tryz.func197 (by kernel_rfl) rfl
theorem aLD {W:V} {b:Nat} {ts:List Tk.Tok} (hn:ts.length<=256) (C:∀ts' u,ts'.length<=ts.length->PR W b ts' u->J Z 197 #[pt b] u (PO W b u (PP 2 ts'))) {w:V} (X:PR W b ts w):
  J Z 152 #[pt b] w (PO W b w (PP 1 ts)):=by
 have R:=tF (lv:=1) (by decide) (by decide) e82 hn C (X.alloc (.cells nd0 67));have hb:=X.lt;clear C X;cases hP:PP 1 ts with
 | none=>
  rw [hP] at R;have R':J Z 196 #[pt b,.int .i64 1,.func (.func 197) #[] #[]] (w.alloc (.cells nd0 67)) fun e w'=>e=.panicked dK/\(w.alloc (.cells nd0 67)).grownBy w' (some b):=R;clear R hP;go_enter Tryz.func152,Tryz.ntmps152;go_wp2_with (go_at_call 196;refine R'.mono ?_;rintro e w1 ⟨rfl,hg⟩)
  exact⟨rfl,rfl,aG (ε _ _ _) hg⟩
 | some p=>
  rw [hP] at R;have R':J Z 196 #[pt b,.int .i64 1,.func (.func 197) #[] #[]] (w.alloc (.cells nd0 67)) fun e w1=>∃es,e=.returned (.agg es)/\U ((θ 67 (pt w.heap.size) (.agg es)).run Z w1=.ok () (w1.setRow w.heap.size es))/\U (w1.heap[w.heap.size]? =some (.cells nd0 67))/\U (es.size=18)/\
    U (NK (fun i=>w.heap.size<=i) (w1.setRow w.heap.size es) es p.1/\Sp W b p.2 w (w1.setRow w.heap.size es)):=R.mono (by
   rintro e w1 ⟨es,rfl,h1,h2⟩;exact⟨es,rfl,gF hb (qW h1) h2⟩)
  clear R hP;go_enter Tryz.func152,Tryz.ntmps152;go_wp2_with (first|(go_at_call 196;refine R'.mono ?_;rintro e w1 ⟨es,rfl,RS,HG,HZ,HF⟩)|(refine aA rfl 67 _ _ rfl _ _ _ rfl rfl RS.out ?_))
  exact γ (aZ HG.out HZ.out rfl rfl) rfl ⟨es,rfl,HF.out.1,HF.out.2⟩
theorem e125:∀args u,(φ 237 args).run Z u=.ok (.enter 237 args) u:=τ Tryz.func237 (by kernel_rfl) rfl
theorem aLE {W:V} {b:Nat} {ts:List Tk.Tok} (hn:ts.length<=256) (C:∀ts' u,ts'.length<=ts.length->PR W b ts' u->J Z 237 #[pt b] u (PO W b u (PP 3 ts'))) {w:V} (X:PR W b ts w):
  J Z 197 #[pt b] w (PO W b w (PP 2 ts)):=by
 have R:=tF (lv:=2) (by decide) (by decide) e125 hn C (X.alloc (.cells nd0 67));have hb:=X.lt;clear C X;cases hP:PP 2 ts with
 | none=>
  rw [hP] at R;have R':J Z 196 #[pt b,.int .i64 2,.func (.func 237) #[] #[]] (w.alloc (.cells nd0 67)) fun e w'=>e=.panicked dK/\(w.alloc (.cells nd0 67)).grownBy w' (some b):=R;clear R hP;go_enter Tryz.func197,Tryz.ntmps197;go_wp2_with (go_at_call 196;refine R'.mono ?_;rintro e w1 ⟨rfl,hg⟩)
  exact⟨rfl,rfl,aG (ε _ _ _) hg⟩
 | some p=>
  rw [hP] at R;have R':J Z 196 #[pt b,.int .i64 2,.func (.func 237) #[] #[]] (w.alloc (.cells nd0 67)) fun e w1=>∃es,e=.returned (.agg es)/\U ((θ 67 (pt w.heap.size) (.agg es)).run Z w1=.ok () (w1.setRow w.heap.size es))/\U (w1.heap[w.heap.size]? =some (.cells nd0 67))/\U (es.size=18)/\
    U (NK (fun i=>w.heap.size<=i) (w1.setRow w.heap.size es) es p.1/\Sp W b p.2 w (w1.setRow w.heap.size es)):=R.mono (by
   rintro e w1 ⟨es,rfl,h1,h2⟩;exact⟨es,rfl,gF hb (qW h1) h2⟩)
  clear R hP;go_enter Tryz.func197,Tryz.ntmps197;go_wp2_with (first|(go_at_call 196;refine R'.mono ?_;rintro e w1 ⟨es,rfl,RS,HG,HZ,HF⟩)|(refine aA rfl 67 _ _ rfl _ _ _ rfl rfl RS.out ?_))
  exact γ (aZ HG.out HZ.out rfl rfl) rfl ⟨es,rfl,HF.out.1,HF.out.2⟩
theorem e167:∀args u,(φ 268 args).run Z u=.ok (.enter 268 args) u:=τ Tryz.func268 (by kernel_rfl) rfl
theorem aLF {W:V} {b:Nat} {ts:List Tk.Tok} (hn:ts.length<=256) (C:∀ts' u,ts'.length<=ts.length->PR W b ts' u->J Z 268 #[pt b] u (PO W b u (PP 4 ts'))) {w:V} (X:PR W b ts w):
  J Z 237 #[pt b] w (PO W b w (PP 3 ts)):=by
 have R:=tF (lv:=3) (by decide) (by decide) e167 hn C (X.alloc (.cells nd0 67));have hb:=X.lt;clear C X;cases hP:PP 3 ts with
 | none=>
  rw [hP] at R;have R':J Z 196 #[pt b,.int .i64 3,.func (.func 268) #[] #[]] (w.alloc (.cells nd0 67)) fun e w'=>e=.panicked dK/\(w.alloc (.cells nd0 67)).grownBy w' (some b):=R;clear R hP;go_enter Tryz.func237,Tryz.ntmps237;go_wp2_with (go_at_call 196;refine R'.mono ?_;rintro e w1 ⟨rfl,hg⟩)
  exact⟨rfl,rfl,aG (ε _ _ _) hg⟩
 | some p=>
  rw [hP] at R;have R':J Z 196 #[pt b,.int .i64 3,.func (.func 268) #[] #[]] (w.alloc (.cells nd0 67)) fun e w1=>∃es,e=.returned (.agg es)/\U ((θ 67 (pt w.heap.size) (.agg es)).run Z w1=.ok () (w1.setRow w.heap.size es))/\U (w1.heap[w.heap.size]? =some (.cells nd0 67))/\U (es.size=18)/\
    U (NK (fun i=>w.heap.size<=i) (w1.setRow w.heap.size es) es p.1/\Sp W b p.2 w (w1.setRow w.heap.size es)):=R.mono (by
   rintro e w1 ⟨es,rfl,h1,h2⟩;exact⟨es,rfl,gF hb (qW h1) h2⟩)
  clear R hP;go_enter Tryz.func237,Tryz.ntmps237;go_wp2_with (first|(go_at_call 196;refine R'.mono ?_;rintro e w1 ⟨es,rfl,RS,HG,HZ,HF⟩)|(refine aA rfl 67 _ _ rfl _ _ _ rfl rfl RS.out ?_))
  exact γ (aZ HG.out HZ.out rfl rfl) rfl ⟨es,rfl,HF.out.1,HF.out.2⟩
theorem aPA:∀args u,(φ 282 args).run Z u=.ok (.enter 282 args) u:=τ Tryz.func282 (by kernel_rfl) rfl
theorem aLG {W:V} {b:Nat} {ts:List Tk.Tok} (hn:ts.length<=256) (C:∀ts' u,ts'.length<=ts.length->PR W b ts' u->J Z 282 #[pt b] u (PO W b u (PP 5 ts'))) {w:V} (X:PR W b ts w):
  J Z 268 #[pt b] w (PO W b w (PP 4 ts)):=by
 have R:=tF (lv:=4) (by decide) (by decide) aPA hn C (X.alloc (.cells nd0 67));have hb:=X.lt;clear C X;cases hP:PP 4 ts with
 | none=>
  rw [hP] at R;have R':J Z 196 #[pt b,.int .i64 4,.func (.func 282) #[] #[]] (w.alloc (.cells nd0 67)) fun e w'=>e=.panicked dK/\(w.alloc (.cells nd0 67)).grownBy w' (some b):=R;clear R hP;go_enter Tryz.func268,Tryz.ntmps268;go_wp2_with (go_at_call 196;refine R'.mono ?_;rintro e w1 ⟨rfl,hg⟩)
  exact⟨rfl,rfl,aG (ε _ _ _) hg⟩
 | some p=>
  rw [hP] at R;have R':J Z 196 #[pt b,.int .i64 4,.func (.func 282) #[] #[]] (w.alloc (.cells nd0 67)) fun e w1=>∃es,e=.returned (.agg es)/\U ((θ 67 (pt w.heap.size) (.agg es)).run Z w1=.ok () (w1.setRow w.heap.size es))/\U (w1.heap[w.heap.size]? =some (.cells nd0 67))/\U (es.size=18)/\
    U (NK (fun i=>w.heap.size<=i) (w1.setRow w.heap.size es) es p.1/\Sp W b p.2 w (w1.setRow w.heap.size es)):=R.mono (by
   rintro e w1 ⟨es,rfl,h1,h2⟩;exact⟨es,rfl,gF hb (qW h1) h2⟩)
  clear R hP;go_enter Tryz.func268,Tryz.ntmps268;go_wp2_with (first|(go_at_call 196;refine R'.mono ?_;rintro e w1 ⟨es,rfl,RS,HG,HZ,HF⟩)|(refine aA rfl 67 _ _ rfl _ _ _ rfl rfl RS.out ?_))
  exact γ (aZ HG.out HZ.out rfl rfl) rfl ⟨es,rfl,HF.out.1,HF.out.2⟩
theorem e206:∀args u,(φ 296 args).run Z u=.ok (.enter 296 args) u:=τ Tryz.func296 (by kernel_rfl) rfl
theorem aLH {W:V} {b:Nat} {ts:List Tk.Tok} (hn:ts.length<=256) (C:∀ts' u,ts'.length<=ts.length->PR W b ts' u->J Z 296 #[pt b] u (PO W b u (PP 6 ts'))) {w:V} (X:PR W b ts w):
  J Z 282 #[pt b] w (PO W b w (PP 5 ts)):=by
 have R:=tF (lv:=5) (by decide) (by decide) e206 hn C (X.alloc (.cells nd0 67));have hb:=X.lt;clear C X;cases hP:PP 5 ts with
 | none=>
  rw [hP] at R;have R':J Z 196 #[pt b,.int .i64 5,.func (.func 296) #[] #[]] (w.alloc (.cells nd0 67)) fun e w'=>e=.panicked dK/\(w.alloc (.cells nd0 67)).grownBy w' (some b):=R;clear R hP;go_enter Tryz.func282,Tryz.ntmps282;go_wp2_with (go_at_call 196;refine R'.mono ?_;rintro e w1 ⟨rfl,hg⟩)
  exact⟨rfl,rfl,aG (ε _ _ _) hg⟩
 | some p=>
  rw [hP] at R;have R':J Z 196 #[pt b,.int .i64 5,.func (.func 296) #[] #[]] (w.alloc (.cells nd0 67)) fun e w1=>∃es,e=.returned (.agg es)/\U ((θ 67 (pt w.heap.size) (.agg es)).run Z w1=.ok () (w1.setRow w.heap.size es))/\U (w1.heap[w.heap.size]? =some (.cells nd0 67))/\U (es.size=18)/\
    U (NK (fun i=>w.heap.size<=i) (w1.setRow w.heap.size es) es p.1/\Sp W b p.2 w (w1.setRow w.heap.size es)):=R.mono (by
   rintro e w1 ⟨es,rfl,h1,h2⟩;exact⟨es,rfl,gF hb (qW h1) h2⟩)
  clear R hP;go_enter Tryz.func282,Tryz.ntmps282;go_wp2_with (first|(go_at_call 196;refine R'.mono ?_;rintro e w1 ⟨es,rfl,RS,HG,HZ,HF⟩)|(refine aA rfl 67 _ _ rfl _ _ _ rfl rfl RS.out ?_))
  exact γ (aZ HG.out HZ.out rfl rfl) rfl ⟨es,rfl,HF.out.1,HF.out.2⟩
end Go.Proofs.YtfedoljlipfhdaaGreatDoor
