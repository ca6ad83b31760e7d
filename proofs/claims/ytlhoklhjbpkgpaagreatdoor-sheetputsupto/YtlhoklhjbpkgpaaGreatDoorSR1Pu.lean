/- RNamed, ROne, RNum, RErr, ROps, RLex, RParse, ARPrint, SR1. -/
import Derived.Test.YtlhoklhjbpkgpaaGreatDoorRRunPu
set_option linter.unusedVariables false
set_option linter.unusedSimpArgs false
set_option maxHeartbeats 16000000
set_option maxRecDepth 100000
namespace Go.Proofs.YtlhoklhjbpkgpaaGreatDoor
open Go.RowKit
theorem kW {l X Y Z:List UInt8} (h:l=X++(Y++Z)) {i j:Nat} (hi:i=X.length) (hj:j=X.length+Y.length):(ba l).extract i j=ba Y:=by subst h hi hj;apply ByteArray.ext;simp [ba]
theorem uD {l X Z:List UInt8} {x:UInt8} (h:l=X++x:: Z) {i:Nat} (hi:i=X.length) (h2:i < (ba l).size):(ba l)[i]=x:=by subst h hi;rw [mZ _ _ (by simp) h2];simp
theorem int_ne {c d:UInt8} (h:c ≠ d):((c.toNat:Int)==(d.toNat:Int))=false:=by
 rcases eG c d with ⟨h1,_⟩ | ⟨_,h2⟩
 ·exact absurd h1 h
 ·exact h2
theorem fH.none {w:World} {l:List UInt8} {e:Ending} {w':World} (h:e=.returned (.tuple #[.agg tk0,.int .i64 0])/\Below w.heap.size w w'):fH w l none e w':=⟨h.2,h.1⟩
theorem fH.some {w:World} {l m:List UInt8} {t:Tk.Tok} {e:Ending} {w':World} {k:Nat} (hk:k=l.length - m.length) (h:e=.returned (.tuple #[.agg (tk t).cs,.int .i64 (k:Int)])/\Below w.heap.size w w'):fH w l (some (t,m)) e w':=⟨h.2,by show e=_;rw [<-hk];exact h.1⟩
theorem aDf {w:World} {c:UInt8} {r:List UInt8} (hc:c ≠ 91) (hl:(c:: r).length<=255):
  Calls Tryz.prog 200 #[.string (ba (c:: r))] w (fH w (c:: r) (Tk.gI gnF trB [] [] (c:: r))):=by
 generalize hL:c:: r=l at *;have hz:0 < (ba l).size:=by rw [size_mk,<-hL];simp
 have h91:(((ba l)[0].toNat:Int)==91)=false:=by have h0e:(ba l)[0]=c:=uD (X:=[]) (Z:=r) (x:=c) hL.symm rfl hz;rw [h0e];exact int_ne hc
 have hA1:(ba l).extract 0 l.length=ba l:=by rw [sO,List.take_length]
 have hsp:=vX Tk.aQ l;have RN1:=fun u=>tZ l hl u;have CE:=fun u=>gH (l.takeWhile Tk.aQ) (by have:=(List.takeWhile_sublist (p:=Tk.aQ) (l:=l)).length_le;omega) u;have hlw:(l.takeWhile Tk.aQ).length<=255:=by have:=(List.takeWhile_sublist (p:=Tk.aQ) (l:=l)).length_le;omega
 have WD:=fun u=>aAR (l.takeWhile Tk.aQ) hlw false u;have hlen:=congrArg List.length hsp;rw [List.length_append] at hlen;have hW:(ba l).extract 0 (l.takeWhile Tk.aQ).length=ba (l.takeWhile Tk.aQ):=kW (X:=[]) (Z:=l.dropWhile Tk.aQ) (by rw [hsp];rfl) rfl (by simp);have rest:∀(hno:(¬(l.takeWhile Tk.aQ).length < l.length)\/∃hlt:(l.takeWhile Tk.aQ).length < (ba l).size,(((ba l)[(l.takeWhile Tk.aQ).length].toNat:Int)==33)=false),
   Calls Tryz.prog 200 #[.string (ba l)] w (fH w l (match Ad.cellP (l.takeWhile Tk.aQ) with
   | some c=>some (.ref ⟨[],[],c⟩,l.dropWhile Tk.aQ)
   | none=>if gnF (l.takeWhile Tk.aQ)=true\/trB (l.takeWhile Tk.aQ)=true then some (.word [] (l.takeWhile Tk.aQ),l.dropWhile Tk.aQ) else none)):=by
  intro hno;cases hcell:Ad.cellP (l.takeWhile Tk.aQ) with
  | some x=>
   rw [hcell] at CE;rcases hno with h | ⟨h1,h2⟩
   ·exact (aBG (size_mk l) hl hz h91 hA1 RN1 (by omega) h hW CE).mono fun e w' h=>fH.some (by omega) h
   ·exact (aAh (size_mk l) hl hz h91 hA1 RN1 (by omega) h1 h2 hW CE).mono fun e w' h=>fH.some (by omega) h
  | none=>
   rw [hcell] at CE;simp only;by_cases hg:gnF (l.takeWhile Tk.aQ)=true\/trB (l.takeWhile Tk.aQ)=true
   ·rw [if_pos hg];have hwd:(gnF (l.takeWhile Tk.aQ) || (!false && trB (l.takeWhile Tk.aQ)))=true:=by rcases hg with h | h <;> simp [h]
    rw [hwd] at WD;rcases hno with h | ⟨h1,h2⟩
    ·exact (vL (size_mk l) hl hz h91 hA1 RN1 (by omega) h hW CE WD).mono fun e w' h=>fH.some (by omega) h
    ·exact (tX (size_mk l) hl hz h91 hA1 RN1 (by omega) h1 h2 hW CE WD).mono fun e w' h=>fH.some (by omega) h
   ·rw [if_neg hg];have hwd:(gnF (l.takeWhile Tk.aQ) || (!false && trB (l.takeWhile Tk.aQ)))=false:=by simp only [not_or,Bool.not_eq_true] at hg;simp [hg.1,hg.2]
    rw [hwd] at WD;rcases hno with h | ⟨h1,h2⟩
    ·exact (wO (size_mk l) hl hz h91 hA1 RN1 (by omega) h hW CE WD).mono fun e w' h=>fH.none h
    ·exact (vK (size_mk l) hl hz h91 hA1 RN1 (by omega) h1 h2 hW CE WD).mono fun e w' h=>fH.none h
 unfold Tk.gI;cases hx:l.dropWhile Tk.aQ with
 | nil=>
  have:=rest (.inl (by rw [hx] at hlen;simp at hlen;omega));rw [hx] at this;exact this
 | cons x q=>
  rw [hx] at hlen hsp;simp only [List.length_cons] at hlen;have hlt:(l.takeWhile Tk.aQ).length < (ba l).size:=by rw [size_mk];omega
  have hel:=uD (X:=l.takeWhile Tk.aQ) (Z:=q) (x:=x) hsp.symm rfl hlt;by_cases h33:x=33
  ·subst h33;clear rest;have hq:q.length<=255:=by omega
   have RN2:=fun u=>tZ q hq u;have hsq:=vX Tk.aQ q;have hlq:=congrArg List.length hsq;rw [List.length_append] at hlq;have hA2:(ba l).extract ((l.takeWhile Tk.aQ).length+1) l.length=ba q:=kW (X:=l.takeWhile Tk.aQ++ [33]) (Y:=q) (Z:=[]) (by rw [List.append_nil,List.append_assoc];exact hsp.symm) (by simp) (by simp;omega);have hall:l=[]++((l.takeWhile Tk.aQ++33:: q.takeWhile Tk.aQ)++q.dropWhile Tk.aQ):=by rw [List.nil_append,List.append_assoc,List.cons_append,hsq];exact hsp.symm
   have hD:(ba l).extract 0 ((l.takeWhile Tk.aQ).length+(1+(q.takeWhile Tk.aQ).length))=ba (l.takeWhile Tk.aQ++33:: q.takeWhile Tk.aQ):=kW hall rfl (by simp;omega);have hlD:(l.takeWhile Tk.aQ++33:: q.takeWhile Tk.aQ).length<=255:=by simp;omega
   have PR:=fun u=>qF (l.takeWhile Tk.aQ++33:: q.takeWhile Tk.aQ) (by omega) u;simp only [List.nil_append];cases hp:Ad.lY gnF (l.takeWhile Tk.aQ++33:: q.takeWhile Tk.aQ) with
   | none=>
    rw [hp] at PR;exact(aBF (n2:=(l.takeWhile Tk.aQ).length+(1+(q.takeWhile Tk.aQ).length)) (size_mk l) hl hz h91 hA1 RN1 (by omega) hlt (by rw [hel];rfl) hA2 RN2 (by simp) (by omega) hD PR).mono fun e w' h=>fH.none h
   | some y=>
    rw [hp] at PR;exact(aAg (n2:=(l.takeWhile Tk.aQ).length+(1+(q.takeWhile Tk.aQ).length)) (size_mk l) hl hz h91 hA1 RN1 (by omega) hlt (by rw [hel];rfl) hA2 RN2 (by simp) (by omega) hD PR).mono fun e w' h=>fH.some (by omega) h
  ·have:=rest (.inr ⟨hlt,by rw [hel];exact int_ne h33⟩);rw [hx] at this;split
   ·rename_i e;cases e;exact absurd rfl h33
   ·exact this
theorem aJY {c:UInt8}:∀{l a r:List UInt8},Ad.at_ c l=some (a,r)->∀x ∈ a,x ≠ c
 | [],a,r,h=>by cases h
 | y:: l,a,r,h=>by
  unfold Ad.at_ at h;split at h
  ·cases h;intro x hx;cases hx
  ·rename_i hy
   cases hq:Ad.at_ c l with
   | none=>rw [hq] at h;cases h
   | some p=>
    rw [hq] at h;cases h
    intro x hx;rcases List.mem_cons.1 hx with rfl | hx
    ·exact hy
    ·exact aJY (a:=p.1) (r:=p.2) hq x hx
theorem aDg {c:UInt8}:∀{l:List UInt8},Ad.at_ c l=none->∀x ∈ l,x ≠ c
 | [],_=>fun x hx=>by cases hx
 | y:: l,h=>by
  unfold Ad.at_ at h;split at h
  ·cases h
  ·rename_i hy
   cases hq:Ad.at_ c l with
   | some p=>rw [hq] at h;cases h
   | none=>
    intro x hx;rcases List.mem_cons.1 hx with rfl | hx
    ·exact hy
    ·exact aDg hq x hx
theorem aL0 {c d:UInt8} (h:c ≠ d):((c.toNat:Int) !=(d.toNat:Int))=true:=by show (!((c.toNat:Int)==(d.toNat:Int)))=true;rw [int_ne h];rfl
theorem aNz {m a z:List UInt8} (hm:m=a++z) (ha:∀x ∈ a,x ≠ 93):Hid (∀k,1<=k->k < a.length+1->∀h:k < (ba (91:: m)).size,(((ba (91:: m))[k].toNat:Int) !=93)=true):=fun k h1 h2 h=>by
 have hk:k < (91:: m).length:=by rw [size_mk] at h;exact h
 have e:(91:: m)[k]=a[k - 1]'(by omega):=by subst hm;rw [List.getElem_cons,dif_neg (by omega),List.getElem_append_left (by omega)]
 rw [mZ _ k hk h,e];exact aL0 (ha _ (List.getElem_mem _))
theorem aEz {w:World} {m a rr:List UInt8} (hl:(91:: m).length<=255) (ha:Ad.at_ 93 m=some (a,rr)) (hg:gnF a=true):
  Calls Tryz.prog 200 #[.string (ba (91:: m))] w (fH w (91:: m) (Tk.gI gnF trB a (91:: (a++ [93])) rr)):=by
 have hm:=at_eq ha;have hnb:=aNz hm (aJY ha);have hml:=congrArg List.length hm;have hl2:=hl;simp only [List.length_append,List.length_cons] at hml hl2;have aNA:a ≠ []:=fun e=>by rw [e] at hg;cases hg
 have hKe:((ba a).toList==[])=false:=by
  rw [wS];cases a with
  | nil=>exact absurd rfl aNA
  | cons _ _=>rfl
 generalize hL:91:: m=l at *;have hpre:l=(91:: (a++ [93]))++rr:=by rw [<-hL,hm];simp
 have aMC:l.length=a.length+2+rr.length:=by rw [hpre];simp;omega
 have hz:0 < (ba l).size:=by rw [size_mk];omega
 have h91:(((ba l)[0].toNat:Int)==91)=true:=by have h0e:(ba l)[0]=91:=uD (X:=[]) (Z:=m) (x:=91) hL.symm rfl hz;rw [h0e];rfl
 have k2:a.length+1 < (ba l).size:=by rw [size_mk];omega
 have hk0:(((ba l)[a.length+1].toNat:Int) !=93)=false:=by have e:(ba l)[a.length+1]=93:=uD (X:=91:: a) (Z:=rr) (x:=93) (by rw [hpre];simp) (by simp) k2;rw [e];rfl
 have hK:(ba l).extract 1 (a.length+1)=ba a:=kW (X:=[91]) (Y:=a) (Z:=93:: rr) (by rw [hpre];simp) rfl (by simp;omega);have RG:∀u,CR 48 #[.string (ba a)] u (.bool true):=fun u=>by have:=gV (ba a) (by rw [size_mk];omega) u;rw [show (ba a).data.toList=a from rfl,hg] at this;exact this
 have hA1:(ba l).extract (a.length+2) l.length=ba rr:=kW (X:=91:: (a++ [93])) (Y:=rr) (Z:=[]) (by rw [hpre];simp) (by simp) (by rw [aMC];simp only [List.length_append,List.length_cons,List.length_nil] <;> omega);have hrr:rr.length<=255:=by omega
 have hsp:=vX Tk.aQ rr;have RN1:=fun u=>tZ rr hrr u;have hlw:(rr.takeWhile Tk.aQ).length<=255:=by have:=(List.takeWhile_sublist (p:=Tk.aQ) (l:=rr)).length_le;omega
 have CE:=fun u=>gH (rr.takeWhile Tk.aQ) (by omega) u;have WD:=fun u=>aAR (rr.takeWhile Tk.aQ) hlw true u;have hlen:=congrArg List.length hsp;rw [List.length_append] at hlen;have hW:(ba l).extract (a.length+2) (a.length+2+(rr.takeWhile Tk.aQ).length)=ba (rr.takeWhile Tk.aQ):=kW (X:=91:: (a++ [93])) (Z:=rr.dropWhile Tk.aQ) (by rw [hsp];exact hpre) (by simp) (by simp);have hs:=size_mk l;have rest:∀(hno:(¬a.length+2+(rr.takeWhile Tk.aQ).length < l.length)\/∃hlt:a.length+2+(rr.takeWhile Tk.aQ).length < (ba l).size,(((ba l)[a.length+2+(rr.takeWhile Tk.aQ).length].toNat:Int)==33)=false),
   Calls Tryz.prog 200 #[.string (ba l)] w (fH w l (if gnF (rr.takeWhile Tk.aQ)=true then some (.word a (rr.takeWhile Tk.aQ),rr.dropWhile Tk.aQ) else none)):=by
  intro hno;have main:∀{B H:ByteArray} {r c:Int} {fr fc ok:Bool} (CE:∀u,CR 242 #[.string (ba (rr.takeWhile Tk.aQ))] u (.tuple #[dB B H r c fr fc,.bool ok])),
    Calls Tryz.prog 200 #[.string (ba l)] w (fH w l (if gnF (rr.takeWhile Tk.aQ)=true then some (.word a (rr.takeWhile Tk.aQ),rr.dropWhile Tk.aQ) else none)):=by
   intro B H r c fr fc ok CE;cases hgw:gnF (rr.takeWhile Tk.aQ) with
   | true=>
    rw [hgw] at WD;rw [if_pos rfl];rcases hno with h | ⟨h1,h2⟩
    ·exact (vN hs hl hz h91 (by omega) k2 hnb hk0 hK hKe RG (by simp;omega) (by omega) hA1 RN1 (by simp) (by omega) h (by omega) hW CE WD).mono fun e w' h=>fH.some (by omega) h
    ·exact (tY hs hl hz h91 (by omega) k2 hnb hk0 hK hKe RG (by simp;omega) (by omega) hA1 RN1 (by simp) (by omega) h1 h2 (by omega) hW CE WD).mono fun e w' h=>fH.some (by omega) h
   | false=>
    rw [hgw] at WD;rw [if_neg (by decide)];rcases hno with h | ⟨h1,h2⟩
    ·exact (wP hs hl hz h91 (by omega) k2 hnb hk0 hK hKe RG (by simp;omega) (by omega) hA1 RN1 (by simp) (by omega) h (by omega) hW CE WD).mono fun e w' h=>fH.none h
    ·exact (vM hs hl hz h91 (by omega) k2 hnb hk0 hK hKe RG (by simp;omega) (by omega) hA1 RN1 (by simp) (by omega) h1 h2 (by omega) hW CE WD).mono fun e w' h=>fH.none h
  cases hcell:Ad.cellP (rr.takeWhile Tk.aQ) with
  | some x=>rw [hcell] at CE;exact main CE
  | none=>rw [hcell] at CE;exact main CE
 unfold Tk.gI;cases hx:rr.dropWhile Tk.aQ with
 | nil=>
  have:=rest (.inl (by rw [hx] at hlen;simp at hlen;omega));rw [hx] at this;simp only [if_neg aNA];exact this
 | cons x q=>
  rw [hx] at hlen hsp;simp only [List.length_cons] at hlen;have hlt:a.length+2+(rr.takeWhile Tk.aQ).length < (ba l).size:=by rw [size_mk];omega
  have hel:(ba l)[a.length+2+(rr.takeWhile Tk.aQ).length]=x:=uD (X:=91:: (a++ [93])++rr.takeWhile Tk.aQ) (Z:=q) (x:=x) (by rw [List.append_assoc,hsp];exact hpre) (by simp;omega) hlt;by_cases h33:x=33
  ·subst h33;clear rest;have hq:q.length<=255:=by omega
   have RN2:=fun u=>tZ q hq u;have hsq:=vX Tk.aQ q;have hlq:=congrArg List.length hsq;rw [List.length_append] at hlq;have hA2:(ba l).extract (a.length+2+(rr.takeWhile Tk.aQ).length+1) l.length=ba q:=kW (X:=91:: (a++ [93])++rr.takeWhile Tk.aQ++ [33]) (Y:=q) (Z:=[]) (by rw [List.append_nil,List.append_assoc,List.append_assoc];simp only [List.singleton_append];rw [hsp];exact hpre) (by simp;omega) (by rw [aMC];simp only [List.length_append,List.length_cons,List.length_nil] <;> omega);have hall:l=[]++((91:: (a++ [93])++rr.takeWhile Tk.aQ++33:: q.takeWhile Tk.aQ)++q.dropWhile Tk.aQ):=by
    have e1:l=91:: (a++ [93])++(rr.takeWhile Tk.aQ++33:: q):=by rw [hsp];exact hpre
    rw [e1];simp
   have hD:(ba l).extract 0 (a.length+2+(rr.takeWhile Tk.aQ).length+(1+(q.takeWhile Tk.aQ).length))=ba (91:: (a++ [93])++rr.takeWhile Tk.aQ++33:: q.takeWhile Tk.aQ):=kW hall rfl (by simp;omega);have hlD:(91:: (a++ [93])++rr.takeWhile Tk.aQ++33:: q.takeWhile Tk.aQ).length<=255:=by simp;omega
   have PR:=fun u=>qF (91:: (a++ [93])++rr.takeWhile Tk.aQ++33:: q.takeWhile Tk.aQ) (by omega) u;simp only;cases hp:Ad.lY gnF (91:: (a++ [93])++rr.takeWhile Tk.aQ++33:: q.takeWhile Tk.aQ) with
   | none=>
    rw [hp] at PR;exact(aBH (n2:=a.length+2+(rr.takeWhile Tk.aQ).length+(1+(q.takeWhile Tk.aQ).length)) hs hl hz h91 (by omega) k2 hnb hk0 hK hKe RG (by simp;omega) (by omega) hA1 RN1 (by simp) (by omega) hlt (by rw [hel];rfl) hA2 RN2 (by simp) (by omega) hD PR).mono fun e w' h=>fH.none h
   | some y=>
    rw [hp] at PR;exact(aAi (n2:=a.length+2+(rr.takeWhile Tk.aQ).length+(1+(q.takeWhile Tk.aQ).length)) hs hl hz h91 (by omega) k2 hnb hk0 hK hKe RG (by simp;omega) (by omega) hA1 RN1 (by simp) (by omega) hlt (by rw [hel];rfl) hA2 RN2 (by simp) (by omega) hD PR).mono fun e w' h=>fH.some (by omega) h
  ·have:=rest (.inr ⟨hlt,by rw [hel];exact int_ne h33⟩);rw [hx] at this;split
   ·rename_i e;cases e;exact absurd rfl h33
   ·rw [if_neg aNA];exact this
theorem aEA {w:World} {c:UInt8} {r:List UInt8} (hl:(c:: r).length<=255):Calls Tryz.prog 200 #[.string (ba (c:: r))] w (fH w (c:: r) (Tk.named gnF trB (c:: r))):=by
 by_cases hc:c=91
 ·subst hc;have hz:0 < (ba (91:: r)).size:=by rw [size_mk];simp
  have h91:(((ba (91:: r))[0].toNat:Int)==91)=true:=by have h0e:(ba (91:: r))[0]=91:=uD (X:=[]) (Z:=r) (x:=91) rfl rfl hz;rw [h0e];rfl
  unfold Tk.named;simp only;cases ha:Ad.at_ 93 r with
  | none=>
   have:=aNz (m:=r) (a:=r) (z:=[]) (by simp) (aDg ha);exact(aJV (k0:=r.length+1) (size_mk _) hl hz h91 (by omega) (by simp) this).mono fun e w' h=>fH.none h
  | some p=>
   obtain⟨a,rr⟩:=p;simp only;cases hg:gnF a with
   | true=>rw [if_pos rfl];exact aEz hl ha hg
   | false=>
    rw [if_neg (by decide)];have hm:=at_eq ha;have hml:=congrArg List.length hm;simp only [List.length_append,List.length_cons] at hml hl;have k2:a.length+1 < (ba (91:: r)).size:=by rw [size_mk];simp;omega
    have hk0:(((ba (91:: r))[a.length+1].toNat:Int) !=93)=false:=by have e:(ba (91:: r))[a.length+1]=93:=uD (X:=91:: a) (Z:=rr) (x:=93) (by rw [hm];simp) (by simp) k2;rw [e];rfl
    have hK:(ba (91:: r)).extract 1 (a.length+1)=ba a:=kW (X:=[91]) (Y:=a) (Z:=93:: rr) (by rw [hm];simp) rfl (by simp;omega);have RG:∀u,CR 48 #[.string (ba a)] u (.bool false):=fun u=>by have:=gV (ba a) (by rw [size_mk];omega) u;rw [show (ba a).data.toList=a from rfl,hg] at this;exact this
    exact(aJW (k0:=a.length+1) (size_mk _) (by simp;omega) hz h91 (by omega) k2 hk0 hK RG (aNz hm (aJY ha))).mono fun e w' h=>fH.none h
 ·have h:Tk.named gnF trB (c:: r)=Tk.gI gnF trB [] [] (c:: r):=by
   unfold Tk.named;split
   ·rename_i e;cases e;exact absurd rfl hc
   ·rfl
  rw [h];exact aDf hc hl
def aNB (w:World) (l:List UInt8) (o:Option (Tk.Tok × List UInt8)) (e:Ending) (w':World):Prop:=
 ∃(t:TT) (n:Int),e=.returned (.tuple #[.agg (tcs t.k t.n t.s t.b t.h t.r t.c t.fr t.fc),.int .i64 n])/\Below w.heap.size w w'/\∀v v',Below v.heap.size v v'->fH v l o (.returned (.tuple #[.agg (tcs t.k t.n t.s t.b t.h t.r t.c t.fr t.fc),.int .i64 n])) v'
theorem fH.q {w:World} {l:List UInt8} {o:Option (Tk.Tok × List UInt8)} {e:Ending} {w':World} (h:fH w l o e w'):aNB w l o e w':=by
 rcases o with _ | ⟨t,m⟩
 ·obtain ⟨h1,rfl⟩:=h;exact⟨⟨0,0,noB,noB,noB,0,0,false,false⟩,0,rfl,h1,fun v v' hv=>⟨hv,rfl⟩⟩
 ·obtain ⟨h1,rfl⟩:=h;exact⟨tk t,_,rfl,h1,fun v v' hv=>⟨hv,rfl⟩⟩
section
variable {w:World} {S:ByteArray} {l:List UInt8} {o:Option (Tk.Tok × List UInt8)}
theorem aGT (h0:0 < S.size) (DG:∀u,CW 93 #[.int .u8 (S[0].toNat:Nat)] u (.bool false)) (h34:((S[0].toNat:Int)==34)=true)
  (Q:Hid (Calls Tryz.prog 199 #[.string S] (w.alloc tkR) (aNB (w.alloc tkR) l o))):Calls Tryz.prog 154 #[.string S] w (fH w l o):=by
 have HZ0:Hid (RZ w (w.alloc tkR)):=RZ.begin w;go_enter Tryz.func154,Tryz.ntmps154;go_wp2_with (first|(go_at_call 93;refine mw (DG _) ?_)|(go_at_call 199;refine Calls.mono Q.out ?_;rintro e w2 ⟨t,n,rfl,hs,ha⟩;have HZ2:Hid (RZ w w2):=HZ0.out.below hs;have HF:Hid (∀v v',Below v.heap.size v v'->fH v l o (.returned (.tuple #[.agg (tcs t.k t.n t.s t.b t.h t.r t.c t.fr t.fc),.int .i64 n])) v'):=ha;have RR:=HZ2.out.put t.k t.n t.s t.b t.h t.r t.c t.fr t.fc;clear hs ha)|(refine aB rfl 188 _ _ rfl _ _ _ rfl rfl RR.out ?_))
 exact bodyPost_ret (v:=.tuple #[.agg (tcs t.k t.n t.s t.b t.h t.r t.c t.fr t.fc),.int .i64 n]) (HZ2.out.ans (tcs t.k t.n t.s t.b t.h t.r t.c t.fr t.fc) rfl rfl rfl rfl) rfl (HF.out _ _ (HZ2.out.fin _))
theorem aAu (h0:0 < S.size) (DG:∀u,CW 93 #[.int .u8 (S[0].toNat:Nat)] u (.bool false)) (h34:((S[0].toNat:Int)==34)=false) (h35:((S[0].toNat:Int)==35)=false)
  (hn:((S[0].toNat:Int)==91)=true\/(((S[0].toNat:Int)==91)=false/\((S[0].toNat:Int)==36)=true)\/(((S[0].toNat:Int)==91)=false/\((S[0].toNat:Int)==36)=false/\∀u,CW 91 #[.int .u8 (S[0].toNat:Nat)] u (.bool true)))
  (Q:Hid (Calls Tryz.prog 200 #[.string S] (w.alloc tkR) (aNB (w.alloc tkR) l o))):Calls Tryz.prog 154 #[.string S] w (fH w l o):=by
 have HZ0:Hid (RZ w (w.alloc tkR)):=RZ.begin w;rcases hn with h91 | ⟨h91,h36⟩ | ⟨h91,h36,L⟩;all_goals
  go_enter Tryz.func154,Tryz.ntmps154;go_wp2_with (first|(go_at_call 93;refine mw (DG _) ?_)|(go_at_call 91;refine mw (L _) ?_)|(go_at_call 200;refine Calls.mono Q.out ?_;rintro e w2 ⟨t,n,rfl,hs,ha⟩;have HZ2:Hid (RZ w w2):=HZ0.out.below hs;have HF:Hid (∀v v',Below v.heap.size v v'->fH v l o (.returned (.tuple #[.agg (tcs t.k t.n t.s t.b t.h t.r t.c t.fr t.fc),.int .i64 n])) v'):=ha;have RR:=HZ2.out.put t.k t.n t.s t.b t.h t.r t.c t.fr t.fc;clear hs ha)|(refine aB rfl 188 _ _ rfl _ _ _ rfl rfl RR.out ?_))
  exact bodyPost_ret (v:=.tuple #[.agg (tcs t.k t.n t.s t.b t.h t.r t.c t.fr t.fc),.int .i64 n]) (HZ2.out.ans (tcs t.k t.n t.s t.b t.h t.r t.c t.fr t.fc) rfl rfl rfl rfl) rfl (HF.out _ _ (HZ2.out.fin _))
end
theorem aJZ (c:UInt8):(Ad.isD c=true/\Tk.cB c=true)\/(Ad.isD c=false/\((c.toNat:Int)==46)=true/\Tk.cB c=true)\/(Ad.isD c=false/\((c.toNat:Int)==46)=false/\Tk.cB c=false):=by
 have e46:((c.toNat:Int)==46)=(c==46):=by
  rcases eG c 46 with ⟨h1,h2⟩ | ⟨h1,h2⟩
  ·subst h1;rfl
  ·rw [show ((c.toNat:Int)==46)=false from h2];exact(beq_eq_false_iff_ne.2 h1).symm
 unfold Tk.cB;rw [e46];cases Ad.isD c <;> cases (c==46) <;> simp
theorem aJ0 (l:List UInt8) (S:ByteArray) (hs:S.size=l.length) (HG:Hid (∀k (h:k < l.length) (h2:k < S.size),S[k]=l[k])) (hl:l.length<=255) (h0:0 < S.size) (w:World)
  (DG:∀u,CW 93 #[.int .u8 (S[0].toNat:Nat)] u (.bool true))
  (hW:S.extract 0 (l.takeWhile Tk.cB).length=ba (l.takeWhile Tk.cB)) (hdl:(l.dropWhile Tk.cB).length=l.length - (l.takeWhile Tk.cB).length)
  (PA:∀u,CR 198 #[.string (ba (l.takeWhile Tk.cB))] u (.tuple #[.int .i64 (bS (l.takeWhile Tk.cB)).1,.bool (bS (l.takeWhile Tk.cB)).2])):
  Calls Tryz.prog 154 #[.string S] w (fH w l ((pnF (l.takeWhile Tk.cB)).map fun n=>(.num n,l.dropWhile Tk.cB))):=by
 have HZ0:Hid (RZ w (w.alloc tkR)):=RZ.begin w;have hle:=(List.takeWhile_sublist (p:=Tk.cB) (l:=l)).length_le;generalize ho:(pnF (l.takeWhile Tk.cB)).map (fun n=>((.num n,l.dropWhile Tk.cB):Tk.Tok × List UInt8))=o;have HO:Hid (o=if (bS (l.takeWhile Tk.cB)).2=true then some (.num (bS (l.takeWhile Tk.cB)).1,l.dropWhile Tk.cB) else none):=by show _=_;rw [<-ho];unfold pnF;split <;> rfl
 have HDL:Hid ((l.dropWhile Tk.cB).length=l.length - (l.takeWhile Tk.cB).length):=hdl;clear ho hdl;generalize hN:(l.takeWhile Tk.cB).length=N at *;have HN:Hid ((l.takeWhile Tk.cB).length=N):=hN;clear hN;generalize ba (l.takeWhile Tk.cB)=A at *;generalize (bS (l.takeWhile Tk.cB)).1=v at *;generalize (bS (l.takeWhile Tk.cB)).2=ok at *;go_enter Tryz.func154,Tryz.ntmps154;go_wp2_with (go_at_call 93;refine mw (DG _) ?_)
 clear DG;go_loop [5] (fun i=>∃k:Nat,k<=l.length/\i=.int .i64 k/\Hid ((l.take k).all Tk.cB=true)) (fun i=>l.length - (intOf i).toNat)
 case atStart=>exact⟨0,Nat.zero_le _,rfl,by simp [Hid]⟩
 case round=>
  obtain⟨k,hk,rfl,ha⟩:=hrel;by_cases hlt:k < l.length
  ·have hki:(k:Int) < l.length:=by omega
   have hks:k < S.size:=by rw [hs];exact hlt
   have hg:=HG.out k hlt hks;have D:=fun u=>gZ l[k] u;have HE:Hid (Tk.cB l[k]=false->k=N):=fun h=>by rw [<-HN.out,(oC hlt ha.out h).1,List.length_take];omega
   have HM:Hid (Tk.cB l[k]=true->(l.take (k+1)).all Tk.cB=true):=fun h=>sN l k 1 ha.out (fun j hj h2=>by
    obtain rfl:j=0:=by omega
    exact h)
   have hw:=aJZ l[k];rw [<-hg] at D HE HM hw;clear hg HG;rcases hw with ⟨h1,h2⟩ | ⟨h1,h2,h3⟩ | ⟨h1,h2,h3⟩
   ·rw [h1] at D;have HM2:=HM.out h2;clear HE HM h1 h2 hW PA HO;go_wp2_with (go_at_call 93;refine mw (D _) ?_)
    go_round
    case rel=>exact⟨k+1,by omega,by go_num,HM2⟩
    case measure=>simp [intOf];omega
   ·rw [h1] at D;have HM2:=HM.out h3;clear HE HM h1 h3 hW PA HO;go_wp2_with (go_at_call 93;refine mw (D _) ?_)
    go_round
    case rel=>exact⟨k+1,by omega,by go_num,HM2⟩
    case measure=>simp [intOf];omega
   ·rw [h1] at D;obtain rfl:=HE.out h3;clear HE HM h1 h3;cases ok
    ·go_wp2_with (first|(go_at_call 93;refine mw (D _) ?_)|(go_at_call 198;refine (PA _).mono ?_;rintro e w2 ⟨rfl,hb⟩;have HZ2:Hid (RZ w w2):=HZ0.out.below hb;have RR:=HZ2.out.put 0 0 noB noB noB 0 0 false false;clear hb)|(refine aB rfl 188 _ _ rfl _ _ _ rfl rfl RR.out ?_))
     refine bodyPost_ret (v:=.tuple #[.agg tk0,.int .i64 0]) (HZ2.out.ans tk0 rfl rfl rfl rfl) rfl ?_;rw [HO.out];exact⟨HZ2.out.fin _,rfl⟩
    ·go_wp2_with (first|(go_at_call 93;refine mw (D _) ?_)|(go_at_call 198;refine (PA _).mono ?_;rintro e w2 ⟨rfl,hb⟩;have HZ2:Hid (RZ w w2):=HZ0.out.below hb;have RR:=HZ2.out.put 1 v noB noB noB 0 0 false false;clear hb)|(refine aB rfl 188 _ _ rfl _ _ _ rfl rfl RR.out ?_))
     refine bodyPost_ret (v:=.tuple #[.agg (tcs 1 v noB noB noB 0 0 false false),.int .i64 (k:Int)]) (HZ2.out.ans (tcs 1 v noB noB noB 0 0 false false) rfl rfl rfl rfl) rfl ?_;rw [HO.out];refine ⟨HZ2.out.fin _, ?_⟩;show _=Ending.returned _;rw [HDL.out,show l.length - (l.length - k)=k by omega];rfl
  ·have hki:¬(k:Int) < l.length:=by omega
   obtain rfl:k=N:=by have:=ha.out;rw [List.take_of_length_le (by omega)] at this;rw [<-HN.out,(oW this).1];omega
   clear HG;cases ok
   ·go_wp2_with (first|(go_at_call 198;refine (PA _).mono ?_;rintro e w2 ⟨rfl,hb⟩;have HZ2:Hid (RZ w w2):=HZ0.out.below hb;have RR:=HZ2.out.put 0 0 noB noB noB 0 0 false false;clear hb)|(refine aB rfl 188 _ _ rfl _ _ _ rfl rfl RR.out ?_))
    refine bodyPost_ret (v:=.tuple #[.agg tk0,.int .i64 0]) (HZ2.out.ans tk0 rfl rfl rfl rfl) rfl ?_;rw [HO.out];exact⟨HZ2.out.fin _,rfl⟩
   ·go_wp2_with (first|(go_at_call 198;refine (PA _).mono ?_;rintro e w2 ⟨rfl,hb⟩;have HZ2:Hid (RZ w w2):=HZ0.out.below hb;have RR:=HZ2.out.put 1 v noB noB noB 0 0 false false;clear hb)|(refine aB rfl 188 _ _ rfl _ _ _ rfl rfl RR.out ?_))
    refine bodyPost_ret (v:=.tuple #[.agg (tcs 1 v noB noB noB 0 0 false false),.int .i64 (k:Int)]) (HZ2.out.ans (tcs 1 v noB noB noB 0 0 false false) rfl rfl rfl rfl) rfl ?_;rw [HO.out];refine ⟨HZ2.out.fin _, ?_⟩;show _=Ending.returned _;rw [HDL.out,show l.length - (l.length - k)=k by omega];rfl
theorem aDh (l p:List UInt8):(p.isPrefixOf l=true/\p.length<=l.length/\(((ba l).extract 0 p.length).toList==(ba p).toList)=true)\/
  (p.isPrefixOf l=false/\p.length<=l.length/\(((ba l).extract 0 p.length).toList==(ba p).toList)=false)\/(p.isPrefixOf l=false/\¬p.length<=l.length):=by
 have h:=Lib.hasPrefix_raw (ba l) (ba p);rw [show Lib.hasPrefix (ba l).data.toList (ba p).data.toList=p.isPrefixOf l from rfl,size_mk,size_mk] at h;by_cases hle:p.length<=l.length
 ·rw [decide_eq_true hle,Bool.true_and] at h;cases hp:p.isPrefixOf l
  ·exact .inr (.inl ⟨rfl,hle,by rw [h,hp]⟩)
  ·exact .inl ⟨rfl,hle,by rw [h,hp]⟩
 ·rw [decide_eq_false hle,Bool.false_and] at h;exact .inr (.inr ⟨h.symm,hle⟩)
theorem aL1 (l:List UInt8) (S:ByteArray) (hS:S=ba l) (hs:S.size=l.length) (hl:l.length<=255) (h0:0 < S.size) (w:World)
  (DG:∀u,CW 93 #[.int .u8 (S[0].toNat:Nat)] u (.bool false)) (h34:((S[0].toNat:Int)==34)=false) (h35:((S[0].toNat:Int)==35)=true):
  Calls Tryz.prog 154 #[.string S] w (fH w l (Tk.qC l)):=by
 have HZ0:Hid (RZ w (w.alloc tkR)):=RZ.begin w;have NA:=fun u=>aFX u;have HI:Hid (∀(i:Nat) (h:i < 9) (W:World),(Instr.index 200 (.agg iM) (.int .i64 (i:Int))).run Tryz.prog W=.ok (.string (fnm i)) W):=aB3;have HP:Hid (∀p:List UInt8,(p.isPrefixOf l=true/\p.length<=l.length/\((S.extract 0 p.length).toList==(ba p).toList)=true)\/
  (p.isPrefixOf l=false/\p.length<=l.length/\((S.extract 0 p.length).toList==(ba p).toList)=false)\/(p.isPrefixOf l=false/\¬p.length<=l.length)):=fun p=>by rw [hS];exact aDh l p
 generalize ho:Tk.qC l=o;have HO:Hid (Tk.qC l=o):=ho;clear ho hS;generalize iM=V at *;go_enter Tryz.func154,Tryz.ntmps154;go_wp2_with (first|(go_at_call 93;refine mw (DG _) ?_)|(go_at_call 183;refine (NA _).mono ?_;rintro e w2 ⟨rfl,hb⟩;have HZ2:Hid (RZ w w2):=HZ0.out.below hb;clear hb))
 clear DG NA HZ0;go_loop [8,9,61] (fun _ _ i=>∃k:Nat,k<=9/\i=.int .i64 k/\Hid (∀j,1<=j->j < k->(Tk.dX j).isPrefixOf l=false)) (fun _ _ i=>9 - (intOf i).toNat)
 case atStart=>exact⟨0,Nat.zero_le _,rfl,fun j h1 h2=>by omega⟩
 case round=>
  obtain⟨k,hk,rfl,HJ⟩:=hrel;by_cases hlt:k < 9
  ·have hki:(k:Int) < 9:=by omega
   have IX:=HI.out k hlt;by_cases hk0:k=0
   ·have hz:¬(0:Int) < (k:Int):=by omega
    have HN:Hid (∀j,1<=j->j < k+1->(Tk.dX j).isPrefixOf l=false):=fun j h1 h2=>by omega
    clear HJ HI HP HO hk0;generalize fnm k=F at *;go_wp2;go_round
    case rel=>exact⟨k+1,by omega,by go_num,HN⟩
    case measure=>simp [intOf];omega
   ·have hz:(0:Int) < (k:Int):=by omega
    rw [aE5 k hlt] at IX;have hF:(ba (Tk.dX k)).size=(Tk.dX k).length:=size_mk _;have hp:=HP.out (Tk.dX k);have HH:Hid ((Tk.dX k).isPrefixOf l=true->o=some (.bad k,l.drop (Tk.dX k).length)):=fun h=>by rw [<-HO.out,aE6 (by omega) (by omega) HJ.out h]
    have HN:Hid ((Tk.dX k).isPrefixOf l=false->∀j,1<=j->j < k+1->(Tk.dX j).isPrefixOf l=false):=fun h j h1 h2=>by
     by_cases e:j=k
     ·rw [e];exact h
     ·exact HJ.out j h1 (by omega)
    clear HJ HI HP HO;rcases hp with ⟨h1,h2,h3⟩ | ⟨h1,h2,h3⟩ | ⟨h1,h2⟩
    ·have HH2:Hid (o=some (.bad k,l.drop (Tk.dX k).length)):=HH.out h1;have HL:Hid (l.length - (l.drop (Tk.dX k).length).length=(Tk.dX k).length):=by show _=_;simp;omega
     have RR:=HZ2.out.put 6 (k:Nat) noB noB noB 0 0 false false;clear HH HN h1;generalize ba (Tk.dX k)=F at *;generalize (Tk.dX k).length=z at *;have h2i:(z:Int)<=l.length:=by omega
     go_wp2_with (refine aB rfl 188 _ _ rfl _ _ _ rfl rfl RR.out ?_)
     refine bodyPost_ret (v:=.tuple #[.agg (tcs 6 (k:Nat) noB noB noB 0 0 false false),.int .i64 (z:Int)]) (HZ2.out.ans (tcs 6 (k:Nat) noB noB noB 0 0 false false) rfl rfl rfl rfl) rfl ?_;rw [HH2.out];refine ⟨HZ2.out.fin _, ?_⟩;show _=Ending.returned _;rw [HL.out];rfl
    ·have HN2:Hid (∀j,1<=j->j < k+1->(Tk.dX j).isPrefixOf l=false):=HN.out h1;clear HH HN h1;generalize ba (Tk.dX k)=F at *;generalize (Tk.dX k).length=z at *;have h2i:(z:Int)<=l.length:=by omega
     go_wp2;go_round
     case rel=>exact⟨k+1,by omega,by go_num,HN2⟩
     case measure=>simp [intOf];omega
    ·have HN2:Hid (∀j,1<=j->j < k+1->(Tk.dX j).isPrefixOf l=false):=HN.out h1;clear HH HN h1;generalize ba (Tk.dX k)=F at *;generalize (Tk.dX k).length=z at *;have h2i:¬(z:Int)<=l.length:=by omega
     go_wp2;go_round
     case rel=>exact⟨k+1,by omega,by go_num,HN2⟩
     case measure=>simp [intOf];omega
  ·have hki:¬(k:Int) < 9:=by omega
   have HH2:Hid (o=none):=by show _=_;rw [<-HO.out,aCw (fun j h1 h2=>HJ.out j h1 (by omega))]
   have RR:=HZ2.out.put 0 0 noB noB noB 0 0 false false;clear HJ HI HP HO;go_wp2_with (refine aB rfl 188 _ _ rfl _ _ _ rfl rfl RR.out ?_)
   refine bodyPost_ret (v:=.tuple #[.agg tk0,.int .i64 0]) (HZ2.out.ans tk0 rfl rfl rfl rfl) rfl ?_;rw [HH2.out];exact⟨HZ2.out.fin _,rfl⟩
theorem aPy (W:World):(Instr.index 211 (.agg #[.string ⟨#[60,62]⟩,.string ⟨#[60,61]⟩,.string ⟨#[62,61]⟩]) (.int .i64 0)).run Tryz.prog W=.ok (.string (ba [60,62])) W:=by kernel_rfl
theorem aPz (W:World):(Instr.index 211 (.agg #[.string ⟨#[60,62]⟩,.string ⟨#[60,61]⟩,.string ⟨#[62,61]⟩]) (.int .i64 1)).run Tryz.prog W=.ok (.string (ba [60,61])) W:=by kernel_rfl
theorem aPA (W:World):(Instr.index 211 (.agg #[.string ⟨#[60,62]⟩,.string ⟨#[60,61]⟩,.string ⟨#[62,61]⟩]) (.int .i64 2)).run Tryz.prog W=.ok (.string (ba [62,61])) W:=by kernel_rfl
theorem aGU (i:Nat) (h:i < 3) (W:World):(Instr.index 211 (.agg #[.string ⟨#[60,62]⟩,.string ⟨#[60,61]⟩,.string ⟨#[62,61]⟩]) (.int .i64 (i:Int))).run Tryz.prog W=.ok (.string (ba (opn i))) W:=by
 have:i=0\/i=1\/i=2:=by omega
 rcases this with rfl | rfl | rfl
 ·exact aPy W
 ·exact aPz W
 ·exact aPA W
theorem aBI (i:Nat) (h:i < 3):(opn i).length=2:=by
 have:i=0\/i=1\/i=2:=by omega
 rcases this with rfl | rfl | rfl <;> rfl
def onI (j:Nat):Int:=(((opn (j+3)).head?.getD 0).toNat:Nat)
abbrev onC:Array Value:=#[.int .u8 43,.int .u8 45,.int .u8 42,.int .u8 47,.int .u8 94,.int .u8 38,.int .u8 61,.int .u8 60,.int .u8 62,.int .u8 37,.int .u8 40,.int .u8 41,.int .u8 44,.int .u8 58]
theorem aL2 {u:World} {g:Nat} {z:Nat × Nat} (h:u.heap[g]? =some (.cells onC 5 z)) (j:Nat) (hj:j < 14):u.cell? ⟨g,j,none⟩=some (.int .u8 (onI j)):=by
 rw [cell_of_row u g j _ _ _ h];have:j=0\/j=1\/j=2\/j=3\/j=4\/j=5\/j=6\/j=7\/j=8\/j=9\/j=10\/j=11\/j=12\/j=13:=by omega
 rcases this with rfl | rfl | rfl | rfl | rfl | rfl | rfl | rfl | rfl | rfl | rfl | rfl | rfl | rfl <;> rfl
theorem aL3 (c:UInt8) (t:List UInt8) (j:Nat) (hj:j < 14):(((c.toNat:Int)==onI j)=true/\(opn (j+3)).isPrefixOf (c:: t)=true/\opn (j+3)=[c])\/(((c.toNat:Int)==onI j)=false/\(opn (j+3)).isPrefixOf (c:: t)=false):=by
 have key:∀d:UInt8,opn (j+3)=[d]->onI j=(d.toNat:Int)->(((c.toNat:Int)==onI j)=true/\(opn (j+3)).isPrefixOf (c:: t)=true/\opn (j+3)=[c])\/(((c.toNat:Int)==onI j)=false/\(opn (j+3)).isPrefixOf (c:: t)=false):=by
  intro d h1 h2;rw [h1,h2];rcases eG c d with ⟨e,h⟩ | ⟨e,h⟩
  ·subst e;exact .inl ⟨h,by simp [List.isPrefixOf],rfl⟩
  ·exact .inr ⟨h,by simp [List.isPrefixOf,Ne.symm e]⟩
 have:j=0\/j=1\/j=2\/j=3\/j=4\/j=5\/j=6\/j=7\/j=8\/j=9\/j=10\/j=11\/j=12\/j=13:=by omega
 rcases this with rfl | rfl | rfl | rfl | rfl | rfl | rfl | rfl | rfl | rfl | rfl | rfl | rfl | rfl
 ·exact key 43 rfl rfl
 ·exact key 45 rfl rfl
 ·exact key 42 rfl rfl
 ·exact key 47 rfl rfl
 ·exact key 94 rfl rfl
 ·exact key 38 rfl rfl
 ·exact key 61 rfl rfl
 ·exact key 60 rfl rfl
 ·exact key 62 rfl rfl
 ·exact key 37 rfl rfl
 ·exact key 40 rfl rfl
 ·exact key 41 rfl rfl
 ·exact key 44 rfl rfl
 ·exact key 58 rfl rfl
theorem aL4 (c:UInt8) (t l:List UInt8) (hlc:l=c:: t) (S:ByteArray) (hS:S=ba l) (hs:S.size=l.length) (hl:l.length<=255) (h0:0 < S.size) (w:World)
  (DG:∀u,CW 93 #[.int .u8 (S[0].toNat:Nat)] u (.bool false)) (h34:((S[0].toNat:Int)==34)=false) (h35:((S[0].toNat:Int)==35)=false)
  (h91:((S[0].toNat:Int)==91)=false) (h36:((S[0].toNat:Int)==36)=false) (LT:∀u,CW 91 #[.int .u8 (S[0].toNat:Nat)] u (.bool false)):
  Calls Tryz.prog 154 #[.string S] w (fH w l (Tk.opF l)):=by
 have HI:Hid (∀(i:Nat) (h:i < 3) (W:World),(Instr.index 211 (.agg #[.string ⟨#[60,62]⟩,.string ⟨#[60,61]⟩,.string ⟨#[62,61]⟩]) (.int .i64 (i:Int))).run Tryz.prog W=.ok (.string (ba (opn i))) W):=aGU;have HP:Hid (∀p:List UInt8,(p.isPrefixOf l=true/\p.length<=l.length/\((S.extract 0 p.length).toList==(ba p).toList)=true)\/
  (p.isPrefixOf l=false/\p.length<=l.length/\((S.extract 0 p.length).toList==(ba p).toList)=false)\/(p.isPrefixOf l=false/\¬p.length<=l.length)):=fun p=>by rw [hS];exact aDh l p
 have HX1:Hid (S.extract 0 1=ba [c]):=by show _=_;rw [hS,hlc];exact aJT (c:: t) 0 (by simp)
 have HC0:Hid (S[0]=c):=by show _=_;subst hS;exact mZ l 0 (by rw [hlc];simp) h0 |>.trans (by simp [hlc])
 generalize ho:Tk.opF l=o;have HO:Hid (Tk.opF l=o):=ho;have HLC:Hid (l=c:: t):=hlc;have CV:=Lib.run_convert_bytes_const (P:=Tryz.prog) (w.alloc tkR) 96 5 onC 14 14 Tryz.underlying96 Tryz.underlying5;rw [show (w.alloc tkR).heap.size=w.heap.size+1 by simp] at CV;obtain⟨w3,hw3⟩:∃w3,w3=(w.alloc tkR).alloc (.cells onC 5 (onC.size,onC.size+1)):=⟨_,rfl⟩
 rw [<-hw3] at CV;have HZ3:Hid (RZ w w3):=by show RZ _ _;rw [hw3];exact(RZ.begin w).alloc _
 have HON:Hid (∀j,j < 14->w3.cell? ⟨w.heap.size+1,j,none⟩=some (.int .u8 (onI j))):=fun j hj=>aL2 (z:=(onC.size,onC.size+1)) (by
  have:=heap_alloc_new (w.alloc tkR) (.cells onC 5 (onC.size,onC.size+1));rw [show (w.alloc tkR).heap.size=w.heap.size+1 by simp] at this;rw [hw3];exact this) j hj
 clear ho hS hlc hw3;go_enter Tryz.func154,Tryz.ntmps154;go_wp2_with (first|(go_at_call 93;refine mw (DG _) ?_)|(go_at_call 91;refine mw (LT _) ?_))
 clear DG LT;go_loop [11,104] (fun _ i=>∃k:Nat,k<=3/\i=.int .i64 k/\Hid (∀j,j < k->(opn j).isPrefixOf l=false)) (fun _ i=>3 - (intOf i).toNat)
 case atStart=>exact⟨0,Nat.zero_le _,rfl,fun j h2=>by omega⟩
 case round=>
  obtain⟨k,hk,rfl,HJ⟩:=hrel;by_cases hlt:k < 3
  ·have hki:(k:Int) < 3:=by omega
   have IX:=HI.out k hlt;have hp:=HP.out (opn k);rw [aBI k hlt] at hp;have hF:(ba (opn k)).size=2:=by rw [size_mk,aBI k hlt]
   have HH:Hid ((opn k).isPrefixOf l=true->o=some (.op (opn k),l.drop 2)):=fun h=>by rw [<-HO.out,aDZ (by omega) HJ.out h,aBI k hlt]
   have HN:Hid ((opn k).isPrefixOf l=false->∀j,j < k+1->(opn j).isPrefixOf l=false):=fun h j h2=>by
    by_cases e:j=k
    ·rw [e];exact h
    ·exact HJ.out j (by omega)
   clear HJ HI HP HO;rcases hp with ⟨h1,h2,h3⟩ | ⟨h1,h2,h3⟩ | ⟨h1,h2⟩
   ·have HH2:Hid (o=some (.op (opn k),l.drop 2)):=HH.out h1;have HL:Hid (l.length - (l.drop 2).length=2):=by show _=_;simp;omega
    clear HH HN h1;obtain⟨F,hF2⟩:∃F,F=ba (opn k):=⟨_,rfl⟩
    rw [<-hF2] at IX h3 hF;have HA:Hid (tcs 5 0 F noB noB 0 0 false false=(tk (.op (opn k))).cs):=by show _=_;rw [hF2];rfl
    clear hF2;have h2i:(2:Int)<=l.length:=by omega
    go_wp2;refine bodyPost_ret (v:=.tuple #[.agg (tcs 5 0 F noB noB 0 0 false false),.int .i64 2]) (tV (tcs 5 0 F noB noB 0 0 false false) rfl rfl rfl rfl) rfl ?_;rw [HH2.out];refine ⟨aD (Below.refl _ _) _, ?_⟩;show _=Ending.returned _;rw [HL.out,<-HA.out];rfl
   ·have HN2:Hid (∀j,j < k+1->(opn j).isPrefixOf l=false):=HN.out h1;clear HH HN h1;generalize ba (opn k)=F at *;have h2i:(2:Int)<=l.length:=by omega
    go_wp2;go_round
    case rel=>exact⟨k+1,by omega,by go_num,HN2⟩
    case measure=>simp [intOf];omega
   ·have HN2:Hid (∀j,j < k+1->(opn j).isPrefixOf l=false):=HN.out h1;clear HH HN h1;generalize ba (opn k)=F at *;have h2i:¬(2:Int)<=l.length:=by omega
    go_wp2;go_round
    case rel=>exact⟨k+1,by omega,by go_num,HN2⟩
    case measure=>simp [intOf];omega
  ·have hki:¬(k:Int) < 3:=by omega
   have h3:∀j,j < 3->(opn j).isPrefixOf l=false:=fun j h=>HJ.out j (by omega);have H3:Hid (∀j,j < 3->(opn j).isPrefixOf l=false):=h3;clear HI HP HJ h3;go_wp2;clear CV;go_loop [13,122] (fun _ i=>∃k:Nat,k<=14/\i=.int .i64 k/\Hid (∀j,j < k+3->(opn j).isPrefixOf l=false)) (fun _ i=>14 - (intOf i).toNat)
   case atStart=>exact⟨0,Nat.zero_le _,rfl,H3⟩
   case round=>
    obtain⟨k2,hk2,rfl,HJ⟩:=hrel;by_cases hlt2:k2 < 14
    ·have aOv:(k2:Int) < 14:=by omega
     have ce:=HON.out k2 hlt2;have hw:=aL3 c t k2 hlt2;rw [<-HLC.out,<-HC0.out] at hw;rcases hw with ⟨h1,h2,h3⟩ | ⟨h1,h2⟩
     ·have HH2:Hid (o=some (.op [c],l.drop 1)):=by show _=_;rw [<-HC0.out,<-HO.out,aDZ (by omega) HJ.out h2,h3];rfl
      have HL:Hid (l.length - (l.drop 1).length=1):=by show _=_;simp;omega
      have hX:=HX1.out;have HA:Hid (tcs 5 0 (ba [c]) noB noB 0 0 false false=(tk (.op [c])).cs):=rfl;generalize ba [c]=F at *;have RR:=HZ3.out.put 5 0 F noB noB 0 0 false false;have h1i:(1:Int)<=l.length:=by omega
      clear HJ HON HO h2 h3 HX1;generalize onI k2=z at *;go_wp2_with (refine aB rfl 188 _ _ rfl _ _ _ rfl rfl RR.out ?_)
      refine bodyPost_ret (v:=.tuple #[.agg (tcs 5 0 F noB noB 0 0 false false),.int .i64 1]) (HZ3.out.ans (tcs 5 0 F noB noB 0 0 false false) rfl rfl rfl rfl) rfl ?_;rw [HH2.out];refine ⟨HZ3.out.fin _, ?_⟩;show _=Ending.returned _;rw [HL.out,<-HA.out];rfl
     ·have HN2:Hid (∀j,j < k2+1+3->(opn j).isPrefixOf l=false):=fun j h=>by
       by_cases e:j=k2+3
       ·rw [e];exact h2
       ·exact HJ.out j (by omega)
      clear HJ HON HO h2 HX1;generalize onI k2=z at *;go_wp2;go_round
      case rel=>exact⟨k2+1,by omega,by go_num,HN2⟩
      case measure=>simp [intOf];omega
    ·have aOv:¬(k2:Int) < 14:=by omega
     have HH2:Hid (o=none):=by show _=_;rw [<-HO.out,aE8 (fun j h=>HJ.out j (by omega))]
     have RR:=HZ3.out.put 0 0 noB noB noB 0 0 false false;clear HJ HON HO HX1;go_wp2_with (refine aB rfl 188 _ _ rfl _ _ _ rfl rfl RR.out ?_)
     refine bodyPost_ret (v:=.tuple #[.agg tk0,.int .i64 0]) (HZ3.out.ans tk0 rfl rfl rfl rfl) rfl ?_;rw [HH2.out];exact⟨HZ3.out.fin _,rfl⟩
theorem aJ1 (c:UInt8) (r:List UInt8) (hl:(c:: r).length<=255) (w:World):Calls Tryz.prog 154 #[.string (ba (c:: r))] w (fH w (c:: r) (Tk.one gnF trB pnF (c:: r))):=by
 have hz:0 < (ba (c:: r)).size:=by rw [size_mk];simp
 have h0:(ba (c:: r))[0]=c:=uD (X:=[]) (Z:=r) rfl rfl hz;have D:∀u,CW 93 #[.int .u8 ((ba (c:: r))[0].toNat:Nat)] u (.bool (Ad.isD c)):=fun u=>by rw [h0];exact gZ c u
 have L:∀u,CW 91 #[.int .u8 ((ba (c:: r))[0].toNat:Nat)] u (.bool (Ad.isL c)):=fun u=>by rw [h0];exact jP c u
 have no:∀d:UInt8,c ≠ d->(((ba (c:: r))[0].toNat:Int)==(d.toNat:Int))=false:=fun d h=>by rw [h0];exact int_ne h
 have yes:∀d:UInt8,c=d->(((ba (c:: r))[0].toNat:Int)==(d.toNat:Int))=true:=fun d h=>by rw [h0,h];simp
 unfold Tk.one;simp only;by_cases hd:Ad.isD c=true
 ·rw [if_pos hd];rw [hd] at D;have hsp:=vX Tk.cB (c:: r);have hlen:=congrArg List.length hsp;rw [List.length_append] at hlen;exact aJ0 (c:: r) (ba (c:: r)) (size_mk _) (fun k h h2=>mZ _ k h h2) hl hz w D (kW (X:=[]) (Z:=(c:: r).dropWhile Tk.cB) (by rw [hsp];rfl) rfl (by simp)) (by omega)
   (fun u=>aH7 (ba ((c:: r).takeWhile Tk.cB)) (by rw [size_mk];omega) u)
 have hd':Ad.isD c=false:=by simpa using hd
 rw [hd'] at D;rw [if_neg hd];by_cases h34:c=34
 ·rw [if_pos h34];subst h34;exact aGT hz D (yes 34 rfl) ((aEx r hl _).mono fun e w' h=>h.q)
 rw [if_neg h34];by_cases h35:c=35
 ·rw [if_pos h35];exact aL1 (c:: r) (ba (c:: r)) rfl (size_mk _) hl hz w D (no 34 h34) (yes 35 h35)
 rw [if_neg h35];by_cases hn:c=91\/c=36\/Ad.isL c=true
 ·rw [if_pos hn];refine aAu hz D (no 34 h34) (no 35 h35) ?_ ((aEA hl).mono fun e w' h=>h.q);by_cases h91:c=91
  ·exact .inl (yes 91 h91)
  ·by_cases h36:c=36
   ·exact .inr (.inl ⟨no 91 h91,yes 36 h36⟩)
   ·rcases hn with h | h | h
    ·exact absurd h h91
    ·exact absurd h h36
    ·rw [h] at L;exact .inr (.inr ⟨no 91 h91,no 36 h36,L⟩)
 ·rw [if_neg hn];have hL:Ad.isL c=false:=by
   cases h:Ad.isL c
   ·rfl
   ·exact absurd (.inr (.inr h)) hn
  rw [hL] at L;exact aL4 c r (c:: r) rfl (ba (c:: r)) rfl (size_mk _) hl hz w D (no 34 h34) (no 35 h35) (no 91 fun h=>hn (.inl h)) (no 36 fun h=>hn (.inr (.inl h))) L
theorem aBJ:∀(k:Nat) (l s r:List UInt8),l.length<=k->Tk.bX l=some (s,r)->r <:+l
 | 0,l,s,r,hk,h=>by have:l=[]:=List.eq_nil_of_length_eq_zero (by omega);subst this;cases h
 | k+1,[],s,r,hk,h=>by cases h
 | k+1,[c],s,r,hk,h=>by
  unfold Tk.bX at h;split at h
  ·cases h;exact List.nil_suffix
  ·cases h
 | k+1,c:: d:: l,s,r,hk,h=>by
  unfold Tk.bX at h;simp only [List.length_cons] at hk;split at h
  ·split at h
   ·cases hq:Tk.bX l with
    | none=>rw [hq] at h;cases h
    | some p=>
     rw [hq] at h;cases h
     exact((aBJ k l p.1 p.2 (by omega) hq).trans (List.suffix_cons _ _)).trans (List.suffix_cons _ _)
   ·cases h;exact List.suffix_cons _ _
  ·cases hq:Tk.bX (d:: l) with
   | none=>rw [hq] at h;cases h
   | some p=>
    rw [hq] at h;cases h
    exact(aBJ k (d:: l) p.1 p.2 (by simp only [List.length_cons];omega) hq).trans (List.suffix_cons _ _)
theorem aDi {b pre l m:List UInt8} {t:Tk.Tok} (h:Tk.gI gnF trB b pre l=some (t,m)):m <:+l:=by
 unfold Tk.gI at h;have hs:=List.dropWhile_suffix (p:=Tk.aQ) (l:=l);split at h
 ·rename_i q hq
  rw [hq] at hs;cases hp:Ad.lY gnF (pre++l.takeWhile Tk.aQ++33:: q.takeWhile Tk.aQ) with
  | none=>rw [hp] at h;cases h
  | some x=>
   rw [hp] at h;cases h
   exact((List.dropWhile_suffix _).trans (List.suffix_cons _ _)).trans hs
 ·split at h
  ·split at h
   ·cases h;exact hs
   ·split at h
    ·cases h;exact hs
    ·cases h
  ·split at h
   ·cases h;exact hs
   ·cases h
theorem aL5 {l m:List UInt8} {t:Tk.Tok} (h:Tk.one gnF trB pnF l=some (t,m)):m <:+l:=by
 cases l with
 | nil=>cases h
 | cons c r=>
  unfold Tk.one at h;simp only at h;split at h
  ·cases hp:pnF ((c:: r).takeWhile Tk.cB) with
   | none=>rw [hp] at h;cases h
   | some n=>
    rw [hp] at h;cases h
    exact List.dropWhile_suffix _
  ·split at h
   ·cases hq:Tk.bX r with
    | none=>rw [hq] at h;cases h
    | some p=>
     rw [hq] at h;cases h
     exact(aBJ r.length r p.1 p.2 (Nat.le_refl _) hq).trans (List.suffix_cons _ _)
   ·split at h
    ·unfold Tk.qC at h;cases hf: [1,2,3,4,5,6,7,8].find? fun i=>(Tk.dX i).isPrefixOf (c:: r) with
     | none=>rw [hf] at h;cases h
     | some i=>rw [hf] at h;cases h;exact List.drop_suffix _ _
    ·split at h
     ·unfold Tk.named at h;split at h
      ·rename_i m' he
       cases he
       cases ha:Ad.at_ 93 r with
       | none=>rw [ha] at h;cases h
       | some p=>
        obtain⟨a,q⟩:=p;rw [ha] at h;simp only at h;split at h
        ·have h1:=aDi h;have h2:q <:+r:=⟨a++ [93],by rw [at_eq ha];simp⟩
         exact(h1.trans h2).trans (List.suffix_cons _ _)
        ·cases h
      ·exact aDi h
     ·rcases r with _ | ⟨d,r⟩
      ·simp only [Tk.opF] at h;split at h
       ·cases h;exact List.nil_suffix
       ·cases h
      ·simp only [Tk.opF] at h;split at h
       ·cases h;exact(List.suffix_cons _ _).trans (List.suffix_cons _ _)
       ·split at h
        ·cases h;exact List.suffix_cons _ _
        ·cases h
theorem aJ2 {l m:List UInt8} (h:m <:+l):l.drop (l.length - m.length)=m:=by obtain⟨X,rfl⟩:=h;rw [List.length_append,show X.length+m.length - m.length=X.length by omega];exact List.drop_left
def aOw (w:World) (o:Option (List Tk.Tok)) (e:Ending) (w':World):Prop:=
 Below w.heap.size w w'/\match o with
  | none=>e=.returned (.tuple #[.slice none 0 0,.int .i64 10])
  | some L=>∃v,e=.returned (.tuple #[v,.int .i64 0])/\fJ 188 w.heap.size w' v (L.map tk)/\L.length<=255
def aL6 (w:World) (l:List UInt8) (e:Ending) (w':World):Prop:=
 if 255 < l.length then e=.returned (.tuple #[.slice none 0 0,.int .i64 3])/\w'=w else aOw w (gP l) e w'
theorem aJ3 {W w2:World} {v:Value} {L:List TT} (hb:Below W.heap.size W w2) (ho:fJ 188 W.heap.size w2 v L) (t:TT) (hn:L.length+1<=1000000):
  ∃v' w4,Hid ((Builtin.append_ #[140,140] 140 #[v,.slice (some ⟨w2.heap.size+1,0,none⟩) 1 1]).run Tryz.prog ((w2.alloc (.cells (tcs t.k t.n t.s t.b t.h t.r t.c t.fr t.fc) 188)).alloc (.cells (tcs t.k t.n t.s t.b t.h t.r t.c t.fr t.fc) 188))=.ok v' w4)/\Hid (fJ 188 W.heap.size w4 v' (L++ [t]))/\Hid (Below W.heap.size W w4):=by
 have b3:Below W.heap.size W ((w2.alloc (.cells (tcs t.k t.n t.s t.b t.h t.r t.c t.fr t.fc) 188)).alloc (.cells (tcs t.k t.n t.s t.b t.h t.r t.c t.fr t.fc) 188)):=aD (aD hb _) _;have o3:fJ 188 W.heap.size ((w2.alloc (.cells (tcs t.k t.n t.s t.b t.h t.r t.c t.fr t.fc) 188)).alloc (.cells (tcs t.k t.n t.s t.b t.h t.r t.c t.fr t.fc) 188)) v L:=
  (ho.below (aD (Below.refl _ _) _)).below (aD (Below.refl _ _) _)
 obtain⟨v',w4,R,o4,g4,b4⟩:=aCL (t:=t) (g:=w2.heap.size+1) (e':=188) (z:=(0,0)) Tryz.underlying140 aNc o3 (by
  have:=heap_alloc_new (w2.alloc (.cells (tcs t.k t.n t.s t.b t.h t.r t.c t.fr t.fc) 188)) (.cells (tcs t.k t.n t.s t.b t.h t.r t.c t.fr t.fc) 188);rw [show (w2.alloc (.cells (tcs t.k t.n t.s t.b t.h t.r t.c t.fr t.fc) 188)).heap.size=w2.heap.size+1 by simp] at this;exact this) hn b3.size
 exact⟨v',w4,R,o4,b3.trans b4⟩
def aJ4:Value->Nat
 | .string A=>A.size
 | _=>0
theorem aGV (l:List UInt8) (w:World) (hl:255 < l.length):CW 108 #[.string (ba l)] w (.tuple #[.slice none 0 0,.int .i64 3]):=by
 have hs:(ba l).size=l.length:=size_mk l;have h1:(255:Int) < l.length:=by omega
 generalize ba l=A at *;generalize l.length=n at *;go_enter Tryz.func108,Tryz.ntmps108;go_wp2;go_ret2;exact⟨rfl,rfl⟩
theorem aEB (l:List UInt8) (w:World) (hl:l.length<=255):Calls Tryz.prog 108 #[.string (ba l)] w (aOw w (gP l)):=by
 have hs:(ba l).size=l.length:=size_mk l;have h1:¬(255:Int) < l.length:=by omega
 generalize ho:gP l=o;have HO:Hid (gP l=o):=ho;clear ho;go_enter Tryz.func108,Tryz.ntmps108;go_wp2;clear hs h1;go_loopw [0,4] (fun s v wr=>∃(L:List Tk.Tok) (m:List UInt8),L.length+m.length<=255/\s=.string (ba m)/\Hid (o=(gP m).map (L++ ·))/\Hid (Below w.heap.size w wr)/\Hid (fJ 188 w.heap.size wr v (L.map tk))) (fun s _ _=>aJ4 s)
 case atStart=>exact⟨[],l,by simpa using hl,rfl,by show _=_;rw [<-HO.out];cases gP l <;> simp,Below.refl _ _,fJ.nil _ _ _⟩
 case round=>
  obtain⟨L,m,hlen,rfl,HQ,HB,HW⟩:=hrel;clear HO;cases m with
  | nil=>
   have HN:Hid (o=some L):=by show _=_;rw [HQ.out];show some (L++ [])=_;rw [List.append_nil]
   have hem:(ba []).toList=[]:=by rw [ByteArray.toList_eq]
   clear HQ;go_wp2;go_ret2;rw [HN.out];exact⟨HB.out,_,rfl,HW.out,by omega⟩
  | cons c r=>
   have hz:0 < (ba (c:: r)).size:=by rw [size_mk];simp
   have h0:(ba (c:: r))[0]=c:=uD (X:=[]) (Z:=r) rfl rfl hz;have BL:∀u,CW 153 #[.int .u8 ((ba (c:: r))[0].toNat:Nat)] u (.bool (Tk.blank c)):=fun u=>by rw [h0];exact aEy c u
   have hne:((ba (c:: r)).toList==[])=false:=wS (c:: r);have hsz:(ba (c:: r)).size=r.length+1:=size_mk (c:: r);simp only [List.length_cons] at hlen;clear h0;cases hb:Tk.blank c with
   | true=>
    rw [hb] at BL;have HN:Hid (o=(gP r).map (L++ ·)):=by show _=_;rw [HQ.out,aAD hb]
    have HD:Hid ((ba (c:: r)).extract 1 (r.length+1)=ba r):=kW (X:=[c]) (Y:=r) (Z:=[]) (by simp) rfl (by simp;omega);have HD2:=HD.out;obtain⟨R,hR⟩:∃R,R=ba r:=⟨_,rfl⟩
    rw [<-hR] at HD2;have HR:Hid (R=ba r):=hR;have HM:Hid (aJ4 (.string R) < aJ4 (.string (ba (c:: r)))):=by show R.size < (ba (c:: r)).size;rw [hR,size_mk,size_mk];simp
    have hi1:(1:Int)<=(r.length:Int)+1:=by omega
    clear HQ HD hR;generalize ba (c:: r)=S at *;go_wp2_with (go_at_call 153;refine mw (BL _) ?_)
    go_roundw
    case rel=>exact⟨L,r,by omega,by rw [HR.out],HN,HB,HW⟩
    case measure=>exact HM.out
   | false=>
    rw [hb] at BL;have NX:=fun u=>aJ1 c r (by simp only [List.length_cons];omega) u;have hlx:=aCM (r:=r) hb;cases h1:Tk.one gnF trB pnF (c:: r) with
    | none=>
     rw [h1] at NX hlx;have HN:Hid (o=none):=by show _=_;rw [HQ.out,hlx];rfl
     have NX':∀u,CR 154 #[.string (ba (c:: r))] u (.tuple #[.agg tk0,.int .i64 0]):=fun u=>(NX u).mono (by
      rintro e w' ⟨h,rfl⟩;exact⟨rfl,h⟩)
     clear NX HQ hlx;generalize ba (c:: r)=S at *;go_wp2_with (first|(go_at_call 153;refine mw (BL _) ?_)|(go_at_call 154;refine (NX' _).mono ?_;rintro e w3 ⟨rfl,hs⟩;have H3:Hid (Below w.heap.size w w3):=aF HB.out hs;clear hs))
     go_ret2;rw [HN.out];exact⟨aD H3.out _,rfl⟩
    | some p=>
     obtain⟨t,q⟩:=p;have hql:=pI h1;have hqd:=aJ2 (aL5 h1);rw [h1] at NX hlx;have HN:Hid (o=(gP q).map ((L++ [t])++ ·)):=by show _=_;rw [HQ.out,hlx];simp only;cases gP q <;> simp
     simp only [List.length_cons] at hql;have NX':∀u,CR 154 #[.string (ba (c:: r))] u (.tuple #[.agg (tcs (tk t).k (tk t).n (tk t).s (tk t).b (tk t).h (tk t).r (tk t).c (tk t).fr (tk t).fc),.int .i64 ((r.length+1 - q.length:Nat):Int)]):=fun u=>(NX u).mono (by
      rintro e w' ⟨h,rfl⟩;exact⟨rfl,h⟩)
     have HL:Hid ((L++ [t]).length+q.length<=255):=by show _<=_;simp;omega
     have HT:Hid (∀x,x=tk t->(L++ [t]).map tk=L.map tk++ [x]):=fun x e=>by rw [e];simp
     have HD:Hid ((ba (c:: r)).extract (r.length+1 - q.length) (r.length+1)=ba q):=by show _=_;have:=aBa (c:: r) (r.length+1 - q.length);simp only [List.length_cons] at this hqd;rw [this,hqd]
     obtain⟨R,hR⟩:∃R,R=ba q:=⟨_,rfl⟩
     have HD2:=HD.out;rw [<-hR] at HD2;have HR:Hid (R=ba q):=hR;have HM:Hid (aJ4 (.string R) < aJ4 (.string (ba (c:: r)))):=by show R.size < (ba (c:: r)).size;rw [hR,size_mk,size_mk];simp;omega
     clear NX HQ hlx h1 hqd HD hR;obtain⟨z,hz1⟩:∃z,z=r.length+1 - q.length:=⟨_,rfl⟩
     rw [<-hz1] at NX' HD2;have hz2:1<=z:=by omega
     have hz3:(z:Int)<=(r.length:Int)+1:=by omega
     have hz4:((z:Int)==0)=false:=by simp;omega
     clear hz1;generalize htt:tk t=tt at *;have HT2:Hid ((L++ [t]).map tk=L.map tk++ [tt]):=HT.out tt rfl;clear HT htt;generalize ba (c:: r)=S at *;go_wp2_with (first|(go_at_call 153;refine mw (BL _) ?_)|(go_at_call 154;refine (NX' _).mono ?_;rintro e w3 ⟨rfl,hs⟩;obtain⟨v',w4,RR,HO4,HB4⟩:=aJ3 (aF HB.out hs) (HW.out.below hs) tt (by have:=HL.out;simp at this ⊢;omega);clear hs)|(at_builtin;refine wpList_append_run rfl _ _ 140 rfl _ _ _ _ rfl rfl RR.out ?_))
     go_roundw
     case rel=>exact⟨L++ [t],q,HL.out,by rw [HR.out],HN,HB4,by show fJ _ _ _ _ _;rw [HT2.out];exact HO4.out⟩
     case measure=>exact HM.out
theorem aJ5 (l:List UInt8) (w:World):Calls Tryz.prog 108 #[.string (ba l)] w (aL6 w l):=by
 unfold aL6;by_cases h:255 < l.length
 ·simp only [if_pos h];exact aGV l w h
 ·simp only [if_neg h];exact aEB l w (by omega)
end Go.Proofs.YtlhoklhjbpkgpaaGreatDoor
namespace Go.Proofs.YtlhoklhjbpkgpaaGreatDoor
open Go.RowKit Go.Fm
theorem kX {fn:Func} {p u:Tmp} (h:fn.results=#[.cell p 67,.tmp u]) {tmps:Array Value} {w:World} {g:Nat} {es:Array Value} {x:Value}
  (hp:tmps.getD p undef=pt g) (hu:tmps.getD u undef=x) (h2:w.heap[g]? =some (.cells es 67)) (he:es.size=18):
  (results fn tmps).run Tryz.prog w=.ok (.tuple #[.agg es,x]) w:=by
 have hp':tmps[p]?.getD undef=pt g:=by simpa using hp
 have hu':tmps[u]?.getD undef=x:=by simpa using hu
 have r2:=run_loadVar_row (P:=Tryz.prog) w g 67 67 es (0,0) _ h2 Tryz.underlying67 rfl (by rw [he];exact iG);simp [results,h,hp',hu',asAddr,r2]
def PB (w:World) (p:T × Int) (e:Ending) (w':World):Prop:=∃es,e=.returned (.tuple #[.agg es,.int .i64 p.2])/\NT w' es p.1/\Below w.heap.size w w'
theorem uE {w u:World} {es:Array Value} (hn:NA es) (h:u.heap[w.heap.size]? =some (.cells nd0 67)) (hb:Below w.heap.size w u):Hid ((Instr.storeAt 67 (pt w.heap.size) (.agg es)).run Tryz.prog u=.ok () (u.setRow w.heap.size es))/\Hid ((u.setRow w.heap.size es).heap[w.heap.size]? =some (.cells es 67))/\Hid (Below w.heap.size w (u.setRow w.heap.size es))/\Hid (es.size=18):=
 ⟨hn.sto h rfl,setRow_heap _ _ _ _ _ _ h,hb.grown (aL _ _ _) hb.size (fun j e=>by cases e;exact Nat.le_refl _),hn.size⟩
section
variable {w:World} {l:List UInt8}
theorem zR {A:ByteArray} {c:Int} (hc:(c !=0)=true) (L:CR 108 #[.string A] (w.alloc (.cells nd0 67)) (.tuple #[.slice none 0 0,.int .i64 c])):
  Calls Tryz.prog 75 #[.string A] w (PB w (qI,c)):=by
 have L':Calls Tryz.prog 108 #[.string A] (w.alloc (.cells nd0 67)) fun e w1=>e=.returned (.tuple #[.slice none 0 0,.int .i64 c])/\Hid ((Instr.storeAt 67 (pt w.heap.size) (.agg nd0)).run Tryz.prog w1=.ok () (w1.setRow w.heap.size nd0))/\Hid ((w1.setRow w.heap.size nd0).heap[w.heap.size]? =some (.cells nd0 67))/\Hid (Below w.heap.size w (w1.setRow w.heap.size nd0)):=L.mono (by
  rintro e w1 ⟨rfl,h⟩;obtain⟨a1,a2,a3,a4⟩:=uE (w:=w) NA.zero ((h.block _ (by simp)).trans (heap_alloc_new w _)) (aF (aD (Below.refl _ _) _) h);exact⟨rfl,a1,a2,a3⟩)
 have RB:Hid (∀u,(Instr.build 67 #[]).run Tryz.prog u=.ok (.agg nd0) u):=rG;clear L;go_enter Tryz.func75,Tryz.ntmps75;go_wp2_with (first|(go_at_call 108;refine L'.mono ?_;rintro e w1 ⟨rfl,RS,HG,HF⟩)|(refine aM rfl 67 _ rfl _ _ rfl (RB.out _) ?_)|(refine aB rfl 67 _ _ rfl _ _ _ rfl rfl RS.out ?_;clear RS))
 exact bodyPost_ret (kX rfl rfl rfl HG.out rfl) rfl ⟨nd0,rfl,pO _,HF.out⟩
theorem aJ6 {w w1:World} {v:Value} {ts:List Tk.Tok} (T:dD w1) (ho:fJ 188 (w.alloc (.cells nd0 67)).heap.size w1 v (ts.map tk)) (hok:OkL ts):QR w1 w1.heap.size ts (w1.alloc (rpO v false)):=
 ⟨T,aD (Below.refl _ _) _,Nat.le_refl _,hok,v,heap_alloc_new _ _,TS.of ho⟩
theorem aL7 (u:World) (a:Option Addr) (n c:Nat):(Instr.build 145 #[(0,.slice a n c)]).run Tryz.prog u=.ok (.agg #[.slice a n c,.bool false]) u:=by kernel_rfl
theorem aEC {w w1 w2:World} {v:Value} {ts:List Tk.Tok} {o:Option (T × List Tk.Tok)} {es:Array Value} (hb:Below (w.alloc (.cells nd0 67)).heap.size (w.alloc (.cells nd0 67)) w1) (hn:NA es) (h:RA w1 w1.heap.size (w1.alloc (rpO v false)) o es w2):
  Hid ((Instr.storeAt 67 (pt w2.heap.size) (.agg es)).run Tryz.prog (w2.alloc (.cells nd0 67))=.ok () (w2.alloc (.cells es 67)))/\(w2.alloc (.cells es 67)).heap[w.heap.size]? =some (.cells nd0 67)/\Below w.heap.size w (w2.alloc (.cells es 67))/\(w2.alloc (.cells es 67)).heap[w2.heap.size]? =some (.cells es 67):=by
 have hg:=h.grow;have hz1:w.heap.size < w1.heap.size:=by have:=hb.size;simp at this;omega
 have B1:Below w.heap.size w (w1.alloc (rpO v false)):=aD (aF (aD (Below.refl _ _) _) hb) _;have B2:Below w.heap.size w w2:=B1.grown hg B1.size (fun k e=>by cases e;omega);have k0:(w1.alloc (rpO v false)).heap[w.heap.size]? =some (.cells nd0 67):=(Below.heap_alloc _ _ _ hz1).trans ((hb.block _ (by simp)).trans (heap_alloc_new w _));have k2:w2.heap[w.heap.size]? =some (.cells nd0 67):=h.kept k0 (by omega);exact⟨run_storeAt_new w2 67 nd0 _ (by rw [hn.size];exact iG) (by rw [hn.size];rfl) hn.one,(Below.heap_alloc _ _ _ (aZ k2)).trans k2,aD B2 _,heap_alloc_new _ _⟩
theorem aDj {A:ByteArray} {ts:List Tk.Tok} (T:dD w) (hok:OkL ts) (hts:ts.length<=255) (L:Calls Tryz.prog 108 #[.string A] (w.alloc (.cells nd0 67)) fun e w1=>∃v,e=.returned (.tuple #[v,.int .i64 0])/\fJ 188 (w.alloc (.cells nd0 67)).heap.size w1 v (ts.map tk)/\Below (w.alloc (.cells nd0 67)).heap.size (w.alloc (.cells nd0 67)) w1):
  Calls Tryz.prog 75 #[.string A] w (PB w (match qZ ts with
   | none=>(qI,10)
   | some t=>(t,0))):=by
 have L':Calls Tryz.prog 108 #[.string A] (w.alloc (.cells nd0 67)) fun e w1=>∃a n c,e=.returned (.tuple #[.slice a n c,.int .i64 0])/\Hid (Below (w.alloc (.cells nd0 67)).heap.size (w.alloc (.cells nd0 67)) w1)/\Hid (QR w1 w1.heap.size ts (w1.alloc (rpO (.slice a n c) false))):=L.mono (by
  rintro e w1 ⟨v,rfl,ho,hb⟩;obtain⟨a,c,rfl⟩:=ho.slice;exact⟨a,_,c,rfl,hb,aJ6 ((T.below (aD (Below.refl _ _) _)).below hb) ho hok⟩)
 have RB:Hid (∀u,(Instr.build 67 #[]).run Tryz.prog u=.ok (.agg nd0) u):=rG;have RP:Hid (∀u a n c,(Instr.build 145 #[(0,.slice a n c)]).run Tryz.prog u=.ok (.agg #[.slice a n c,.bool false]) u):=aL7;cases hP:PP 1 ts with
 | none=>
  have hall:qZ ts=none:=by unfold qZ;rw [hP]
  rw [hall];have C:Hid (∀w1 v,QR w1 w1.heap.size ts (w1.alloc (rpO v false))->Below (w.alloc (.cells nd0 67)).heap.size (w.alloc (.cells nd0 67)) w1->Calls Tryz.prog 109 #[pt w1.heap.size,.int .i64 1] (w1.alloc (rpO v false)) fun e w2=>∃es,e=.returned (.agg es)/\
    Hid ((Instr.storeAt 67 (pt w2.heap.size) (.agg es)).run Tryz.prog (w2.alloc (.cells nd0 67))=.ok () (w2.alloc (.cells es 67)))/\(w2.alloc (.cells es 67)).cell? ⟨w1.heap.size,1,none⟩=some (.bool true)/\
    Hid ((Instr.storeAt 67 (pt w.heap.size) (.agg nd0)).run Tryz.prog (w2.alloc (.cells es 67))=.ok () ((w2.alloc (.cells es 67)).setRow w.heap.size nd0))/\Hid (((w2.alloc (.cells es 67)).setRow w.heap.size nd0).heap[w.heap.size]? =some (.cells nd0 67))/\Hid (Below w.heap.size w ((w2.alloc (.cells es 67)).setRow w.heap.size nd0))):=fun w1 v hq hb=>(oN (by omega) hq).mono (by
   rintro e w2 ⟨es,rfl,hn,h⟩;rw [hP] at h;have h':Sw w1 w1.heap.size (w1.alloc (rpO v false)) w2:=h;obtain⟨r1,r2,r3,r4⟩:=aEC (ts:=ts) hb hn (o:=none) h;obtain⟨a1,a2,a3,a4⟩:=uE (w:=w) NA.zero r2 r3;exact⟨es,rfl,r1,(h'.alloc (.cells es 67)).1.yes,a1,a2,a3⟩)
  clear L hok T hts hall hP;go_enter Tryz.func75,Tryz.ntmps75;go_wp2_with (first|(go_at_call 108;refine L'.mono ?_;rintro e w1 ⟨a,n,c,rfl,HB,HQ⟩)|(refine aM rfl 145 _ rfl _ _ (by go_simp) (RP.out _ _ _ _) ?_)|(go_at_call 109;refine (C.out _ _ HQ.out HB.out).mono ?_;rintro e w2 ⟨es,rfl,RS1,hyes,RS,HG,HF⟩)|(refine aB rfl 67 _ _ rfl _ _ _ rfl rfl RS1.out ?_;clear RS1)|(refine aM rfl 67 _ rfl _ _ rfl (RB.out _) ?_)|(refine aB rfl 67 _ _ rfl _ _ _ rfl rfl RS.out ?_;clear RS))
  exact bodyPost_ret (kX rfl rfl rfl HG.out rfl) rfl ⟨nd0,rfl,pO _,HF.out⟩
 | some p=>
  obtain⟨t,r⟩:=p;have hlt:=jB upF trF (by omega) _ t r hP;have hzt:zT t+r.length<=ts.length:=aJg upF trF (Nat.le_refl _) _ _ _ hP;cases r with
  | cons x r=>
   have hall:qZ ts=none:=by unfold qZ;rw [hP]
   rw [hall];have C:Hid (∀w1 v,QR w1 w1.heap.size ts (w1.alloc (rpO v false))->Below (w.alloc (.cells nd0 67)).heap.size (w.alloc (.cells nd0 67)) w1->Calls Tryz.prog 109 #[pt w1.heap.size,.int .i64 1] (w1.alloc (rpO v false)) fun e w2=>∃es a n c,e=.returned (.agg es)/\
     Hid ((Instr.storeAt 67 (pt w2.heap.size) (.agg es)).run Tryz.prog (w2.alloc (.cells nd0 67))=.ok () (w2.alloc (.cells es 67)))/\(w2.alloc (.cells es 67)).cell? ⟨w1.heap.size,1,none⟩=some (.bool false)/\(w2.alloc (.cells es 67)).cell? ⟨w1.heap.size,0,none⟩=some (.slice a n c)/\(0:Int) < (n:Int)/\
     Hid ((Instr.storeAt 67 (pt w.heap.size) (.agg nd0)).run Tryz.prog (w2.alloc (.cells es 67))=.ok () ((w2.alloc (.cells es 67)).setRow w.heap.size nd0))/\Hid (((w2.alloc (.cells es 67)).setRow w.heap.size nd0).heap[w.heap.size]? =some (.cells nd0 67))/\Hid (Below w.heap.size w ((w2.alloc (.cells es 67)).setRow w.heap.size nd0))):=fun w1 v hq hb=>(oN (by omega) hq).mono (by
    rintro e w2 ⟨es,rfl,hn,h⟩;rw [hP] at h;have h':Sq w1 w1.heap.size (x:: r) (w1.alloc (rpO v false)) w2:=h.2;obtain⟨r1,r2,r3,r4⟩:=aEC (ts:=ts) hb hn (o:=some (t,x:: r)) h;obtain⟨a1,a2,a3,a4⟩:=uE (w:=w) NA.zero r2 r3;obtain⟨u,hu,hs⟩:=(h'.alloc (.cells es 67)).1.blk;obtain⟨a,c,rfl⟩:=hs.slice;exact⟨es,a,_,c,rfl,r1,(bM hu).2.1,(bM hu).1,by simp,a1,a2,a3⟩)
   clear L hok T hts hall hP;go_enter Tryz.func75,Tryz.ntmps75;go_wp2_with (first|(go_at_call 108;refine L'.mono ?_;rintro e w1 ⟨a,n,c,rfl,HB,HQ⟩)|(refine aM rfl 145 _ rfl _ _ (by go_simp) (RP.out _ _ _ _) ?_)|(go_at_call 109;refine (C.out _ _ HQ.out HB.out).mono ?_;rintro e w2 ⟨es,a2,n2,c2,rfl,RS1,hno,hsl,hpos,RS,HG,HF⟩)|(refine aB rfl 67 _ _ rfl _ _ _ rfl rfl RS1.out ?_;clear RS1)|(refine aM rfl 67 _ rfl _ _ rfl (RB.out _) ?_)|(refine aB rfl 67 _ _ rfl _ _ _ rfl rfl RS.out ?_;clear RS))
   exact bodyPost_ret (kX rfl rfl rfl HG.out rfl) rfl ⟨nd0,rfl,pO _,HF.out⟩
  | nil=>
   have C:Hid (∀w1 v,QR w1 w1.heap.size ts (w1.alloc (rpO v false))->Below (w.alloc (.cells nd0 67)).heap.size (w.alloc (.cells nd0 67)) w1->Calls Tryz.prog 109 #[pt w1.heap.size,.int .i64 1] (w1.alloc (rpO v false)) fun e w2=>∃es a c,e=.returned (.agg es)/\
     Hid ((Instr.storeAt 67 (pt w2.heap.size) (.agg es)).run Tryz.prog (w2.alloc (.cells nd0 67))=.ok () (w2.alloc (.cells es 67)))/\(w2.alloc (.cells es 67)).cell? ⟨w1.heap.size,1,none⟩=some (.bool false)/\(w2.alloc (.cells es 67)).cell? ⟨w1.heap.size,0,none⟩=some (.slice a 0 c)/\
     Hid ((Instr.loadAt 67 (pt w2.heap.size)).run Tryz.prog (w2.alloc (.cells es 67))=.ok (.agg es) (w2.alloc (.cells es 67)))/\
     Hid (Calls Tryz.prog 45 #[.agg es] (w2.alloc (.cells es 67)) fun e w4=>e=.returned (.int .i64 (dT t:Nat))/\Hid ((Instr.storeAt 67 (pt w.heap.size) (.agg nd0)).run Tryz.prog w4=.ok () (w4.setRow w.heap.size nd0))/\Hid ((w4.setRow w.heap.size nd0).heap[w.heap.size]? =some (.cells nd0 67))/\Hid (Below w.heap.size w (w4.setRow w.heap.size nd0))/\
      Hid ((Instr.loadAt 67 (pt w2.heap.size)).run Tryz.prog w4=.ok (.agg es) w4)/\Hid ((Instr.storeAt 67 (pt w.heap.size) (.agg es)).run Tryz.prog w4=.ok () (w4.setRow w.heap.size es))/\Hid ((w4.setRow w.heap.size es).heap[w.heap.size]? =some (.cells es 67))/\Hid (Below w.heap.size w (w4.setRow w.heap.size es))/\Hid (es.size=18)/\Hid (NT (w4.setRow w.heap.size es) es t))):=fun w1 v hq hb=>(oN (by omega) hq).mono (by
    rintro e w2 ⟨es,rfl,hn,h⟩;rw [hP] at h;have h':Sq w1 w1.heap.size [] (w1.alloc (rpO v false)) w2:=h.2;have hN:NK (fun i=>(w1.alloc (rpO v false)).heap.size<=i) w2 es t:=h.1;obtain⟨r1,r2,r3,r4⟩:=aEC (ts:=ts) hb hn (o:=some (t,[])) h;obtain⟨u,hu,hs⟩:=(h'.alloc (.cells es 67)).1.blk;obtain⟨a,c,rfl⟩:=hs.slice;have hN3:=hN.below (aD (Below.refl _ _) (.cells es 67));have hz1:w.heap.size < w1.heap.size:=by have:=hb.size;simp at this;omega
    refine ⟨es,a,c,rfl,r1,(bM hu).2.1,(bM hu).1,hn.lod r4,(aEw t (by omega) _ es hN3.nt).mono ?_⟩;rintro e w4 ⟨rfl,h4⟩;have k2:=(h4.block _ (aZ r2)).trans r2;have k4:=(h4.block _ (aZ r4)).trans r4;have B4:=aF r3 h4;obtain⟨a1,a2,a3,a4⟩:=uE (w:=w) NA.zero k2 B4;obtain⟨b1,b2,b3,b4⟩:=uE (w:=w) hn k2 B4;refine ⟨rfl,a1,a2,a3,hn.lod k4,b1,b2,b3,b4,((hN3.below h4).grown (aL _ _ _) (fun g e hk=> ?_)).nt⟩;cases e
    have hk':(w1.alloc (rpO v false)).heap.size<=w.heap.size:=hk;simp at hk';omega)
   by_cases hd:dT t<=24
   ·have hall:qZ ts=some t:=by unfold qZ;rw [hP];simp only;rw [if_pos hd]
    rw [hall];have hdi:¬(24:Int) < ((dT t:Nat):Int):=by omega
    clear L hok T hts hall hP hd;generalize ((dT t:Nat):Int)=dd at *;go_enter Tryz.func75,Tryz.ntmps75;go_wp2_with (first|(go_at_call 108;refine L'.mono ?_;rintro e w1 ⟨a,n,c,rfl,HB,HQ⟩)|(refine aM rfl 145 _ rfl _ _ (by go_simp) (RP.out _ _ _ _) ?_)|(go_at_call 109;refine (C.out _ _ HQ.out HB.out).mono ?_;rintro e w2 ⟨es,a2,c2,rfl,RS1,hno,hsl,RL3,CD⟩)|(refine aB rfl 67 _ _ rfl _ _ _ rfl rfl RS1.out ?_;clear RS1)|(refine jN 67 _ rfl _ _ rfl RL3.out (by go_simp) ?_;clear RL3)|(go_at_call 45;refine CD.out.mono ?_;rintro e w4 ⟨rfl,RSz,HGz,HFz,RL4,RS,HG,HF,HZ,HNT⟩)|(refine aC rfl 67 _ rfl _ _ rfl RL4.out ?_;clear RL4)|(refine aB rfl 67 _ _ rfl _ _ _ rfl rfl RS.out ?_;clear RS))
    exact bodyPost_ret (kX rfl rfl rfl HG.out HZ.out) rfl ⟨_,rfl,HNT.out,HF.out⟩
   ·have hall:qZ ts=none:=by unfold qZ;rw [hP];simp only;rw [if_neg hd]
    rw [hall];have hdi:(24:Int) < ((dT t:Nat):Int):=by omega
    clear L hok T hts hall hP hd;generalize ((dT t:Nat):Int)=dd at *;go_enter Tryz.func75,Tryz.ntmps75;go_wp2_with (first|(go_at_call 108;refine L'.mono ?_;rintro e w1 ⟨a,n,c,rfl,HB,HQ⟩)|(refine aM rfl 145 _ rfl _ _ (by go_simp) (RP.out _ _ _ _) ?_)|(go_at_call 109;refine (C.out _ _ HQ.out HB.out).mono ?_;rintro e w2 ⟨es,a2,c2,rfl,RS1,hno,hsl,RL3,CD⟩)|(refine aB rfl 67 _ _ rfl _ _ _ rfl rfl RS1.out ?_;clear RS1)|(refine jN 67 _ rfl _ _ rfl RL3.out (by go_simp) ?_;clear RL3)|(go_at_call 45;refine CD.out.mono ?_;rintro e w4 ⟨rfl,RS,HG,HF,RL4,RSe,HGe,HFe,HZ,HNT⟩)|(refine aM rfl 67 _ rfl _ _ rfl (RB.out _) ?_)|(refine aB rfl 67 _ _ rfl _ _ _ rfl rfl RS.out ?_;clear RS))
    exact bodyPost_ret (kX rfl rfl rfl HG.out rfl) rfl ⟨nd0,rfl,pO _,HF.out⟩
end
theorem aED (l:List UInt8) (w:World) (T:dD w):Calls Tryz.prog 75 #[.string (ba l)] w (PB w (vC l)):=by
 have R:=aJ5 l (w.alloc (.cells nd0 67));unfold vC;by_cases h:255 < l.length
 ·rw [if_pos h];unfold aL6 at R;simp only [if_pos h] at R;exact zR (by decide) (R.mono (by rintro e w1 ⟨rfl,rfl⟩;exact⟨rfl,Below.refl _ _⟩))
 ·rw [if_neg h];unfold aL6 at R;simp only [if_neg h] at R;cases hx:gP l with
  | none=>
   rw [hx] at R;exact zR (by decide) (R.mono (by rintro e w1 ⟨h1,rfl⟩;exact⟨rfl,h1⟩))
  | some ts=>
   rw [hx] at R;have hts:ts.length<=255:=aJj hx (by omega);exact aDj T (fun x hxm=>⟨aIZ hx x hxm,aI1 (by omega) hx x hxm⟩) hts (R.mono (by
    rintro e w1 ⟨h1,v,rfl,h2,h3⟩;exact⟨v,rfl,h2,h1⟩))
end Go.Proofs.YtlhoklhjbpkgpaaGreatDoor
namespace Go.Proofs.YtlhoklhjbpkgpaaGreatDoor
open Go.RowKit
theorem aNC (r c:Int) (hi:inB r c=false) (w:World):CR 97 #[.int .i64 r,.int .i64 c] w (.string ⟨#[]⟩):=by
 have IN:=fun u=>rT r c u;rw [hi] at IN;clear hi;go_enter Tryz.func97,Tryz.ntmps97;go_wp2_with (go_at_call 145;refine mw (IN _) ?_)
 go_ret;exact⟨rfl,Below.refl _ _⟩
theorem aL8 (r c:Int) (w:World):CR 97 #[.int .i64 r,.int .i64 c] w (.string (ctB r c)):=by
 unfold ctB;cases hi:inB r c
 ·exact aNC r c hi w
 ·obtain ⟨R,C,rfl,rfl,q1,q2,q3,q4⟩:=aMO hi;exact aKE R C hi q1 q2 q3 q4 w
end Go.Proofs.YtlhoklhjbpkgpaaGreatDoor
namespace Go.Proofs.YtlhoklhjbpkgpaaGreatDoor.Sh
open Go.RowKit Go.Fm
theorem aJ7 (r c:Int):inB r c=iZ r c:=by unfold inB iZ;rw [Bool.eq_iff_iff];simp;omega
theorem aOx (r c:Int) (h:iZ r c=true):(ctB r c).toList ≠ []:=by rw [<-aJ7] at h;unfold ctB;rw [if_pos h];unfold bE Ad.cellW;rw [ByteArray.toList_eq];simp
theorem wH (r c:Int) (w:World):CR 59 #[.int .i64 r,.int .i64 c] w (.bool (iZ r c)):=by
 have C:=aL8 r c w;cases hin:iZ r c with
 | false=>
  have e:ctB r c=⟨#[]⟩:=by unfold ctB;rw [aJ7,hin];rfl
  rw [e] at C;clear e hin;go_enter Tryz.func59,Tryz.ntmps59;go_wp2_with (go_at_call 97;refine C.mono ?_;clear C;rintro e w1 ⟨rfl,hb⟩;have HB:Hid _:=hb;clear hb)
  go_ret;exact⟨rfl,HB.out⟩
 | true=>
  have hne:=aOx r c hin;have hb0:((ctB r c).toList==[])=false:=by simpa using hne
  generalize ctB r c=s at *;clear hin hne;go_enter Tryz.func59,Tryz.ntmps59;go_wp2_with (go_at_call 97;refine C.mono ?_;clear C;rintro e w1 ⟨rfl,hb⟩;have HB:Hid _:=hb;clear hb)
  go_ret;exact⟨rfl,HB.out⟩
theorem aND (a b:aK):decide (jU a b < 0)=ltB a b:=by rw [Bool.eq_iff_iff,gK,decide_eq_true_iff];exact pE
theorem rH (x y:aK) (w:World):CR 94 #[cellV x,cellV y] w (.bool (ltB y x)):=by
 have HB:Hid (Below w.heap.size w ((w.alloc (ceO x)).alloc (ceO y))):=Sh.aD (Sh.aD (Below.refl _ _) (Nat.le_refl _) _) (Nat.le_refl _) _;have h1:((w.alloc (ceO x)).alloc (ceO y)).heap[w.heap.size]? =some (ceO x):=by rw [((Below.refl (w.alloc (ceO x)).heap.size (w.alloc (ceO x))).alloc (Nat.le_refl _) (ceO y)).block _ (by simp)];exact heap_alloc_new w _
 have h2:((w.alloc (ceO x)).alloc (ceO y)).heap[w.heap.size+1]? =some (ceO y):=by have:=heap_alloc_new (w.alloc (ceO x)) (ceO y);rw [show (w.alloc (ceO x)).heap.size=w.heap.size+1 by simp] at this;exact this
 obtain⟨a0,a1,a2⟩:=bZ h1;obtain⟨b0,b1,b2⟩:=bZ h2;have HL:Hid (ltB y x=decide (y.row < x.row\/y.row=x.row/\y.col < x.col)):=rfl;generalize ltB y x=r at *;obtain⟨xr,xc,xt⟩:=x;obtain⟨yr,yc,yt⟩:=y;dsimp only at *;clear h1 h2;by_cases e1:yr < xr
 ·obtain rfl:r=true:=HL.out.trans (by simp [e1]);go_enter Tryz.func94,Tryz.ntmps94;go_wp2;go_ret;exact⟨rfl,HB.out⟩
 ·by_cases e2:xr=yr
  ·subst e2;by_cases e3:yc < xc
   ·obtain rfl:r=true:=HL.out.trans (by simp [e3]);go_enter Tryz.func94,Tryz.ntmps94;go_wp2;go_ret;exact⟨rfl,HB.out⟩
   ·obtain rfl:r=false:=HL.out.trans (by simp;omega);go_enter Tryz.func94,Tryz.ntmps94;go_wp2;go_ret;exact⟨rfl,HB.out⟩
  ·obtain rfl:r=false:=HL.out.trans (by simp;omega);go_enter Tryz.func94,Tryz.ntmps94;go_wp2;go_ret;exact⟨rfl,HB.out⟩
theorem aL9 (l:List UInt8) (h:l.length<=255):(vC l).2=0\/(vC l).2=10:=by
 unfold vC;rw [if_neg (by omega)];split
 ·exact .inr rfl
 ·split
  ·exact .inr rfl
  ·exact .inl rfl
theorem aEE (s:ByteArray):(s.data.toList=[]/\(Ad.strip 61 s.data.toList).1=false)\/∃x r,s.data.toList=x:: r/\((x=61/\Ad.strip 61 s.data.toList=(true,r))\/(x ≠ 61/\(Ad.strip 61 s.data.toList).1=false)):=by
 cases h:s.data.toList with
 | nil=>exact .inl ⟨rfl,rfl⟩
 | cons x r=>
  refine .inr ⟨x,r,rfl, ?_⟩;by_cases e:x=61
  ·exact .inl ⟨e,by subst e;simp [Ad.strip]⟩
  ·exact .inr ⟨e,by simp [Ad.strip,e]⟩
theorem zS (s:ByteArray) (w:World) (T:dD w):CR 27 #[.string s] w (.int .i64 (dI s)):=by
 by_cases hlong:255 < s.size
 ·have hm:dI s=3:=by unfold dI;rw [if_pos hlong]
  rw [hm];have hli:(255:Int) < s.size:=by omega
  go_enter Tryz.func27,Tryz.ntmps27;go_wp2;go_ret;exact⟨rfl,Below.refl _ _⟩
 have hli:¬(255:Int) < s.size:=by omega
 have hsz:s.data.toList.length=s.size:=by cases s;simp [ByteArray.size]
 rcases aEE s with ⟨h1,h2⟩ | ⟨x,r,h1,⟨rfl,h2⟩ | ⟨h2,h3⟩⟩
 ·have hm:dI s=0:=by unfold dI;rw [if_neg hlong,h2];rfl
  rw [hm];have e0:(s.toList==[])=true:=by rw [ByteArray.toList_eq,h1];rfl
  clear h1 h2 hm hsz;go_enter Tryz.func27,Tryz.ntmps27;go_wp2;go_ret;exact⟨rfl,Below.refl _ _⟩
 ·have hpe:=aL9 r (by rw [h1] at hsz;simp at hsz;omega);have hm:dI s=(vC r).2:=by unfold dI;rw [if_neg hlong,h2];rcases hpe with h | h <;> simp [h]
  rw [hm];have e0:(s.toList==[])=false:=by rw [ByteArray.toList_eq,h1];rfl
  have hrl:r.length=s.size - 1:=by rw [<-hsz,h1];simp
  have hnn:0 < s.size:=by rw [<-hsz,h1];simp
  have hn0:(0:Int) < s.size:=by omega
  have hidx:s[0]'hnn=61:=by
   show s.data[0]'(by have:s.data.size=s.size:=rfl;omega)=61;have:s.data.toList[0]? =some 61:=by rw [h1];rfl
   rw [Array.getElem?_toList] at this;exact(Array.getElem?_eq_some_iff.1 this).2
  have hcut:s.extract 1 s.size=ba r:=by apply ByteArray.ext;apply Array.ext';rw [ByteArray.data_extract,Array.toList_extract,h1];show (List.drop 1 (61:: r)).take (s.size - 1)=r;rw [List.drop_succ_cons,List.drop_zero,List.take_of_length_le (by omega)]
  have P2:Calls Tryz.prog 75 #[.string (ba r)] w fun e w'=>∃es,e=.returned (.tuple #[.agg es,.int .i64 (vC r).2])/\Hid ((Instr.storeAt 67 (pt w'.heap.size) (.agg es)).run Tryz.prog (w'.alloc (.cells nd0 67))=.ok () (w'.alloc (.cells es 67)))/\Hid (Below w.heap.size w (w'.alloc (.cells es 67))):=(aED r w T).mono (by
   rintro e w1 ⟨es,rfl,hN,hb⟩;exact⟨es,rfl,(aCE w1 hN).1,Sh.aD hb (Nat.le_refl _) _⟩)
  clear h1 h2 hm hsz hpe hrl;generalize (vC r).2=pe at *;generalize ba r=rs at *;go_enter Tryz.func27,Tryz.ntmps27;go_wp2_with (first|(go_at_call 75;refine P2.mono ?_;clear P2;rintro e w1 ⟨es,rfl,RS,HB⟩)|(refine aB rfl 67 _ _ rfl _ _ _ rfl rfl RS.out ?_;clear RS))
  go_ret;exact⟨rfl,HB.out⟩
 ·have hm:dI s=0:=by unfold dI;rw [if_neg hlong,h3];rfl
  rw [hm];have e0:(s.toList==[])=false:=by rw [ByteArray.toList_eq,h1];rfl
  have hnn:0 < s.size:=by rw [<-hsz,h1];simp
  have hn0:(0:Int) < s.size:=by omega
  have hidx:s[0]'hnn=x:=by
   show s.data[0]'(by have:s.data.size=s.size:=rfl;omega)=x;have:s.data.toList[0]? =some x:=by rw [h1];rfl
   rw [Array.getElem?_toList] at this;exact(Array.getElem?_eq_some_iff.1 this).2
  have hx:((x.toNat:Int)==61)=false:=by have:x.toNat ≠ 61:=fun h=>h2 (UInt8.toNat_inj.1 h);simp;omega
  clear h1 h2 h3 hm hsz;go_enter Tryz.func27,Tryz.ntmps27;go_wp2;go_ret;exact⟨rfl,Below.refl _ _⟩
theorem aEF {lo hi:Nat} {w:World} {a:Option Addr} {c:Nat} {L:List aK} (h:Cls lo hi w (.slice a L.length c) L) (hhi:hi<=w.heap.size) (T:dD w):
  CR 50 #[.slice a L.length c] w (.int .i64 (bW L)):=by
 obtain⟨_,_,he,hz1,hz2⟩:=h.slice;cases he
 have hlen:L.length<=9223372036854775807:=by unfold maxLen at hz2;omega
 have HS:Hid (Cls lo hi w (.slice a L.length c) L):=h;have HT:Hid (dD w):=T;generalize hO:bW L=tf;have HO:Hid (bW (L.drop 0)=tf):=by show _=_;rw [List.drop_zero];exact hO
 clear h hz1 hz2 hO T;go_enter Tryz.func50,Tryz.ntmps50;go_wp2;go_loopw [8] (fun i wr=>∃(k:Nat),k<=L.length/\i=.int .i64 (k:Nat)/\Hid (bW (L.drop k)=tf)/\Hid (Below w.heap.size w wr)) (fun i _=>L.length - (intOf i).toNat)
 case atStart=>exact⟨0,Nat.zero_le _,rfl,HO,Below.refl _ _⟩
 case round=>
  obtain⟨k,hk,rfl,HA,HD⟩:=hrel;clear HO;by_cases hkL:k < L.length
  ·have hki:(k:Int) < L.length:=by omega
   obtain⟨a',ov,W',rfl,rfl,hW',R2,R3, -⟩:=(HS.out.below hhi HD.out).runs hkL;obtain⟨_,_,c2⟩:=bZ (show W'.heap[wr.heap.size]? =some (.cells (cellC L[k]).toArray 57) by rw [hW'];exact heap_alloc_new wr _);have HD2:Hid (Below w.heap.size w W'):=by rw [hW'];exact Sh.aD HD.out (Nat.le_refl _) _
   have C:=zS L[k].text W' (HT.out.below HD2.out);have iJ:k < 9223372036854775807:=by omega
   have HX:Hid (dI L[k].text ≠ 0->tf=dI L[k].text):=fun e=>by rw [<-HA.out,List.drop_eq_getElem_cons hkL];unfold bW;rw [if_pos e]
   have HY:Hid (dI L[k].text=0->bW (L.drop (k+1))=tf):=fun e=>by rw [<-HA.out,List.drop_eq_getElem_cons hkL,bW,if_neg (by simpa using e)]
   clear hW';generalize L[k]=y at *;obtain⟨yr,yc,yt⟩:=y;dsimp only at *;generalize dI yt=me at *;by_cases e1:me=0
   ·have HY2:Hid _:=HY.out e1;subst e1;clear HX HY;go_wp2_with (first|(refine aC rfl 57 _ rfl _ _ rfl R2.out ?_;clear R2)|(refine aB rfl 57 _ _ rfl _ _ _ rfl rfl R3.out ?_;clear R3)|(go_at_call 27;refine C.mono ?_;clear C;rintro e w1 ⟨rfl,hb⟩;have HB1:Hid _:=Sh.aF HD2.out HD2.out.size hb;clear hb))
    go_roundw
    case rel=>exact⟨k+1,by omega,by go_num,HY2,HB1⟩
    case measure=>simp [intOf];omega
   ·have hpb:(me !=0)=true:=by simpa using e1
    obtain rfl:=HX.out e1;clear HX HY;go_wp2_with (first|(refine aC rfl 57 _ rfl _ _ rfl R2.out ?_;clear R2)|(refine aB rfl 57 _ _ rfl _ _ _ rfl rfl R3.out ?_;clear R3)|(go_at_call 27;refine C.mono ?_;clear C;rintro e w1 ⟨rfl,hb⟩;have HB1:Hid _:=Sh.aF HD2.out HD2.out.size hb;clear hb))
    go_ret;exact⟨rfl,HB1.out⟩
  ·have hki:¬(k:Int) < L.length:=by omega
   obtain rfl:tf=0:=by rw [<-HA.out,List.drop_of_length_le (by omega)];rfl
   go_wp2;go_ret;exact⟨rfl,HD.out⟩
theorem rJ {lo hi:Nat} {w:World} {sv nv lv:Value} {x:aU} (h:BkM lo hi w sv nv lv x) (hhi:hi<=w.heap.size) (hz:bK x.aA<=4611686018427387904):
  CR 25 #[.agg #[sv,nv,lv]] w (.int .i64 (bK x.aA:Nat)):=by
 obtain⟨sa,sc,rfl,hs1,hs2⟩:=h.sh.slice;obtain⟨na,nc,rfl,_,_⟩:=h.nm.slice;obtain⟨la,lc,rfl,_,_⟩:=h.lk.slice;have HB:Hid (Below w.heap.size w (w.alloc (bkO (.slice sa x.aA.length sc) (.slice na x.names.length nc) (.slice la x.links.length lc)))):=aD (Below.refl _ _) (Nat.le_refl _) _;have c0:=aH (heap_alloc_new w (bkO (.slice sa x.aA.length sc) (.slice na x.names.length nc) (.slice la x.links.length lc))) (j:=0) rfl;have HS:Hid (Shs lo hi w (.slice sa x.aA.length sc) x.aA):=h.sh;have hlen:x.aA.length<=9223372036854775807:=by unfold maxLen at hs2;omega
 generalize hT:bK x.aA=tot at *;have HT:Hid (bK x.aA=tot):=hT;clear h hs1 hs2 hT;go_enter Tryz.func25,Tryz.ntmps25;go_wp2;go_loopw [3,9] (fun m i wr=>∃(k q:Nat),k<=x.aA.length/\i=.int .i64 (k:Nat)/\m=.int .i64 (q:Nat)/\q=bK (x.aA.take k)/\Hid (Below w.heap.size w wr)) (fun _ i _=>x.aA.length - (intOf i).toNat)
 case atStart=>exact⟨0,0,Nat.zero_le _,rfl,rfl,rfl,HB⟩
 case round=>
  obtain⟨k,q,hk,rfl,rfl,hq,HD⟩:=hrel;clear HB;by_cases hkL:k < x.aA.length
  ·have hki:(k:Int) < x.aA.length:=by omega
   obtain⟨a',cv,ov,W,rfl,rfl,hcl,hW,R1,R2, -⟩:=(HS.out.below hhi HD.out).runs hkL;obtain⟨ca,cc,rfl,_,_⟩:=hcl.slice;have c1:=aH (show W.heap[wr.heap.size]? =some (.cells #[.string x.aA[k].name,.slice ca x.aA[k].cells.length cc] 78) by rw [hW];exact heap_alloc_new wr _) (j:=1) rfl;have HD2:Hid (Below w.heap.size w W):=by rw [hW];exact aD HD.out (Nat.le_refl _) _
   have iJ:k < 9223372036854775807:=by omega
   have hs:=yI hkL;have hle:=aD2 (L:=x.aA) (k+1);rw [HT.out] at hle;clear hcl hW;generalize x.aA[k]=y at *;obtain⟨yn,yc⟩:=y;dsimp only at *;have hw:(q:Int)+(yc.length:Nat)=((q+yc.length:Nat):Int):=by omega
   have hm:IntKind.i64.wrap ((q+yc.length:Nat):Int)=((q+yc.length:Nat):Int):=by rw [IntKind.wrap_i64];omega
   generalize hqq:q+yc.length=q2 at *;go_wp2_with (first|(refine aC rfl 78 _ rfl _ _ rfl R1.out ?_;clear R1)|(refine aB rfl 78 _ _ rfl _ _ _ rfl rfl R2.out ?_;clear R2))
   go_roundw
   case rel=>exact⟨k+1,q2,by omega,by go_num,by go_num,by omega,HD2⟩
   case measure=>simp [intOf];omega
  ·have hki:¬(k:Int) < x.aA.length:=by omega
   obtain rfl:q=tot:=by rw [hq,List.take_of_length_le (by omega)];exact HT.out
   go_wp2;go_ret;exact⟨rfl,HD.out⟩
theorem kY {lo hi:Nat} {w:World} {sv nv lv:Value} {x:aU} (h:BkM lo hi w sv nv lv x) (hhi:hi<=w.heap.size) (s:ByteArray):
  CR 21 #[.agg #[sv,nv,lv],.string s] w (.int .i64 (dK (eZ x.aA s))):=by
 obtain⟨sa,sc,rfl,hs1,hs2⟩:=h.sh.slice;obtain⟨na,nc,rfl,_,_⟩:=h.nm.slice;obtain⟨la,lc,rfl,_,_⟩:=h.lk.slice;have HB:Hid (Below w.heap.size w (w.alloc (bkO (.slice sa x.aA.length sc) (.slice na x.names.length nc) (.slice la x.links.length lc)))):=Sh.aD (Below.refl _ _) (Nat.le_refl _) _;have c0:=aH (heap_alloc_new w (bkO (.slice sa x.aA.length sc) (.slice na x.names.length nc) (.slice la x.links.length lc))) (j:=0) rfl;have HS:Hid (Shs lo hi w (.slice sa x.aA.length sc) x.aA):=h.sh;have hlen:x.aA.length<=9223372036854775807:=by unfold maxLen at hs2;omega
 generalize hT:dK (eZ x.aA s)=tot at *;have HT:Hid (dK (eZ x.aA s)=tot):=hT;clear h hs1 hs2 hT;go_enter Tryz.func21,Tryz.ntmps21;go_wp2;go_loopw [10] (fun i wr=>∃(k:Nat),k<=x.aA.length/\i=.int .i64 (k:Nat)/\Hid (∀j (hj:j < x.aA.length),j < k->(x.aA[j].name.toList==s.toList)=false)/\Hid (Below w.heap.size w wr)) (fun i _=>x.aA.length - (intOf i).toNat)
 case atStart=>exact⟨0,Nat.zero_le _,rfl,fun j _ hj=>by omega,HB⟩
 case round=>
  obtain⟨k,hk,rfl,HA,HD⟩:=hrel;clear HB;by_cases hkL:k < x.aA.length
  ·have hki:(k:Int) < x.aA.length:=by omega
   obtain⟨a',cv,ov,W,rfl,rfl,hcl,hW,R1,R2, -⟩:=(HS.out.below hhi HD.out).runs hkL;obtain⟨ca,cc,rfl,_,_⟩:=hcl.slice;have c1:=aH (show W.heap[wr.heap.size]? =some (.cells #[.string x.aA[k].name,.slice ca x.aA[k].cells.length cc] 78) by rw [hW];exact heap_alloc_new wr _) (j:=0) rfl;have HD2:Hid (Below w.heap.size w W):=by rw [hW];exact Sh.aD HD.out (Nat.le_refl _) _
   have iJ:k < 9223372036854775807:=by omega
   have HX:Hid ((x.aA[k].name.toList==s.toList)=true->tot=(k:Int)):=fun e=>by rw [<-HT.out];unfold eZ;rw [iR hkL (fun j hj=>HA.out j (by omega) hj) e];rfl
   have HY:Hid ((x.aA[k].name.toList==s.toList)=false->∀j (hj:j < x.aA.length),j < k+1->(x.aA[j].name.toList==s.toList)=false):=fun e j hj hlt=>by
    by_cases hjk:j=k
    ·subst hjk;exact e
    ·exact HA.out j hj (by omega)
   clear hcl hW;generalize x.aA[k]=y at *;obtain⟨yn,yc⟩:=y;dsimp only at *;cases e1:yn.toList==s.toList with
   | true=>
    obtain rfl:=HX.out e1;clear HX HY HT;go_wp2_with (first|(refine aC rfl 78 _ rfl _ _ rfl R1.out ?_;clear R1)|(refine aB rfl 78 _ _ rfl _ _ _ rfl rfl R2.out ?_;clear R2))
    go_ret;exact⟨rfl,HD2.out⟩
   | false=>
    have HY2:Hid _:=HY.out e1;clear HX HY HT;go_wp2_with (first|(refine aC rfl 78 _ rfl _ _ rfl R1.out ?_;clear R1)|(refine aB rfl 78 _ _ rfl _ _ _ rfl rfl R2.out ?_;clear R2))
    go_roundw
    case rel=>exact⟨k+1,by omega,by go_num,HY2,HD2⟩
    case measure=>simp [intOf];omega
  ·have hki:¬(k:Int) < x.aA.length:=by omega
   obtain rfl:tot= -1:=by rw [<-HT.out];unfold eZ;rw [iQ fun j hj=>HA.out j hj (by omega)];rfl
   go_wp2;go_ret;exact⟨rfl,HD.out⟩
end Go.Proofs.YtlhoklhjbpkgpaaGreatDoor.Sh
