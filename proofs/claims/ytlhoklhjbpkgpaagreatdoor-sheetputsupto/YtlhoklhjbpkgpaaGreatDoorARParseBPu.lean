/- VTyped, VJoin, AName, AGood, ARName, APrint, ADig, ARCell, ARow, AParse, AParse2, ARParse, ARParseB. -/
import Derived.Test.YtlhoklhjbpkgpaaGreatDoorVMakePu
set_option linter.unusedVariables false
set_option linter.unusedSimpArgs false
set_option maxHeartbeats 16000000
set_option maxRecDepth 100000
namespace Go.Proofs.YtlhoklhjbpkgpaaGreatDoor
open Go.RowKit
def qB (s:ByteArray):Nat:=if s=fnm 1 then 1 else if s=fnm 2 then 2 else if s=fnm 3 then 3 else if s=fnm 4 then 4 else if s=fnm 5 then 5 else if s=fnm 6 then 6 else if s=fnm 7 then 7 else if s=fnm 8 then 8 else 0
theorem aDI (s:ByteArray):qB s<=8:=by
 unfold qB;repeat' split
 all_goals omega
theorem aH5 (s:ByteArray) (h:qB s ≠ 0):s=fnm (qB s):=by
 unfold qB at h ⊢;repeat' split
 all_goals first | assumption | (exfalso;simp_all)
theorem aML:∀i,i < 9->∀j,j < 9->i ≠ j->fnm i ≠ fnm j:=by decide
theorem aKA (s:ByteArray) (j:Nat) (h1:1<=j) (h8:j<=8) (h:qB s ≠ j):fnm j ≠ s:=by
 rintro rfl;by_cases h0:qB (fnm j)=0
 ·have hj:j=1\/j=2\/j=3\/j=4\/j=5\/j=6\/j=7\/j=8:=by omega
  rcases hj with rfl | rfl | rfl | rfl | rfl | rfl | rfl | rfl <;> revert h0 <;> decide
 ·exact aML j (by omega) _ (by have:=aDI (fnm j);omega) (Ne.symm h) (aH5 _ h0)
theorem aH6 {a b:ByteArray} (h:a ≠ b):(a.toList==b.toList)=false:=by rw [beq_eq_false_iff_ne];intro e;rw [ByteArray.toList_eq,ByteArray.toList_eq] at e;exact h (Go.WideShapes.bytes_inj e)
theorem aEX (j:Nat) (h1:1<=j) (h8:j<=8):fnB (j:Int)=fnm j:=by
 have:knB (j:Int)=true:=by simp [knB];omega
 simp [fnB,this]
theorem aA0 (j:Nat) (h1:1<=j) (h8:j<=8):knB (j:Int)=true:=by simp [knB];omega
theorem aDJ (s:ByteArray) (w:World) (T:xP w):CW 207 #[.string s] w (.tuple #[.int .i64 (qB s:Nat),.bool (decide (qB s ≠ 0))]):=by
 have hle:=aDI s;have HI:Hid (qB s ≠ 0->s=fnm (qB s)):=aH5 s;have HN:Hid (∀j:Nat,1<=j->j<=8->qB s ≠ j->fnm j ≠ s):=fun j=>aKA s j;generalize qB s=m at *;have KN:=fun (j:Nat) (h1:1<=j) (h8:j<=8) (u:World)=>(kK (j:Int) u)
 have FN:=fun (j:Nat) (u:World) (hu:xP u)=>uL (j:Int) u hu;go_enter Tryz.func207,Tryz.ntmps207;go_wp2;go_loop [4] (fun f=>∃j:Nat,1<=j/\j<=9/\f=.int .i64 j/\(m=0\/j<=m)) (fun f=>9 - (intOf f).toNat)
 case atStart=>exact⟨1,by omega,by omega,rfl,by omega⟩
 case round=>
  obtain⟨j,h1,h9,rfl,hm⟩:=hrel;by_cases h8:j<=8
  ·have K:=fun u=>kK (j:Int) u;have F:=uL (j:Int) w T;rw [aA0 j h1 h8] at K;rw [aEX j h1 h8] at F;by_cases hj:m=j
   ·subst hj;have hs:=HI.out (by omega);have HD:Hid (decide (m ≠ 0)=true):=by show _=_;simp;omega
    subst hs;clear hm;go_wp2_with (first|(go_at_call 254;refine mw (K _) ?_) | (go_at_call 218;refine mw F ?_))
    go_ret2;exact⟨by rw [HD.out];rfl,rfl⟩
   ·have hne:=aH6 (HN.out j h1 h8 hj);go_wp2_with (first|(go_at_call 254;refine mw (K _) ?_) | (go_at_call 218;refine mw F ?_))
    go_round
    case rel=>exact⟨j+1,by omega,by omega,by go_num,by omega⟩
    case measure=>simp [intOf];omega
  ·have K:=fun u=>kK (j:Int) u;have hk:knB (j:Int)=false:=by simp [knB];omega
   rw [hk] at K;have h0:m=0:=by omega
   subst h0;go_wp2_with (first|(go_at_call 254;refine mw (K _) ?_))
   go_ret2;exact⟨rfl,rfl⟩
theorem aB8 (s:ByteArray) (w:World) (h:s.toList=[]):CR 160 #[.string s] w (.agg #[.int .i64 0,.int .i64 0,.string ⟨#[]⟩]):=by go_enter Tryz.func160,Tryz.ntmps160;go_wp2;exact bodyPost_ret (v:=.agg #[.int .i64 0,.int .i64 0,.string ⟨#[]⟩]) (by simp [results,Tryz.results160,go_sem]) rfl ⟨rfl,(Below.refl _ _).alloc (Nat.le_refl _) _⟩
theorem aB9 (s:ByteArray) (w:World) (hne:¬s.toList=[]) (R:ByteArray) (PF:∀u:World,CW 73 #[.string s,.string ⟨#[39]⟩] u (.tuple #[.string R,.bool true])):CR 160 #[.string s] w (.agg #[.int .i64 2,.int .i64 0,.string R]):=by
 have hne2:(s.toList==[])=false:=by simpa using hne
 have HB0:Hid (Below (w.alloc (.cells #[.int .i64 0,.int .i64 0,.string ⟨#[]⟩] 62)).heap.size (w.alloc (.cells #[.int .i64 0,.int .i64 0,.string ⟨#[]⟩] 62)) (w.alloc (.cells #[.int .i64 0,.int .i64 0,.string ⟨#[]⟩] 62))):=Below.refl _ _;go_enter Tryz.func160,Tryz.ntmps160;go_wp2_with (first|(go_at_call 73;refine mw (PF _) ?_) | (go_at_call 202;refine (uM _ _).mono ?_;rintro e w1 ⟨rfl,hb⟩;have HB1:Hid (Below (w.alloc (.cells #[.int .i64 0,.int .i64 0,.string ⟨#[]⟩] 62)).heap.size (w.alloc (.cells #[.int .i64 0,.int .i64 0,.string ⟨#[]⟩] 62)) w1):=aF HB0.out hb;obtain⟨⟨c0,c1,c2⟩,f0,f1,f2⟩:=fD HB1.out;clear hb))
 exact bodyPost_ret (v:=.agg #[.int .i64 2,.int .i64 0,.string R]) (by simp [results,Tryz.results160,go_sem,c0,c1,c2]) rfl ⟨rfl,aB7 (gU HB1.out)⟩
theorem aF0 (s:ByteArray) (w:World) (hne:¬s.toList=[]) (R:ByteArray) (PF:∀u:World,CW 73 #[.string s,.string ⟨#[39]⟩] u (.tuple #[.string R,.bool false])) (v:Int) (PP:∀u:World,CR 203 #[.string s] u (.tuple #[.int .i64 v,.bool true])) (hg:gd v=true):CR 160 #[.string s] w (.agg #[.int .i64 1,.int .i64 v,.string ⟨#[]⟩]):=by
 have hne2:(s.toList==[])=false:=by simpa using hne
 have HB0:Hid (Below (w.alloc (.cells #[.int .i64 0,.int .i64 0,.string ⟨#[]⟩] 62)).heap.size (w.alloc (.cells #[.int .i64 0,.int .i64 0,.string ⟨#[]⟩] 62)) (w.alloc (.cells #[.int .i64 0,.int .i64 0,.string ⟨#[]⟩] 62))):=Below.refl _ _;have OF:=fun u=>aH4 v true u;rw [show ofV v true=.agg #[.int .i64 1,.int .i64 v,.string ⟨#[]⟩] by simp [ofV,hg]] at OF;go_enter Tryz.func160,Tryz.ntmps160;go_wp2_with (first|(go_at_call 73;refine mw (PF _) ?_) | (go_at_call 203;refine (PP _).mono ?_;rintro e w1 ⟨rfl,hb⟩;have HB1:Hid (Below (w.alloc (.cells #[.int .i64 0,.int .i64 0,.string ⟨#[]⟩] 62)).heap.size (w.alloc (.cells #[.int .i64 0,.int .i64 0,.string ⟨#[]⟩] 62)) w1):=aF HB0.out hb;obtain⟨⟨c0,c1,c2⟩,f0,f1,f2⟩:=fD HB1.out;clear hb) | (go_at_call 204;refine (OF _).mono ?_;rintro e w2 ⟨rfl,hb⟩;have HB2:Hid (Below (w.alloc (.cells #[.int .i64 0,.int .i64 0,.string ⟨#[]⟩] 62)).heap.size (w.alloc (.cells #[.int .i64 0,.int .i64 0,.string ⟨#[]⟩] 62)) w2):=aF HB1.out hb;obtain⟨⟨c0,c1,c2⟩,f0,f1,f2⟩:=fD HB2.out;clear hb))
 exact bodyPost_ret (v:=.agg #[.int .i64 1,.int .i64 v,.string ⟨#[]⟩]) (by simp [results,Tryz.results160,go_sem,c0,c1,c2]) rfl ⟨rfl,aB7 (gU HB2.out)⟩
theorem aCa (s:ByteArray) (w:World) (hne:¬s.toList=[]) (R:ByteArray) (PF:∀u:World,CW 73 #[.string s,.string ⟨#[39]⟩] u (.tuple #[.string R,.bool false])) (v:Int) (PP:∀u:World,CR 203 #[.string s] u (.tuple #[.int .i64 v,.bool false])) (b:Bool) (PT:∀u:World,CR 205 #[.string s] u (.tuple #[.bool b,.bool true])):CR 160 #[.string s] w (.agg #[.int .i64 3,.int .i64 (if b=true then 1 else 0),.string ⟨#[]⟩]):=by
 have hne2:(s.toList==[])=false:=by simpa using hne
 have HB0:Hid (Below (w.alloc (.cells #[.int .i64 0,.int .i64 0,.string ⟨#[]⟩] 62)).heap.size (w.alloc (.cells #[.int .i64 0,.int .i64 0,.string ⟨#[]⟩] 62)) (w.alloc (.cells #[.int .i64 0,.int .i64 0,.string ⟨#[]⟩] 62))):=Below.refl _ _;have TV:=fun u=>aDH b u;generalize (if b=true then (1:Int) else 0)=z at *;go_enter Tryz.func160,Tryz.ntmps160;go_wp2_with (first|(go_at_call 73;refine mw (PF _) ?_) | (go_at_call 203;refine (PP _).mono ?_;rintro e w1 ⟨rfl,hb⟩;have HB1:Hid (Below (w.alloc (.cells #[.int .i64 0,.int .i64 0,.string ⟨#[]⟩] 62)).heap.size (w.alloc (.cells #[.int .i64 0,.int .i64 0,.string ⟨#[]⟩] 62)) w1):=aF HB0.out hb;obtain⟨⟨c0,c1,c2⟩,f0,f1,f2⟩:=fD HB1.out;clear hb) | (go_at_call 205;refine (PT _).mono ?_;rintro e w2 ⟨rfl,hb⟩;have HB2:Hid (Below (w.alloc (.cells #[.int .i64 0,.int .i64 0,.string ⟨#[]⟩] 62)).heap.size (w.alloc (.cells #[.int .i64 0,.int .i64 0,.string ⟨#[]⟩] 62)) w2):=aF HB1.out hb;obtain⟨⟨c0,c1,c2⟩,f0,f1,f2⟩:=fD HB2.out;clear hb) | (go_at_call 206;refine (TV _).mono ?_;rintro e w3 ⟨rfl,hb⟩;have HB3:Hid (Below (w.alloc (.cells #[.int .i64 0,.int .i64 0,.string ⟨#[]⟩] 62)).heap.size (w.alloc (.cells #[.int .i64 0,.int .i64 0,.string ⟨#[]⟩] 62)) w3):=aF HB2.out hb;obtain⟨⟨c0,c1,c2⟩,f0,f1,f2⟩:=fD HB3.out;clear hb))
 exact bodyPost_ret (v:=.agg #[.int .i64 3,.int .i64 z,.string ⟨#[]⟩]) (by simp [results,Tryz.results160,go_sem,c0,c1,c2]) rfl ⟨rfl,aB7 (gU HB3.out)⟩
theorem aCb (s:ByteArray) (w:World) (hne:¬s.toList=[]) (R:ByteArray) (PF:∀u:World,CW 73 #[.string s,.string ⟨#[39]⟩] u (.tuple #[.string R,.bool false])) (v:Int) (PP:∀u:World,CR 203 #[.string s] u (.tuple #[.int .i64 v,.bool false])) (b:Bool) (PT:∀u:World,CR 205 #[.string s] u (.tuple #[.bool b,.bool false])) (f:Int) (PL:∀u:World,Below (w.alloc (.cells #[.int .i64 0,.int .i64 0,.string ⟨#[]⟩] 62)).heap.size (w.alloc (.cells #[.int .i64 0,.int .i64 0,.string ⟨#[]⟩] 62)) u->CW 207 #[.string s] u (.tuple #[.int .i64 f,.bool true])) (hk:knB f=true):CR 160 #[.string s] w (.agg #[.int .i64 4,.int .i64 f,.string ⟨#[]⟩]):=by
 have hne2:(s.toList==[])=false:=by simpa using hne
 have HB0:Hid (Below (w.alloc (.cells #[.int .i64 0,.int .i64 0,.string ⟨#[]⟩] 62)).heap.size (w.alloc (.cells #[.int .i64 0,.int .i64 0,.string ⟨#[]⟩] 62)) (w.alloc (.cells #[.int .i64 0,.int .i64 0,.string ⟨#[]⟩] 62))):=Below.refl _ _;have BD:=fun u=>sH f u;rw [show xQ f=f by simp [xQ,hk]] at BD;go_enter Tryz.func160,Tryz.ntmps160;go_wp2_with (first|(go_at_call 73;refine mw (PF _) ?_) | (go_at_call 203;refine (PP _).mono ?_;rintro e w1 ⟨rfl,hb⟩;have HB1:Hid (Below (w.alloc (.cells #[.int .i64 0,.int .i64 0,.string ⟨#[]⟩] 62)).heap.size (w.alloc (.cells #[.int .i64 0,.int .i64 0,.string ⟨#[]⟩] 62)) w1):=aF HB0.out hb;obtain⟨⟨c0,c1,c2⟩,f0,f1,f2⟩:=fD HB1.out;clear hb) | (go_at_call 205;refine (PT _).mono ?_;rintro e w2 ⟨rfl,hb⟩;have HB2:Hid (Below (w.alloc (.cells #[.int .i64 0,.int .i64 0,.string ⟨#[]⟩] 62)).heap.size (w.alloc (.cells #[.int .i64 0,.int .i64 0,.string ⟨#[]⟩] 62)) w2):=aF HB1.out hb;obtain⟨⟨c0,c1,c2⟩,f0,f1,f2⟩:=fD HB2.out;clear hb) | (go_at_call 207;refine mw (PL _ HB2.out) ?_) | (go_at_call 208;refine (BD _).mono ?_;rintro e w3 ⟨rfl,hb⟩;have HB3:Hid (Below (w.alloc (.cells #[.int .i64 0,.int .i64 0,.string ⟨#[]⟩] 62)).heap.size (w.alloc (.cells #[.int .i64 0,.int .i64 0,.string ⟨#[]⟩] 62)) w3):=aF HB2.out hb;obtain⟨⟨c0,c1,c2⟩,f0,f1,f2⟩:=fD HB3.out;clear hb))
 exact bodyPost_ret (v:=.agg #[.int .i64 4,.int .i64 f,.string ⟨#[]⟩]) (by simp [results,Tryz.results160,go_sem,c0,c1,c2]) rfl ⟨rfl,aB7 (gU HB3.out)⟩
theorem aDK (s:ByteArray) (w:World) (hne:¬s.toList=[]) (R:ByteArray) (PF:∀u:World,CW 73 #[.string s,.string ⟨#[39]⟩] u (.tuple #[.string R,.bool false])) (v:Int) (PP:∀u:World,CR 203 #[.string s] u (.tuple #[.int .i64 v,.bool false])) (b:Bool) (PT:∀u:World,CR 205 #[.string s] u (.tuple #[.bool b,.bool false])) (f:Int) (PL:∀u:World,Below (w.alloc (.cells #[.int .i64 0,.int .i64 0,.string ⟨#[]⟩] 62)).heap.size (w.alloc (.cells #[.int .i64 0,.int .i64 0,.string ⟨#[]⟩] 62)) u->CW 207 #[.string s] u (.tuple #[.int .i64 f,.bool false])):CR 160 #[.string s] w (.agg #[.int .i64 2,.int .i64 0,.string s]):=by
 have hne2:(s.toList==[])=false:=by simpa using hne
 have HB0:Hid (Below (w.alloc (.cells #[.int .i64 0,.int .i64 0,.string ⟨#[]⟩] 62)).heap.size (w.alloc (.cells #[.int .i64 0,.int .i64 0,.string ⟨#[]⟩] 62)) (w.alloc (.cells #[.int .i64 0,.int .i64 0,.string ⟨#[]⟩] 62))):=Below.refl _ _;go_enter Tryz.func160,Tryz.ntmps160;go_wp2_with (first|(go_at_call 73;refine mw (PF _) ?_) | (go_at_call 203;refine (PP _).mono ?_;rintro e w1 ⟨rfl,hb⟩;have HB1:Hid (Below (w.alloc (.cells #[.int .i64 0,.int .i64 0,.string ⟨#[]⟩] 62)).heap.size (w.alloc (.cells #[.int .i64 0,.int .i64 0,.string ⟨#[]⟩] 62)) w1):=aF HB0.out hb;obtain⟨⟨c0,c1,c2⟩,f0,f1,f2⟩:=fD HB1.out;clear hb) | (go_at_call 205;refine (PT _).mono ?_;rintro e w2 ⟨rfl,hb⟩;have HB2:Hid (Below (w.alloc (.cells #[.int .i64 0,.int .i64 0,.string ⟨#[]⟩] 62)).heap.size (w.alloc (.cells #[.int .i64 0,.int .i64 0,.string ⟨#[]⟩] 62)) w2):=aF HB1.out hb;obtain⟨⟨c0,c1,c2⟩,f0,f1,f2⟩:=fD HB2.out;clear hb) | (go_at_call 207;refine mw (PL _ HB2.out) ?_) | (go_at_call 202;refine (uM _ _).mono ?_;rintro e w3 ⟨rfl,hb⟩;have HB3:Hid (Below (w.alloc (.cells #[.int .i64 0,.int .i64 0,.string ⟨#[]⟩] 62)).heap.size (w.alloc (.cells #[.int .i64 0,.int .i64 0,.string ⟨#[]⟩] 62)) w3):=aF HB2.out hb;obtain⟨⟨c0,c1,c2⟩,f0,f1,f2⟩:=fD HB3.out;clear hb))
 exact bodyPost_ret (v:=.agg #[.int .i64 2,.int .i64 0,.string s]) (by simp [results,Tryz.results160,go_sem,c0,c1,c2]) rfl ⟨rfl,aB7 (gU HB3.out)⟩
structure xR (w:World):Prop where
 p:qA w
 f:xP w
theorem xR.below {w w':World} (h:xR w) (hb:Below w.heap.size w w'):xR w':=⟨h.p.below hb,h.f.below hb⟩
abbrev val (k n:Int) (s:ByteArray):Value:=.agg #[.int .i64 k,.int .i64 n,.string s]
theorem aKB (k:Int):k=0\/k=1\/k=2\/k=3\/k=4\/(¬k=0/\¬k=1/\¬k=2/\¬k=3/\¬k=4):=by omega
theorem xS {k c:Int} (h:¬k=c):(k==c)=false:=by simpa using h
theorem aEY (s:ByteArray) (hs:s.size<=9223372036854775807) (u:World):CR 203 #[.string s] u (.tuple #[.int .i64 (bS s.data.toList).1,.bool (bS s.data.toList).2]):=by have:=aFN s.data.toList u (by rw [aX];exact hs);rw [lG] at this;exact this
theorem aH7 (s:ByteArray) (hs:s.size<=9223372036854775807) (u:World):CR 198 #[.string s] u (.tuple #[.int .i64 (bS s.data.toList).1,.bool (bS s.data.toList).2]):=by have:=aDy s.data.toList u (by rw [aX];exact hs);rw [lG] at this;exact this
theorem aCc (l:List UInt8):gd (bS l).1=true:=by unfold bS;split <;> first | exact aMH _ | rfl
def aEZ (k n:Int) (s:ByteArray):ByteArray:=
 if k=1 then ⟨(aAW n).toArray⟩ else if k=2 then s else if k=3 then (if (n !=0)=true then ⟨#[84,82,85,69]⟩ else ⟨#[70,65,76,83,69]⟩) else if k=4 then fnB n else ⟨#[]⟩
def dS (s:ByteArray):Int × Int × ByteArray:=
 if s.toList=[] then (0,0,⟨#[]⟩) else if s.data.toList.head? =some 39 then (2,0,⟨(s.data.toList.drop 1).toArray⟩)
 else if (bS s.data.toList).2=true then (1,(bS s.data.toList).1,⟨#[]⟩)
 else if (jR s).2=true then (3,if (jR s).1=true then 1 else 0,⟨#[]⟩)
 else if qB s=0 then (2,0,s) else (4,(qB s:Nat),⟨#[]⟩)
theorem aDL (s:ByteArray):((jR s).2=true/\(jR s).1=true/\qN (szF 97 65 s.data.toList)=1)\/((jR s).2=true/\(jR s).1=false/\qN (szF 97 65 s.data.toList)=0)\/((jR s).2=false/\qN (szF 97 65 s.data.toList)= -1):=by unfold jR;rcases mF (szF 97 65 s.data.toList) with ⟨_,h,g⟩ | ⟨_,h,g⟩ | ⟨_,_,h,g⟩ <;> simp [h,g]
theorem aF1 (k n:Int) (s:ByteArray) (hn:In64 n) (w:World) (T:xR w):
  CR 174 #[val k n s] w (.string (aEZ k n s)):=by
 rcases aKB k with rfl | rfl | rfl | rfl | rfl | ⟨h0,h1,h2,h3,h4⟩
 ·exact aB2 n s w
 ·exact aFT n s w _ (fun u hu=>aFP n hn u (T.below hu).p)
 ·exact aFU n s w
 ·exact aDB n s w _ (fun u=>aFR n s u)
 ·exact aFW n s w _ (fun u hu=>uL n u (T.below hu).f)
 ·have e:aEZ k n s=⟨#[]⟩:=by simp [aEZ,h1,h2,h3,h4]
  rw [e];exact aDC k n s w (xS h0) (xS h1) (xS h2) (xS h3) (xS h4)
theorem aMt (l:List UInt8):Lib.hasPrefix l [39]=decide (l.head? =some 39)/\Lib.trimPrefix l [39]=if l.head? =some 39 then l.drop 1 else l:=by
 cases l with
 | nil=>exact⟨rfl,rfl⟩
 | cons b l=>
  have h:Lib.hasPrefix (b:: l) [39]=decide ((b:: l).head? =some 39):=by unfold Lib.hasPrefix;simp [List.isPrefixOf];exact BEq.comm
  refine ⟨h, ?_⟩;unfold Lib.trimPrefix;rw [h];by_cases e:(b:: l).head? =some 39
  ·rw [if_pos e,if_pos (by simpa using e)];rfl
  ·rw [if_neg e,if_neg (by simpa using e)]
theorem aMM (s:ByteArray) (u:World):CW 73 #[.string s,.string ⟨#[39]⟩] u (.tuple #[.string ⟨(if s.data.toList.head? =some 39 then s.data.toList.drop 1 else s.data.toList).toArray⟩,.bool (decide (s.data.toList.head? =some 39))]):=by have h:=Tryz.strings_CutPrefix s ⟨#[39]⟩ u;rw [show (⟨#[39]⟩:ByteArray).data.toList=[39] from rfl,(aMt _).1,(aMt _).2] at h;exact h
theorem uN (s:ByteArray) (hs:s.size<=9223372036854775807) (w:World) (T:xR w):
  CR 160 #[.string s] w (val (dS s).1 (dS s).2.1 (dS s).2.2):=by
 have PF:=fun u=>aMM s u;have PP:=fun u=>aEY s hs u;have PT:=fun u=>aDG s hs u;have PL:∀u:World,Below (w.alloc (.cells #[.int .i64 0,.int .i64 0,.string ⟨#[]⟩] 62)).heap.size (w.alloc (.cells #[.int .i64 0,.int .i64 0,.string ⟨#[]⟩] 62)) u->_:=fun u hu=>aDJ s u (T.below (gU hu)).f;unfold dS;by_cases h0:s.toList=[]
 ·rw [if_pos h0];exact aB8 s w h0
 ·rw [if_neg h0];by_cases h1:s.data.toList.head? =some 39
  ·rw [if_pos h1];simp only [h1,if_true,decide_true] at PF;exact aB9 s w h0 _ PF
  ·rw [if_neg h1];simp only [h1,if_false,decide_false] at PF;by_cases h2:(bS s.data.toList).2=true
   ·rw [if_pos h2];rw [h2] at PP;exact aF0 s w h0 _ PF _ PP (aCc _)
   ·rw [if_neg h2];rw [Bool.not_eq_true] at h2;rw [h2] at PP;by_cases h3:(jR s).2=true
    ·rw [if_pos h3];rw [h3] at PT;exact aCa s w h0 _ PF _ PP _ PT
    ·rw [if_neg h3];rw [Bool.not_eq_true] at h3;rw [h3] at PT;by_cases h4:qB s=0
     ·rw [if_pos h4];simp only [h4,ne_eq,not_true_eq_false,decide_false] at PL;exact aDK s w h0 _ PF _ PP _ PT _ PL
     ·rw [if_neg h4];simp only [h4,ne_eq,not_false_eq_true,decide_true] at PL;have:=aDI s;exact aCb s w h0 _ PF _ PP _ PT _ PL (aA0 _ (by omega) (by omega))
def okC (c:UInt8):Bool:=Ad.isL c || Ad.isD c || (c==95)
def nQ (l:List UInt8):Bool:=match l with
 | []=>false
 | c:: _=>Ad.isL c
def spF (l:List UInt8):Bool:=decide (l.length<=16) && nQ l && l.all okC
def lcF (l:List UInt8):Bool:=(l.drop 1).all Ad.isD && decide (1 < l.length)
def gnF (l:List UInt8):Bool:=spF l && !lcF l && !(jR ⟨l.toArray⟩).2
theorem aA1 (p:UInt8->Bool) (s:ByteArray) (k:Nat) (h:k < s.size) (hall:s.data.toList.all p=true):p s[k]=true:=by rw [byte_at s k h (by rw [aX];exact h)];exact List.all_eq_true.1 hall _ (List.getElem_mem _)
theorem oV (p:UInt8->Bool) (s:ByteArray) (k:Nat) (h:k < s.size) (ha:(s.data.toList.take k).all p=true) (hb:p s[k]=true):(s.data.toList.take (k+1)).all p=true:=by rw [jE _ _ (by rw [aX];exact h),List.all_append,ha,<-byte_at s k h (by rw [aX];exact h)];simp [hb]
theorem aF2:∀(l:List UInt8) (h:0 < l.length),nQ l=Ad.isL l[0]
 | [],h=>by simp at h
 | a:: r,h=>rfl
theorem aE0 (s:ByteArray) (h:0 < s.size):nQ s.data.toList=Ad.isL s[0]:=by rw [byte_at s 0 h (by rw [aX];exact h)];exact aF2 _ _
theorem eG (c d:UInt8):(c=d/\((c.toNat:Int)==(d.toNat:Int))=true)\/(c ≠ d/\((c.toNat:Int)==(d.toNat:Int))=false):=by
 by_cases h:c=d
 ·subst h;left;exact⟨rfl,by simp⟩
 ·right;refine ⟨h, ?_⟩;rw [beq_eq_false_iff_ne];intro e;exact h (UInt8.toNat_inj.1 (by omega))
theorem aCd (s:ByteArray) (hs:s.size<=9223372036854775807) (w:World):
  CR 110 #[.string s] w (.bool (spF s.data.toList)):=by
 have hl:=aX s;generalize hr:spF s.data.toList=r;have HR:Hid (spF s.data.toList=r):=hr;clear hr;by_cases h0:s.size=0
 ·have h1:(s.size:Int) < 1:=by omega
  have HE:Hid (r=false):=by show _=_;have:s.data.toList=[]:=List.eq_nil_of_length_eq_zero (by omega);rw [<-HR.out,this];rfl
  go_enter Tryz.func110,Tryz.ntmps110;go_wp2;go_ret;exact⟨by rw [HE.out];rfl,Below.refl _ _⟩
 have h1:¬(s.size:Int) < 1:=by omega
 by_cases h16:16 < s.size
 ·have h2:(16:Int) < s.size:=by omega
  have HE:Hid (r=false):=by show _=_;rw [<-HR.out];unfold spF;rw [decide_eq_false (show ¬s.data.toList.length<=16 by omega)];rfl
  go_enter Tryz.func110,Tryz.ntmps110;go_wp2;go_ret;exact⟨by rw [HE.out];rfl,Below.refl _ _⟩
 have h2:¬(16:Int) < s.size:=by omega
 have hz:0 < s.size:=by omega
 have L0:=fun u=>mW s[0] u;have hh:=aE0 s hz;cases hL:Ad.isL s[0]
 ·rw [hL] at L0 hh;have HE:Hid (r=false):=by show _=_;rw [<-HR.out];unfold spF;rw [hh];simp
  go_enter Tryz.func110,Tryz.ntmps110;go_wp2_with (go_at_call 158;refine mw (L0 _) ?_)
  go_ret;exact⟨by rw [HE.out];rfl,Below.refl _ _⟩
 rw [hL] at L0 hh;have HE:Hid (r=s.data.toList.all okC):=by show _=_;rw [<-HR.out];unfold spF;rw [hh,decide_eq_true (show s.data.toList.length<=16 by omega)];rfl
 clear hh HR;obtain⟨c,wb,hrun,hcell,hbel⟩:=qD w s;have HB:Hid (Below w.heap.size w wb):=hbel;have HC:Hid (∀(k:Nat) (h:k < s.size),wb.cell? ⟨w.heap.size,k,none⟩=some (.int .u8 (s[k].toNat:Int))):=hcell;clear hbel hcell;go_enter Tryz.func110,Tryz.ntmps110;go_wp2_with (go_at_call 158;refine mw (L0 _) ?_)
 go_loop [4,22] (fun _ i=>∃k:Nat,k<=s.size/\i=.int .i64 k/\Hid ((s.data.toList.take k).all okC=true)) (fun _ i=>s.size - (intOf i).toNat)
 case atStart=>exact⟨0,Nat.zero_le _,rfl,by simp [Hid]⟩
 case round=>
  obtain⟨k,hk,rfl,ha⟩:=hrel;clear L0;by_cases hlt:k < s.size
  ·have hck:=HC.out k hlt;have Lk:=fun u=>mW s[k] u;have Dk:=fun u=>aAn s[k] u;have HS:Hid (okC s[k]=true->(s.data.toList.take (k+1)).all okC=true):=fun h=>oV okC s k hlt ha.out h;have HN:Hid (okC s[k]=false->r=false):=fun h=>by
    rw [HE.out];cases hh:s.data.toList.all okC
    ·rfl
    ·rw [aA1 okC s k hlt hh] at h;cases h
   have HO:Hid (okC s[k]=(Ad.isL s[k] || Ad.isD s[k] || (s[k]==95))):=rfl;cases h1:Ad.isL s[k]
   ·rw [h1] at Lk HO;cases h2:Ad.isD s[k]
    ·rw [h2] at Dk HO;rcases eG s[k] 95 with ⟨h3,h4⟩ | ⟨h3,h4⟩
     ·have HA:Hid ((s.data.toList.take (k+1)).all okC=true):=HS.out (by rw [HO.out,h3];rfl);have h5:((s[k].toNat:Int) !=95)=false:=by rw [h3];rfl
      clear h1 h2 h3 h4 HN HS;go_wp2_with (first|(go_at_call 158;refine mw (Lk _) ?_) | (go_at_call 159;refine mw (Dk _) ?_))
      go_round
      case rel=>exact⟨k+1,by omega,by go_num,HA.out⟩
      case measure=>simp [intOf];omega
     ·have HF:Hid (r=false):=HN.out (by rw [HO.out];simpa using h3);have h5:((s[k].toNat:Int) !=95)=true:=by rw [bne,show ((s[k].toNat:Int)==95)=false from h4];rfl
      clear h1 h2 h3 h4 HN HS;go_wp2_with (first|(go_at_call 158;refine mw (Lk _) ?_) | (go_at_call 159;refine mw (Dk _) ?_))
      go_ret;exact⟨by rw [HF.out];rfl,HB.out⟩
    ·rw [h2] at Dk HO;have HA:Hid ((s.data.toList.take (k+1)).all okC=true):=HS.out (by rw [HO.out];rfl);clear h1 h2 HN HS;go_wp2_with (first|(go_at_call 158;refine mw (Lk _) ?_) | (go_at_call 159;refine mw (Dk _) ?_))
     go_round
     case rel=>exact⟨k+1,by omega,by go_num,HA.out⟩
     case measure=>simp [intOf];omega
   ·rw [h1] at Lk HO;have HA:Hid ((s.data.toList.take (k+1)).all okC=true):=HS.out (by rw [HO.out];rfl);clear h1 HN HS;go_wp2_with (first|(go_at_call 158;refine mw (Lk _) ?_))
    go_round
    case rel=>exact⟨k+1,by omega,by go_num,HA.out⟩
    case measure=>simp [intOf];omega
  ·have HT:Hid (r=true):=by show _=_;have hh:=ha.out;rw [List.take_of_length_le (by omega)] at hh;rw [HE.out,hh]
   go_wp2;go_ret;exact⟨by rw [HT.out];rfl,HB.out⟩
theorem aDM (s:ByteArray):(s.extract 1 s.size).data.toList=s.data.toList.drop 1:=by have:=drop_mk s.data.toList;rw [lG] at this;rw [this]
theorem sI (s:ByteArray) (hz:0 < s.size) (hs:s.size<=9223372036854775807) (w:World):
  CR 111 #[.string s] w (.bool (lcF s.data.toList)):=by
 have hl:=aX s;generalize hr:lcF s.data.toList=r;have HR:Hid (lcF s.data.toList=r):=hr;clear hr;have hx:=aDM s;have hxs:(s.extract 1 s.size).size=s.size - 1:=by simp
 have HE:Hid (r=((s.extract 1 s.size).data.toList.all Ad.isD && decide (1 < s.size))):=by show _=_;rw [<-HR.out];unfold lcF;rw [hx,hl]
 obtain⟨t,ht⟩:∃t,s.extract 1 s.size=t:=⟨_,rfl⟩
 rw [ht] at hx hxs HE;have hlt:=aX t;clear HR hx;obtain⟨c,wb,hrun,hcell,hbel⟩:=qD w t;have HB:Hid (Below w.heap.size w wb):=hbel;have HC:Hid (∀(k:Nat) (h:k < t.size),wb.cell? ⟨w.heap.size,k,none⟩=some (.int .u8 (t[k].toNat:Int))):=hcell;clear hbel hcell;rw [<-ht] at hrun;clear ht;have c1:(1:Int)<=s.size:=by omega
 go_enter Tryz.func111,Tryz.ntmps111;go_wp2;go_loop [4,9] (fun _ i=>∃k:Nat,k<=t.size/\i=.int .i64 k/\Hid ((t.data.toList.take k).all Ad.isD=true)) (fun _ i=>t.size - (intOf i).toNat)
 case atStart=>exact⟨0,Nat.zero_le _,rfl,by simp [Hid]⟩
 case round=>
  obtain⟨k,hk,rfl,ha⟩:=hrel;by_cases hlt2:k < t.size
  ·have hck:=HC.out k hlt2;have Dk:=fun u=>aAn t[k] u;cases h2:Ad.isD t[k]
   ·rw [h2] at Dk;have HF:Hid (r=false):=by
     show _=_;rw [HE.out];cases hh:t.data.toList.all Ad.isD
     ·rfl
     ·rw [aA1 Ad.isD t k hlt2 hh] at h2;cases h2
    clear h2;go_wp2_with (go_at_call 159;refine mw (Dk _) ?_)
    go_ret;exact⟨by rw [HF.out];rfl,HB.out⟩
   ·rw [h2] at Dk;have HA:Hid ((t.data.toList.take (k+1)).all Ad.isD=true):=oV Ad.isD t k hlt2 ha.out h2;clear h2;go_wp2_with (go_at_call 159;refine mw (Dk _) ?_)
    go_round
    case rel=>exact⟨k+1,by omega,by go_num,HA.out⟩
    case measure=>simp [intOf];omega
  ·have HT:Hid (r=decide ((1:Int) < s.size)):=by show _=_;have hh:=ha.out;rw [List.take_of_length_le (by omega)] at hh;rw [HE.out,hh,Bool.true_and,decide_eq_decide];omega
   go_wp2;go_ret;exact⟨by rw [HT.out];rfl,HB.out⟩
theorem xU {l:List UInt8} (h:spF l=true):l.length<=16/\nQ l=true/\l.all okC=true:=by unfold spF at h;simp only [Bool.and_eq_true,decide_eq_true_eq] at h;exact⟨h.1.1,h.1.2,h.2⟩
theorem uO {c:UInt8} (h:Ad.isL c=true):c ≠ 39/\c ≠ 45/\c ≠ 46/\isD c=false:=by
 unfold Ad.isL at h;simp only [Bool.or_eq_true,Bool.and_eq_true,decide_eq_true_eq] at h;refine ⟨?_, ?_, ?_, ?_⟩
 ·rintro rfl;revert h;decide
 ·rintro rfl;revert h;decide
 ·rintro rfl;revert h;decide
 ·unfold isD;rw [Bool.and_eq_false_iff,decide_eq_false_iff_not,decide_eq_false_iff_not];omega
theorem sJ {l:List UInt8} (h:nQ l=true):(bS l).2=false:=by
 cases l with
 | nil=>cases h
 | cons c r=>
  obtain⟨_,h2,h3,h4⟩:=uO h;have e1:dash (c:: r)=false:=by unfold dash;simpa using h2
  have e2:body (c:: r)=c:: r:=by unfold body;rw [e1];rfl
  have e3:kD (c:: r)=c:: kD r:=by unfold kD;rw [List.takeWhile_cons,if_pos (by simpa using h3)]
  unfold bS;rw [e2,e3];have e4:jQ (c:: kD r) 1 12=false:=by unfold jQ;rw [List.all_cons,h4];rfl
  rw [if_neg (by rw [e4];simp)]
theorem xV {s:ByteArray} (h:nQ s.data.toList=true):((dS s).1==3)=(jR s).2:=by
 have hp:=sJ h;have h0:¬s.toList=[]:=by rw [ByteArray.toList_eq];intro e;rw [e] at h;cases h
 have h1:¬s.data.toList.head? =some 39:=by
  intro e;cases hl:s.data.toList with
  | nil=>rw [hl] at h;cases h
  | cons c r=>
   rw [hl] at h e;simp only [List.head?_cons,Option.some.injEq] at e;exact(uO h).1 e
 unfold dS;rw [if_neg h0,if_neg h1,if_neg (by rw [hp];decide)];cases ht:(jR s).2
 ·rw [if_neg (by decide)];split <;> rfl
 ·rw [if_pos rfl];rfl
theorem aE1 (W:World) (k n:Int) (x:ByteArray):(Instr.field 62 (.agg #[.int .i64 k,.int .i64 n,.string x]) 0).run Tryz.prog W=.ok (.int .i64 k) W:=by kernel_rfl
theorem aAb (s:ByteArray) (hs:s.size<=9223372036854775807) (w:World) (T:xR w):
  CR 112 #[.string s] w (.bool ((dS s).1==3)):=by
 have Y:=uN s hs w T;generalize (dS s).1=k at *;generalize (dS s).2.1=n at *;generalize (dS s).2.2=x at *;have FL:=fun W=>aE1 W k n x;go_enter Tryz.func112,Tryz.ntmps112;go_wp2_with (go_at_call 160;refine Y.mono ?_;rintro e w1 ⟨rfl,hb⟩;have HB:Hid (Below w.heap.size w w1):=hb;clear hb)
 go_ret;exact⟨rfl,HB.out⟩
theorem aH8 (s:ByteArray):(spF s.data.toList=false/\gnF s.data.toList=false)\/(spF s.data.toList=true/\0 < s.size/\((lcF s.data.toList=true/\gnF s.data.toList=false)\/(lcF s.data.toList=false/\gnF s.data.toList= !((dS s).1==3)))):=by
 unfold gnF;rw [lG];cases h:spF s.data.toList
 ·left;exact⟨rfl,rfl⟩
 ·right;obtain⟨h1,h2,h3⟩:=xU h;refine ⟨rfl, ?_, ?_⟩
  ·rw [<-aX];cases hl:s.data.toList with
   | nil=>rw [hl] at h2;cases h2
   | cons a r=>simp
  ·cases hc:lcF s.data.toList
   ·right;rw [xV h2];exact⟨rfl,rfl⟩
   ·left;exact⟨rfl,rfl⟩
theorem kE (s:ByteArray) (hs:s.size<=9223372036854775807) (w:World) (T:xR w):
  CR 76 #[.string s] w (.bool (gnF s.data.toList)):=by
 have SP:=aCd s hs w;rcases aH8 s with ⟨h1,h2⟩ | ⟨h1,hz,⟨h3,h2⟩ | ⟨h3,h2⟩⟩
 ·rw [h1] at SP;rw [h2];go_enter Tryz.func76,Tryz.ntmps76;go_wp2_with (go_at_call 110;refine SP.mono ?_;rintro e w1 ⟨rfl,hb⟩;have HB:Hid (Below w.heap.size w w1):=hb;clear hb)
  go_ret;exact⟨rfl,HB.out⟩
 ·rw [h1] at SP;rw [h2];have LC:=fun u=>sI s hz hs u;rw [h3] at LC;go_enter Tryz.func76,Tryz.ntmps76;go_wp2_with (first|(go_at_call 110;refine SP.mono ?_;rintro e w1 ⟨rfl,hb⟩;have HB:Hid (Below w.heap.size w w1):=hb;clear hb) | (go_at_call 111;refine (LC _).mono ?_;rintro e w2 ⟨rfl,hb⟩;have HB2:Hid (Below w.heap.size w w2):=aF HB.out hb;clear hb))
  go_ret;exact⟨rfl,HB2.out⟩
 ·rw [h1] at SP;rw [h2];have LC:=fun u=>sI s hz hs u;have LT:=fun u hu=>aAb s hs u hu;rw [h3] at LC;generalize ((dS s).1==3)=k at *;go_enter Tryz.func76,Tryz.ntmps76;go_wp2_with (first|(go_at_call 110;refine SP.mono ?_;rintro e w1 ⟨rfl,hb⟩;have HB:Hid (Below w.heap.size w w1):=hb;clear hb) | (go_at_call 111;refine (LC _).mono ?_;rintro e w2 ⟨rfl,hb⟩;have HB2:Hid (Below w.heap.size w w2):=aF HB.out hb;clear hb) | (go_at_call 112;refine (LT _ (T.below HB2.out)).mono ?_;rintro e w3 ⟨rfl,hb⟩;have HB3:Hid (Below w.heap.size w w3):=aF HB2.out hb;clear hb))
  go_ret;exact⟨rfl,HB3.out⟩
theorem aCe:Ad.Names gnF:=fun l h=>by
 unfold gnF at h;simp only [Bool.and_eq_true] at h;obtain⟨_,h2,h3⟩:=xU h.1.1;refine ⟨fun e=> ?_,fun x hx=> ?_⟩
 ·rw [e] at h2;cases h2
 ·have hk:=List.all_eq_true.1 h3 x hx;refine ⟨?_, ?_, ?_⟩ <;> (rintro rfl;revert hk;decide)
theorem aCf (s:ByteArray):((jR s).2=true/\0<=qN (szF 97 65 s.data.toList))\/((jR s).2=false/\qN (szF 97 65 s.data.toList) < 0):=by
 rcases aDL s with ⟨a,_,c⟩ | ⟨a,_,c⟩ | ⟨a,c⟩
 ·left;rw [c];exact⟨a,by decide⟩
 ·left;rw [c];exact⟨a,by decide⟩
 ·right;rw [c];exact⟨a,by decide⟩
def oth (s:ByteArray) (k:Nat):Bool:=decide (s.size=1) || !((s.data.toList.take k).drop 1).all Ad.isD
theorem aKC (s:ByteArray):oth s 1=decide (s.size=1):=by
 unfold oth;have:(s.data.toList.take 1).drop 1=[]:=by cases s.data.toList <;> simp
 rw [this];simp
theorem aH9 (s:ByteArray) (k:Nat) (h1:1<=k) (h:k < s.size):oth s (k+1)=(oth s k || !Ad.isD s[k]):=by unfold oth;have hl:=aX s;rw [jE _ _ (by omega),List.drop_append_of_le_length (by simp;omega),List.all_append,<-byte_at s k h (by omega)];simp only [List.all_cons,List.all_nil,Bool.and_true,Bool.not_and,Bool.or_assoc]
theorem aKD (s:ByteArray) (h:0 < s.size):oth s s.size= !lcF s.data.toList:=by
 unfold oth lcF;have hl:=aX s;rw [List.take_of_length_le (by omega),hl];by_cases e:s.size=1
 ·simp [e]
 ·have:1 < s.size:=by omega
  simp [e,this]
theorem gV (s:ByteArray) (hs:s.size<=9223372036854775807) (w:World):
  CR 48 #[.string s] w (.bool (gnF s.data.toList)):=by
 have hl:=aX s;generalize hr:gnF s.data.toList=r;have HR:Hid (gnF s.data.toList=r):=hr;clear hr;have HN:Hid (spF s.data.toList=false->r=false):=fun h=>by rw [<-HR.out];unfold gnF;rw [h];rfl
 by_cases h0:s.size=0
 ·have h1:(s.size:Int) < 1:=by omega
  have HE:Hid (r=false):=by apply HN.out;have:s.data.toList=[]:=List.eq_nil_of_length_eq_zero (by omega);rw [this];rfl
  go_enter Tryz.func48,Tryz.ntmps48;go_wp2;go_ret;exact⟨by rw [HE.out];rfl,Below.refl _ _⟩
 have h1:¬(s.size:Int) < 1:=by omega
 by_cases h16:16 < s.size
 ·have h2:(16:Int) < s.size:=by omega
  have HE:Hid (r=false):=by apply HN.out;unfold spF;rw [decide_eq_false (show ¬s.data.toList.length<=16 by omega)];rfl
  go_enter Tryz.func48,Tryz.ntmps48;go_wp2;go_ret;exact⟨by rw [HE.out];rfl,Below.refl _ _⟩
 have h2:¬(16:Int) < s.size:=by omega
 have hz:0 < s.size:=by omega
 have L0:=fun u=>jP s[0] u;have hh:=aE0 s hz;cases hL:Ad.isL s[0]
 ·rw [hL] at L0 hh;have HE:Hid (r=false):=by apply HN.out;unfold spF;rw [hh];simp
  go_enter Tryz.func48,Tryz.ntmps48;go_wp2_with (go_at_call 91;refine mw (L0 _) ?_)
  go_ret;exact⟨by rw [HE.out];rfl,Below.refl _ _⟩
 rw [hL] at L0 hh;have RT:=fun u=>qO s hs u;have HT:=aCf s;generalize qN (szF 97 65 s.data.toList)=tn at *;rcases HT with ⟨t1,t2⟩ | ⟨t1,t2⟩
 ·have HE:Hid (r=false):=by show _=_;rw [<-HR.out];unfold gnF;rw [lG,t1];simp
  go_enter Tryz.func48,Tryz.ntmps48;go_wp2_with (first|(go_at_call 91;refine mw (L0 _) ?_) | (go_at_call 92;refine (RT _).mono ?_;rintro e w1 ⟨rfl,hb⟩;have HB:Hid (Below w.heap.size w w1):=hb;clear hb))
  go_ret;exact⟨by rw [HE.out];rfl,HB.out⟩
 have HE:Hid (r=(s.data.toList.all okC && !lcF s.data.toList)):=by show _=_;rw [<-HR.out];unfold gnF spF;rw [lG,t1,hh,decide_eq_true (show s.data.toList.length<=16 by omega)];simp
 have HK0:Hid ((s.data.toList.take 1).all okC=true):=by have e:=oV okC s 0 hz (by simp) (by unfold okC;rw [hL];rfl);exact e
 clear hh HR HN t1 hL;go_enter Tryz.func48,Tryz.ntmps48;go_wp2_with (first|(go_at_call 91;refine mw (L0 _) ?_) | (go_at_call 92;refine (RT _).mono ?_;rintro e w1 ⟨rfl,hb⟩;have HB:Hid (Below w.heap.size w w1):=hb;clear hb))
 clear L0 RT;go_loop [3,4] (fun v i=>∃(k:Nat) (o:Bool),1<=k/\k<=s.size/\i=.int .i64 k/\v=.bool o/\Hid ((s.data.toList.take k).all okC=true/\o=oth s k)) (fun _ i=>s.size - (intOf i).toNat)
 case atStart=>exact⟨1,_,Nat.le_refl _,by omega,rfl,rfl,HK0.out,by rw [aKC,Bool.eq_iff_iff];simp;omega⟩
 case round=>
  obtain⟨k,o,hk1,hk,rfl,rfl,ha⟩:=hrel;by_cases hlt:k < s.size
  ·have Lk:=fun u=>jP s[k] u;have Dk:=fun u=>gZ s[k] u;have HS:Hid (okC s[k]=true->(s.data.toList.take (k+1)).all okC=true):=fun h=>oV okC s k hlt ha.out.1 h;have HN:Hid (okC s[k]=false->r=false):=fun h=>by
    rw [HE.out];cases hh:s.data.toList.all okC
    ·rfl
    ·rw [aA1 okC s k hlt hh] at h;cases h
   have HO:Hid (okC s[k]=(Ad.isL s[k] || Ad.isD s[k] || (s[k]==95))):=rfl;have HP:Hid (oth s (k+1)=(o || !Ad.isD s[k])):=by show _=_;rw [aH9 s k hk1 hlt,<-ha.out.2]
   cases h1:Ad.isL s[k]
   ·rw [h1] at Lk HO;cases h2:Ad.isD s[k]
    ·rw [h2] at Dk HO HP;rcases eG s[k] 95 with ⟨h3,h4⟩ | ⟨h3,h4⟩
     ·have HA:Hid ((s.data.toList.take (k+1)).all okC=true):=HS.out (by rw [HO.out,h3];rfl);have h5:((s[k].toNat:Int) !=95)=false:=by rw [h3];rfl
      clear h1 h2 h3 h4 HN HS;cases o
      all_goals
       go_wp2_with (first|(go_at_call 91;refine mw (Lk _) ?_) | (go_at_call 93;refine mw (Dk _) ?_))
       go_round
       case rel=>exact⟨k+1,_,by omega,by omega,by go_num,rfl,HA.out,HP.out.symm⟩
       case measure=>simp [intOf];omega
     ·have HF:Hid (r=false):=HN.out (by rw [HO.out];simpa using h3);have h5:((s[k].toNat:Int) !=95)=true:=by rw [bne,show ((s[k].toNat:Int)==95)=false from h4];rfl
      clear h1 h2 h3 h4 HN HS;go_wp2_with (first|(go_at_call 91;refine mw (Lk _) ?_) | (go_at_call 93;refine mw (Dk _) ?_))
      go_ret;exact⟨by rw [HF.out];rfl,HB.out⟩
    ·rw [h2] at Dk HO HP;have HA:Hid ((s.data.toList.take (k+1)).all okC=true):=HS.out (by rw [HO.out];rfl);clear h1 h2 HN HS;cases o
     all_goals
      go_wp2_with (first|(go_at_call 91;refine mw (Lk _) ?_) | (go_at_call 93;refine mw (Dk _) ?_))
      go_round
      case rel=>exact⟨k+1,_,by omega,by omega,by go_num,rfl,HA.out,HP.out.symm⟩
      case measure=>simp [intOf];omega
   ·rw [h1] at Lk HO;have HA:Hid ((s.data.toList.take (k+1)).all okC=true):=HS.out (by rw [HO.out];rfl);clear HN HS;generalize Ad.isD s[k]=dk at *;clear h1;cases o <;> cases dk
    all_goals
     go_wp2_with (first|(go_at_call 91;refine mw (Lk _) ?_) | (go_at_call 93;refine mw (Dk _) ?_))
     go_round
     case rel=>exact⟨k+1,_,by omega,by omega,by go_num,rfl,HA.out,HP.out.symm⟩
     case measure=>simp [intOf];omega
  ·have HT:Hid (r=o):=by
    show _=_;have hh:=ha.out;obtain rfl:k=s.size:=by omega
    rw [List.take_of_length_le (by omega)] at hh;rw [HE.out,hh.1,hh.2,aKD s hz];rfl
   go_wp2;go_ret;exact⟨by rw [HT.out];rfl,HB.out⟩
theorem wrap_i64 {n:Int} (h1: -9223372036854775808<=n) (h2:n<=9223372036854775807):IntKind.i64.wrap n=n:=by rw [IntKind.wrap_i64];omega
theorem aF3 (n:Nat) (h:n<=64):(⟨(Lib.decDigits n).toArray⟩:ByteArray).size<=2:=by
 rw [size_mk];by_cases e:n < 10
 ·rw [Lib.decDigits_one e];simp
 ·rw [Lib.decDigits,dif_neg e,Lib.decDigits_one (by omega)];simp
def bE (R C:Nat) (fr fc:Bool):ByteArray:=⟨(Ad.cellW ⟨R,C,fr,fc⟩).toArray⟩
end Go.Proofs.YtlhoklhjbpkgpaaGreatDoor
namespace Go.Proofs.YtlhoklhjbpkgpaaGreatDoor.Dg
open Go.RowKit
theorem aDw (w:World) (z:Int):(convert 96 9 (.slice (some ⟨w.heap.size,0,none⟩) 1 1)).run Tryz.prog (w.alloc (.cells #[.int .u8 z] 5))=.ok (.string ⟨#[UInt8.ofNat z.toNat]⟩) (w.alloc (.cells #[.int .u8 z] 5)):=by
 have hl:(loadCells ⟨w.heap.size,0,none⟩ 1).run Tryz.prog (w.alloc (.cells #[.int .u8 z] 5))=.ok (([z]:List Int).map (Value.int .u8)).toArray (w.alloc (.cells #[.int .u8 z] 5)):=by
  refine run_loadCells_list (P:=Tryz.prog) _ ⟨w.heap.size,0,none⟩ [.int .u8 z] fun j u hj=> ?_
  match j,hj with
  | 0,hj=>
   cases hj
   simp only [World.cell?];rw [show ((⟨w.heap.size,0,none⟩:Addr).add 0)=⟨w.heap.size,0,none⟩ from rfl,heap_alloc_new];rfl
 rw [run_convert_bytes_string _ 96 9 5 _ 1 1 Tryz.underlying96 Tryz.underlying5 Tryz.underlying9,run_bytesToString _ _ 1 1 _ hl,foldl_push_bytes];rfl
theorem aAX (m:Nat) (h:¬m / 10=0):Lib.decDigits m=Lib.decDigits (m / 10)++ [UInt8.ofNat (48+m % 10)]:=by rw [Lib.decDigits,dif_neg (by omega)]
theorem vS (n:Nat) (hn:n < 18446744073459551616) (w:World):
  CR 186 #[.int .u64 n] w (.string ⟨(Lib.decDigits n).toArray⟩):=by
 have hlen:=(rW 20 n (by decide) (by omega)).2;generalize hr:(⟨(Lib.decDigits n).toArray⟩:ByteArray)=r;have HR:Hid ((⟨(Lib.decDigits n).toArray⟩:ByteArray)=r):=hr;clear hr;go_enter Tryz.func186,Tryz.ntmps186;go_wp2;go_loopw [0,3] (fun u0 u3 wr=>∃(m:Nat) (t:ByteArray),u0=.int .u64 m/\u3=.string t/\m < 18446744073459551616/\t.size<=20/\Hid (Below w.heap.size w wr/\∃L:List UInt8,t=⟨L.toArray⟩/\Lib.decDigits n=Lib.decDigits m++L)) (fun u0 _ _=>(intOf u0).toNat)
 case atStart=>exact⟨n,⟨#[]⟩,rfl,rfl,hn,by decide,Below.refl _ _,[],rfl,by simp⟩
 case round=>
  obtain⟨m,t,rfl,rfl,hm,ht,hH⟩:=hrel;have hcv:=aDw wr (48+(m:Int) % 10);have hne:Hid ((⟨#[UInt8.ofNat (48+(m:Int) % 10).toNat]⟩:ByteArray)++t=⟨([UInt8.ofNat (48+m % 10)]++(t.data.toList)).toArray⟩):=by show _=_;rw [show (48+(m:Int) % 10).toNat=48+m % 10 by omega];exact nV [UInt8.ofNat (48+m % 10)] t.data.toList
  generalize hX:(⟨#[UInt8.ofNat (48+(m:Int) % 10).toNat]⟩:ByteArray)=X at *;have hXs:X.size=1:=by rw [<-hX];rfl
  clear hX;have hsz:(X++t).size<=21:=by rw [ByteArray.size_append];omega
  by_cases hz:m / 10=0
  ·have hz':(m:Int) / 10=0:=by omega
   have HE:Hid (r=X++t):=by obtain⟨_,L,rfl,e⟩:=hH.out;show _=_;rw [<-HR.out,hne.out,e,Lib.decDigits_one (by omega)];rw [show m % 10=m by omega]
   go_wp2;go_ret;exact⟨by rw [HE.out];rfl,hH.out.1.alloc (hH.out.1.size) _⟩
  ·have hz':((m:Int) / 10==0)=false:=by simp;omega
   have HL:Hid (∃L:List UInt8,X++t=⟨L.toArray⟩/\Lib.decDigits n=Lib.decDigits (m / 10)++L):=by obtain⟨_,L,rfl,e⟩:=hH.out;refine ⟨_,hne.out, ?_⟩;rw [e,aAX m hz];simp
   have hs2:(X++t).size<=20:=by obtain⟨L,e1,e2⟩:=HL.out;rw [e1,size_mk];have:=congrArg List.length e2;simp at this;have:=(rW 20 (m / 10) (by decide) (by omega)).1;omega
   go_wp2;go_roundw
   case rel=>exact⟨m / 10,X++t,by go_num,rfl,by omega,hs2,hH.out.1.alloc (hH.out.1.size) _,HL.out⟩
   case measure=>simp [intOf];omega
theorem aF4 (n:Nat) (hn:n<=100000) (w:World):CR 146 #[.int .i64 n] w (.string ⟨(Lib.decDigits n).toArray⟩):=by
 have D:=fun u=>vS n (by omega) u;generalize (⟨(Lib.decDigits n).toArray⟩:ByteArray)=A at *;go_enter Tryz.func146,Tryz.ntmps146;go_wp2_with (go_at_call 186;refine (D _).mono ?_;rintro e w1 ⟨rfl,hb1⟩;have HB1:Hid _:=hb1;clear hb1)
 go_ret;exact⟨rfl,HB1.out⟩
theorem uK (s:ByteArray) (k:Nat) (h:k < s.size) (hall:s.data.toList.all isD=true):isD s[k]=true:=by rw [byte_at s k h (by rw [aX];exact h)];exact List.all_eq_true.1 hall _ (List.getElem_mem _)
theorem aB0 (s:ByteArray) (k:Nat) (h:k < s.size) (ha:(s.data.toList.take k).all isD=true) (hb:isD s[k]=true):(s.data.toList.take (k+1)).all isD=true:=by rw [jE _ _ (by rw [aX];exact h),List.all_append,ha,<-byte_at s k h (by rw [aX];exact h)];simp [hb]
theorem lG (t:ByteArray):(⟨t.data.toList.toArray⟩:ByteArray)=t:=by
 cases t
 simp
end Go.Proofs.YtlhoklhjbpkgpaaGreatDoor.Dg
namespace Go.Proofs.YtlhoklhjbpkgpaaGreatDoor
open Go.RowKit
theorem aIa {u:World} {g:Nat} {z:Int} {m:Nat × Nat} (h:u.heap[g]? =some (.cells #[.int .u8 z] 5 m)):(convert 96 9 (.slice (some ⟨g,0,none⟩) 1 1)).run Tryz.prog u=.ok (.string ⟨#[UInt8.ofNat z.toNat]⟩) u:=by
 have hl:(loadCells ⟨g,0,none⟩ 1).run Tryz.prog u=.ok (([z]:List Int).map (Value.int .u8)).toArray u:=by
  refine run_loadCells_list (P:=Tryz.prog) _ ⟨g,0,none⟩ [.int .u8 z] fun j v hj=> ?_
  match j,hj with
  | 0,hj=>
   cases hj
   rw [show ((⟨g,0,none⟩:Addr).add 0)=⟨g,0,none⟩ from rfl,cell_of_row u _ _ _ 5 _ h];rfl
 rw [run_convert_bytes_string _ 96 9 5 _ 1 1 Tryz.underlying96 Tryz.underlying5 Tryz.underlying9,run_bytesToString _ _ 1 1 _ hl,foldl_push_bytes];rfl
theorem aMN {w x:World} (hb:Below w.drew.heap.size w.drew x):Below w.heap.size w x:=⟨hb.os,hb.tape,hb.output,hb.size,hb.block⟩
theorem aAt {w w7:World} {o:Obj} (hb:Below (w.alloc o).drew.heap.size (w.alloc o).drew w7):Below w.heap.size w w7/\w7.heap[w.heap.size]? =some o:=by
 have h:Below (w.alloc o).heap.size (w.alloc o) w7:=⟨hb.os,hb.tape,hb.output,hb.size,hb.block⟩
 exact⟨gU h,new1 h⟩
def ctB (r c:Int):ByteArray:=if inB r c=true then bE r.toNat c.toNat false false else ⟨#[]⟩
theorem aMO {r c:Int} (h:inB r c=true):∃R C:Nat,r=R/\c=C/\1<=R/\R<=64/\1<=C/\C<=26:=by unfold inB at h;simp only [Bool.and_eq_true,decide_eq_true_eq] at h;exact⟨r.toNat,c.toNat,by omega,by omega,by omega,by omega,by omega,by omega⟩
theorem aMP (R C:Nat):(⟨#[Ad.aDr C]⟩:ByteArray)++⟨(Lib.decDigits R).toArray⟩=bE R C false false:=by unfold bE Ad.cellW;apply ByteArray.ext;simp
theorem wrap_u8 {n:Int} (h1:0<=n) (h2:n<=255):IntKind.u8.wrap n=n:=by simp [IntKind.wrap,IntKind.bits,IntKind.signed];omega
theorem aKE (R C:Nat) (hi:inB R C=true) (hR1:1<=R) (hR2:R<=64) (hC1:1<=C) (hC2:C<=26) (w:World):
  CR 97 #[.int .i64 R,.int .i64 C] w (.string (bE R C false false)):=by
 have IN:=fun u=>rT R C u;rw [hi] at IN;clear hi;have IT:=fun u=>Dg.aF4 R (by omega) u;have z3:=aF3 R hR2;rw [<-aMP];generalize (⟨(Lib.decDigits R).toArray⟩:ByteArray)=X3 at *;obtain⟨m1,e1⟩:∃m1:Int,65+(C:Int)=m1:=⟨_,rfl⟩
 obtain⟨m2,e2⟩:∃m2:Int,m1 - 1=m2:=⟨_,rfl⟩
 have k1:IntKind.i64.wrap m1=m1:=wrap_i64 (by omega) (by omega);have k2:IntKind.i64.wrap m2=m2:=wrap_i64 (by omega) (by omega);have k3:IntKind.u8.wrap m2=m2:=wrap_u8 (by omega) (by omega);have e4:(⟨#[UInt8.ofNat m2.toNat]⟩:ByteArray)=⟨#[Ad.aDr C]⟩:=by unfold Ad.aDr;rw [show m2.toNat=64+C by omega]
 have z4:(⟨#[Ad.aDr C]⟩:ByteArray).size<=1:=Nat.le_refl 1;have CV:Hid (∀(u:World) (g:Nat) (m:Nat × Nat),u.heap[g]? =some (.cells #[.int .u8 m2] 5 m)->(convert 96 9 (.slice (some ⟨g,0,none⟩) 1 1)).run Tryz.prog u=.ok (.string ⟨#[Ad.aDr C]⟩) u):=fun u g m h=>by rw [aIa h,e4]
 clear e4;generalize (⟨#[Ad.aDr C]⟩:ByteArray)=X4 at *;have z5:¬9223372036854775807 < X4.size+X3.size:=by omega
 have c1:(convert 96 9 (.slice (some ⟨w.heap.size,0,none⟩) 1 1)).run Tryz.prog (w.alloc (.cells #[.int .u8 m2] 5)).drew=.ok (.string X4) (w.alloc (.cells #[.int .u8 m2] 5)).drew:=CV.out _ _ _ (heap_alloc_new w _);have ITa:=IT (w.alloc (.cells #[.int .u8 m2] 5)).drew;have ITb:=IT w.drew;go_enter Tryz.func97,Tryz.ntmps97;go_wp2_with (go_at_call 145;refine mw (IN _) ?_)
 go_region_held_law (fun _=>True) (trivial) (first|(go_at_call 146;refine ITa.mono ?_;rintro e w7 ⟨rfl,hb⟩;have HB:Hid (Below w.heap.size w w7):=(aAt hb).1;have c2:=CV.out w7 w.heap.size (0,0) (aAt hb).2;clear hb)|(go_at_call 146;refine ITb.mono ?_;rintro e w7 ⟨rfl,hb⟩;have HB:Hid (Below w.heap.size w w7):=aMN hb;have c2:=CV.out (w7.alloc (.cells #[.int .u8 m2] 5)) w7.heap.size (0,0) (heap_alloc_new w7 _);clear hb))
 ·go_wp2;go_ret;exact⟨rfl,HB.out⟩
 ·go_wp2;go_ret;exact⟨rfl,HB.out⟩
 ·go_wp2;go_ret;exact⟨rfl,aD HB.out _⟩
def aIb (w:World):Prop:=∃t1 p1 t2 p2,w.cell? ⟨6,0,none⟩=some (.iface t1 p1)/\w.cell? ⟨7,0,none⟩=some (.iface t2 p2)
theorem aIb.below {w w':World} (h:aIb w) (hb:Below w.heap.size w w'):aIb w':=by obtain⟨t1,p1,t2,p2,h1,h2⟩:=h;exact⟨t1,p1,t2,p2,(hb.cell (World.block_lt_of_cell? w _ h1)).trans h1,(hb.cell (World.block_lt_of_cell? w _ h2)).trans h2⟩
structure aAc (w:World):Prop where
 t:xR w
 e:aIb w
theorem aAc.below {w w':World} (h:aAc w) (hb:Below w.heap.size w w'):aAc w':=⟨h.t.below hb,h.e.below hb⟩
theorem aF5 (n:Int) (hn:In64 n) (w:World) (T:qA w):
  CR 221 #[.int .i64 n] w (.string ⟨(Lib.itoa n).toArray⟩):=by
 refine (Tryz.strconv_Itoa n hn.1 hn.2 w T).mono ?_;rintro e w' ⟨rfl,k,os,rfl⟩;exact⟨rfl,xJ w k os⟩
theorem aKF {s X:ByteArray} {v:Int} {w:World} (AT:CR 281 #[.string s] w (.tuple #[.int .i64 v,.nilIface]))
  (IT:RC w 221 #[.int .i64 v] (.string X)) {b:Bool} (hx:(X.toList==s.toList)=b):
  CR 267 #[.string s] w (.int .i64 (if b=true then v else 0)):=by
 cases b
 all_goals
  go_enter Tryz.func267,Tryz.ntmps267;go_wp2_with (first|(go_at_call 281;refine AT.mono ?_;rintro e w1 ⟨rfl,hb⟩;have HB:Hid (Below w.heap.size w w1):=hb;clear hb) | (go_at_call 221;refine (IT _ HB.out).mono ?_;rintro e w2 ⟨rfl,hb⟩;have HB2:Hid (Below w.heap.size w w2):=hb;clear hb))
  go_ret;exact⟨rfl,HB2.out⟩
theorem aE2 {s:ByteArray} {v:Int} {w:World} (AT:Calls Tryz.prog 281 #[.string s] w fun e w'=>∃N,e=.returned (.tuple #[.int .i64 v,.iface 290 (pt N)])/\Below w.heap.size w w'):
  CR 267 #[.string s] w (.int .i64 0):=by
 go_enter Tryz.func267,Tryz.ntmps267;go_wp2_with (go_at_call 281;refine AT.mono ?_;rintro e w1 ⟨N,rfl,hb⟩;have HB:Hid (Below w.heap.size w w1):=hb;clear hb)
 go_ret;exact⟨rfl,HB.out⟩
theorem aMQ (a b:ByteArray):(a.toList==b.toList)=decide (a.data.toList=b.data.toList):=by rw [ByteArray.toList_eq,ByteArray.toList_eq,Bool.eq_iff_iff];simp
theorem aA2 (l:List UInt8) (hl:l.length<=140737488355328) (w:World) (T:aAc w):
  CR 267 #[.string ⟨l.toArray⟩] w (.int .i64 (Ad.xD l)):=by
 obtain⟨t1,p1,t2,p2,h1,h2⟩:=T.e;have hz:(⟨l.toArray⟩:ByteArray).size<=140737488355328:=by rw [size_mk];exact hl
 unfold Ad.xD;cases ha:Lib.atoiAll l with
 | ok v=>
  have AT:=Tryz.strconv_Atoi_ok ⟨l.toArray⟩ (by omega) v ha w;have hv:=Lib.atoiAll_bounds ha;have:=aKF (s:=⟨l.toArray⟩) (v:=v) (w:=w) (AT.mono fun e w' ⟨q1,q2⟩=>⟨q1,by
   rcases q2 with rfl | ⟨t,rfl⟩
   ·exact Below.refl _ _
   ·exact Lib.bytesWorld_below _ _ _⟩) (RC.of fun u hu=>aF5 v hv u (T.t.p.below hu)) (aMQ _ _)
  simp only [List.toList_toArray,decide_eq_true_eq] at this;exact this
 | «syntax» =>
  exact aE2 ((Tryz.strconv_Atoi_syntax ⟨l.toArray⟩ (by omega) ha _ w h1 (.inr ⟨_,_,rfl⟩)).mono fun e w' ⟨N,q1,_,_,q2⟩=>⟨N,q1,q2⟩)
 | range=>
  exact aE2 ((Tryz.strconv_Atoi_range ⟨l.toArray⟩ (by omega) ha _ w h2 (.inr ⟨_,_,rfl⟩)).mono fun e w' ⟨N,q1,_,_,q2⟩=>⟨N,q1,q2⟩)
abbrev aT:Obj:=dP ⟨#[]⟩ ⟨#[]⟩ 0 0 false false
def nX (o:Option Ad.Cell):Value:=match o with
 | none=>gD
 | some c=>dB ⟨#[]⟩ ⟨#[]⟩ c.row c.col c.fr c.fc
section
variable {u:World} {g:Nat} {a b c d e f v:Value} {t:TypeId}
theorem sK (h:u.heap[g]? =some (.cells #[a,b,c,d,e,f] t (0,0))):(u.setCell ⟨g,2,none⟩ v).heap[g]? =some (.cells #[a,b,v,d,e,f] t (0,0)):=by simp [World.setCell,Array.getElem?_modify,h]
theorem nR (h:u.heap[g]? =some (.cells #[a,b,c,d,e,f] t (0,0))):(u.setCell ⟨g,3,none⟩ v).heap[g]? =some (.cells #[a,b,c,v,e,f] t (0,0)):=by simp [World.setCell,Array.getElem?_modify,h]
theorem xW (h:u.heap[g]? =some (.cells #[a,b,c,d,e,f] t (0,0))):(u.setCell ⟨g,4,none⟩ v).heap[g]? =some (.cells #[a,b,c,d,v,f] t (0,0)):=by simp [World.setCell,Array.getElem?_modify,h]
theorem eH {j k:Nat} (hj:g ≠ j):(u.setCell ⟨g,k,none⟩ v).heap[j]? =u.heap[j]? :=by simp [World.setCell,Array.getElem?_modify,hj]
end
section
variable {u:World} {g:Nat} {a b c d e f a' b' c' d' e' f':Value} {t:TypeId}
theorem gT (h:u.heap[g]? =some (.cells #[a,b,c,d,e,f] t (0,0))):((((((u.setCell ⟨g,0,none⟩ a').setCell ⟨g,1,none⟩ b').setCell ⟨g,2,none⟩ c').setCell ⟨g,3,none⟩ d').setCell ⟨g,4,none⟩ e').setCell ⟨g,5,none⟩ f').heap[g]? =some (.cells #[a',b',c',d',e',f'] t (0,0)):=by simp [World.setCell,Array.getElem?_modify,h]
theorem bB {w:World} (h:Below w.heap.size w u) (hg:w.heap.size<=g):Below w.heap.size w ((((((u.setCell ⟨g,0,none⟩ a').setCell ⟨g,1,none⟩ b').setCell ⟨g,2,none⟩ c').setCell ⟨g,3,none⟩ d').setCell ⟨g,4,none⟩ e').setCell ⟨g,5,none⟩ f'):=
 (((((h.setCell hg _).setCell hg _).setCell hg _).setCell hg _).setCell hg _).setCell hg _
end
theorem bF {fn:Func} {i j:Tmp} (hr:fn.results=#[.cell i 64,.tmp j]) {tmps:Array Value} {g:Nat} {wf:World} (hp:tmps.getD i undef=pt g) {b s:ByteArray} {r c:Int} {fr fc ok:Bool}
  (h:wf.heap[g]? =some (dP b s r c fr fc)) (hj:tmps.getD j undef=.bool ok):(results fn tmps).run Tryz.prog wf=.ok (.tuple #[dB b s r c fr fc,.bool ok]) wf:=by
 obtain⟨c0,c1,c2,c3,c4,c5⟩:=aS h;simp only [Array.getD_eq_getD_getElem?] at hp hj;simp [results,hr,hp,hj,go_sem,c0,c1,c2,c3,c4,c5]
theorem aIc {A A1:ByteArray} {fc:Bool} {w:World} (CP:∀u,CW 73 #[.string A,.string ⟨#[36]⟩] u (.tuple #[.string A1,.bool fc])) (h0:A1.toList=[]):
  CR 233 #[.string A] w (.tuple #[gD,.bool false]):=by
 go_enter Tryz.func233,Tryz.ntmps233;go_wp2_with (go_at_call 73;refine mw (CP _) ?_)
 refine bodyPost_ret (v:=.tuple #[gD,.bool false]) (by simp [results,Tryz.results233,go_sem]) rfl ?_;refine ⟨rfl, ?_⟩;repeat (first | exact Below.refl _ _ | refine Below.drew ?_ | refine aD ?_ _ | refine Below.setCell ?_ (by simp) _)
theorem aId {A A1:ByteArray} {fc:Bool} {w:World} (CP:∀u,CW 73 #[.string A,.string ⟨#[36]⟩] u (.tuple #[.string A1,.bool fc])) (h0:(A1.toList==[])=false) (hz:0 < A1.size)
  (LT:∀u,CW 158 #[.int .u8 (A1[0].toNat:Nat)] u (.bool false)):
  CR 233 #[.string A] w (.tuple #[gD,.bool false]):=by
 go_enter Tryz.func233,Tryz.ntmps233;go_wp2_with (first|(go_at_call 73;refine mw (CP _) ?_) | (go_at_call 158;refine mw (LT _) ?_))
 refine bodyPost_ret (v:=.tuple #[gD,.bool false]) (by simp [results,Tryz.results233,go_sem]) rfl ?_;refine ⟨rfl, ?_⟩;repeat (first | exact Below.refl _ _ | refine Below.drew ?_ | refine aD ?_ _ | refine Below.setCell ?_ (by simp) _)
theorem aF6 {A A1 U V Y A2:ByteArray} {fc fr ok:Bool} {n C:Int} {w:World} (CP:∀u,CW 73 #[.string A,.string ⟨#[36]⟩] u (.tuple #[.string A1,.bool fc])) (h0:(A1.toList==[])=false) (hz:0 < A1.size)
  (LT:∀u,CW 158 #[.int .u8 (A1[0].toNat:Nat)] u (.bool true)) (hU:A1.extract 0 1=U) (hV:A1.extract 1 A1.size=V)
  (UP:∀u,CR 214 #[.string U] u (.string Y)) (hY:0 < Y.size) (hy1:65<=(Y[0].toNat:Int)) (hy2:(Y[0].toNat:Int)<=90) (hC:(Y[0].toNat:Int) - 65+1=C)
  (CQ:∀u,CW 73 #[.string V,.string ⟨#[36]⟩] u (.tuple #[.string A2,.bool fr]))
  (PR:∀u,Below w.heap.size w u->CR 267 #[.string A2] u (.int .i64 n)) (IN:∀u,CW 212 #[.int .i64 n,.int .i64 C] u (.bool ok)):
  CR 233 #[.string A] w (.tuple #[if ok=true then dB ⟨#[]⟩ ⟨#[]⟩ n C fr fc else gD,.bool ok]):=by
 have c1:(1:Int)<=A1.size:=by omega
 go_enter Tryz.func233,Tryz.ntmps233;go_wp2_with (go_at_call 73;refine mw (CP _) ?_)
 refine (LT _).mono ?_;rintro e w' ⟨rfl,hw⟩;obtain rfl:=hw.symm;clear hw;go_wp2_with fail
 refine (UP _).mono ?_;rintro e w1 ⟨rfl,hb⟩;obtain⟨z1,z2⟩:=new2 hb;have HB1:Hid (Below w.heap.size w w1):=rU hb;have Z1:Hid (w1.heap[w.heap.size]? =some aT/\w1.heap[w.heap.size+1]? =some (dP ⟨#[]⟩ ⟨#[]⟩ 0 0 false fc)):=⟨z1,z2⟩
 obtain⟨c0,c1,c2,c3,c4,c5⟩:=aS z2;obtain⟨f0,f1,f2,f3,f4,f5⟩:=aW z2;clear hb z1 z2 UP LT CP;go_wp2_with fail
 refine (CQ _).mono ?_;rintro e w' ⟨rfl,hw⟩;obtain rfl:=hw.symm;clear hw;go_wp2_with fail
 clear c0 c1 c2 c3 c4 c5 f0 f1 f2 f3 f4 f5;refine (PR _ ?hh).mono ?_
 case hh=>exact(HB1.out.setCell (by simp) _).setCell (by simp) _
 rintro e w2 ⟨rfl,hb⟩;have HB2:Hid (Below w.heap.size w w2):=aF ((HB1.out.setCell (by simp) _).setCell (by simp) _) hb;have y2:=(hb.block _ (aZ (xW (nR Z1.out.2)))).trans (xW (nR Z1.out.2));have y1:=(hb.block w.heap.size (aZ ((eH (by omega)).trans ((eH (by omega)).trans Z1.out.1)))).trans ((eH (by omega)).trans ((eH (by omega)).trans Z1.out.1));have YY:Hid (w2.heap[w.heap.size]? =some aT/\w2.heap[w.heap.size+1]? =some (dP ⟨#[]⟩ ⟨#[]⟩ 0 C fr fc)):=⟨y1,y2⟩
 obtain⟨c0,c1,c2,c3,c4,c5⟩:=aS y2;obtain⟨f0,f1,f2,f3,f4,f5⟩:=aW y2;obtain⟨d0,d1,d2,d3,d4,d5⟩:=aS y1;obtain⟨e0,e1,e2,e3,e4,e5⟩:=aW y1;clear hb y1 y2 Z1;go_wp2_with fail
 refine (IN _).mono ?_;rintro e w' ⟨rfl,hw⟩;obtain rfl:=hw.symm;have x2:=sK (v:=.int .i64 n) YY.out.2;have x1:=(eH (u:=w2) (k:=2) (v:=.int .i64 n) (g:=w.heap.size+1) (j:=w.heap.size) (by omega)).trans YY.out.1;have HB3:Hid (Below w.heap.size w (w2.setCell ⟨w.heap.size+1,2,none⟩ (.int .i64 n))):=HB2.out.setCell (by simp) _;clear hw c0 c1 c2 c3 c4 c5 f0 f1 f2 f3 f4 f5 d0 d1 d2 d3 d4 d5 e0 e1 e2 e3 e4 e5 YY HB2 HB1 IN PR CQ;generalize w2.setCell ⟨w.heap.size+1,2,none⟩ (.int .i64 n)=w3 at *;have XX:Hid (w3.heap[w.heap.size]? =some aT):=x1;obtain⟨c0,c1,c2,c3,c4,c5⟩:=aS x2;obtain⟨d0,d1,d2,d3,d4,d5⟩:=aS x1;obtain⟨e0,e1,e2,e3,e4,e5⟩:=aW x1;clear x1 x2;cases ok
 ·go_wp2;exact bodyPost_ret (bF rfl rfl (gT XX.out) rfl) rfl ⟨rfl,bB HB3.out (Nat.le_refl _)⟩
 ·go_wp2;exact bodyPost_ret (bF rfl rfl (gT XX.out) rfl) rfl ⟨rfl,bB HB3.out (Nat.le_refl _)⟩
theorem aIe (c:UInt8) (h:Ad.isL c=true):65<=((szB 97 65 c).toNat:Int)/\((szB 97 65 c).toNat:Int)<=90/\((szB 97 65 c).toNat:Int) - 65+1=(Ad.kM c:Nat):=by
 unfold Ad.isL at h;simp only [Bool.or_eq_true,Bool.and_eq_true,decide_eq_true_eq] at h;unfold szB Ad.kM;rcases h with h | h
 ·rw [if_pos (by omega),if_pos (by omega),Ad.toNat_ofNat (by omega)];omega
 ·rw [if_neg (by omega),if_neg (by omega)];omega
theorem aMR (c:UInt8) (u:World):CR 214 #[.string ⟨#[c]⟩] u (.string ⟨#[szB 97 65 c]⟩):=aDF ⟨#[c]⟩ (by show 1<=_;decide) u
theorem aKG (c:UInt8) (u:World):CR 142 #[.string ⟨#[c]⟩] u (.string ⟨#[szB 97 65 c]⟩):=aAZ ⟨#[c]⟩ (by show 1<=_;decide) u
theorem qP (c:UInt8) (r:List UInt8):(⟨(c:: r).toArray⟩:ByteArray).extract 0 1=⟨#[c]⟩/\(⟨(c:: r).toArray⟩:ByteArray).extract 1 (⟨(c:: r).toArray⟩:ByteArray).size=⟨r.toArray⟩/\((⟨(c:: r).toArray⟩:ByteArray).toList==[])=false/\0 < (⟨(c:: r).toArray⟩:ByteArray).size:=by
 refine ⟨?_, ?_, ?_, ?_⟩
 ·apply ByteArray.ext;simp
 ·exact drop_mk (c:: r)
 ·rw [ByteArray.toList_eq];rfl
 ·rw [size_mk];simp
theorem aA3 (n:Int) (c:Nat) (h1:1<=c) (h2:c<=26):inB n c=true↔Ad.rR n:=by unfold inB Ad.rR;simp only [Bool.and_eq_true,decide_eq_true_eq];omega
theorem lS (l:List UInt8) (hl:l.length<=140737488355328) (w:World) (T:aAc w):
  CR 233 #[.string ⟨l.toArray⟩] w (.tuple #[nX (Ad.cellP l),.bool (Ad.cellP l).isSome]):=by
 have CP:=fun u=>mE 36 l u;have hlen:=Ad.lX 36 l;unfold Ad.cellP;cases hs:(Ad.strip 36 l).2 with
 | nil=>
  rw [hs] at CP;exact aIc CP (by rw [ByteArray.toList_eq])
 | cons c r=>
  rw [hs] at CP hlen;obtain⟨k1,k2,k3,k4⟩:=qP c r;simp only;unfold Ad.aAm;cases hL:Ad.isL c
  ·have LT:=fun u=>mW c u;rw [hL] at LT;rw [if_neg (by simp)];exact aId CP k3 k4 LT
  ·have LT:=fun u=>mW c u;rw [hL] at LT;obtain⟨b1,b2,_⟩:=Ad.aAT hL;obtain⟨y1,y2,y3⟩:=aIe c hL;have hlr:=Ad.lX 36 r;have W:∀ok,inB (Ad.xD (Ad.strip 36 r).2) (Ad.kM c:Nat)=ok->_:=fun ok hok=>aF6 (w:=w) (ok:=ok) CP k3 k4 LT k1 k2 (fun u=>aMR c u) (show 0 < 1 by decide) y1 y2 y3 (fun u=>mE 36 r u) (fun u hu=>aA2 (Ad.strip 36 r).2 (by simp only [List.length_cons] at hlen;omega) u (T.below hu)) (fun u=>by have:=aHc (Ad.xD (Ad.strip 36 r).2) (Ad.kM c:Nat) u;rw [hok] at this;exact this);rcases Ad.aHb (Ad.strip 36 r).2 with ⟨h1,h2⟩ | ⟨h1,h2⟩
   ·have hx:=W true ((aA3 _ _ b1 b2).2 h1);rw [h2] at hx h1;unfold Ad.rR at h1;rw [if_pos ⟨rfl,by omega,by omega⟩];exact hx
   ·have hx:=W false (by
     cases hb:inB (Ad.xD (Ad.strip 36 r).2) (Ad.kM c:Nat)
     ·rfl
     ·exact absurd ((aA3 _ _ b1 b2).1 hb) h1)
    rw [if_neg (fun q=>h2 q.2)];exact hx
def jY (f:Bool) (A A1:ByteArray) (h:0 < A.size):Prop:=(f=true/\((A[0].toNat:Int)==36)=true/\A.extract 1 A.size=A1)\/(f=false/\((A[0].toNat:Int)==36)=false/\A=A1)
theorem aMS {A:ByteArray} {w:World} (h0:A.size=0):
  CR 242 #[.string A] w (.tuple #[gD,.bool false]):=by
 have c1:¬(0:Int) < A.size:=by omega
 have c2:(A.size:Int) < 2:=by omega
 go_enter Tryz.func242,Tryz.ntmps242;go_wp2;refine bodyPost_ret (v:=.tuple #[gD,.bool false]) (by simp [results,Tryz.results242,go_sem]) rfl ?_;refine ⟨rfl, ?_⟩;repeat (first | exact Below.refl _ _ | refine Below.drew ?_ | refine aD ?_ _ | refine Below.setCell ?_ (by simp) _)
theorem aCg {A A1:ByteArray} {fc:Bool} {w:World} (hz:0 < A.size) (hA:jY fc A A1 hz) (h2:A1.size < 2):
  CR 242 #[.string A] w (.tuple #[gD,.bool false]):=by
 have c1:(0:Int) < A.size:=by omega
 have c3:(1:Int)<=A.size:=by omega
 have c2:(A1.size:Int) < 2:=by omega
 rcases hA with ⟨rfl,h3,h4⟩ | ⟨rfl,h3,rfl⟩;all_goals
  go_enter Tryz.func242,Tryz.ntmps242;go_wp2;refine bodyPost_ret (v:=.tuple #[gD,.bool false]) (by simp [results,Tryz.results242,go_sem]) rfl ?_;refine ⟨rfl, ?_⟩;repeat (first | exact Below.refl _ _ | refine Below.drew ?_ | refine aD ?_ _ | refine Below.setCell ?_ (by simp) _)
theorem aIf {A A1:ByteArray} {fc:Bool} {w:World} (hz:0 < A.size) (hA:jY fc A A1 hz) (h2:2<=A1.size) (h0:0 < A1.size)
  (LT:∀u,CW 91 #[.int .u8 (A1[0].toNat:Nat)] u (.bool false)):
  CR 242 #[.string A] w (.tuple #[gD,.bool false]):=by
 have c1:(0:Int) < A.size:=by omega
 have c3:(1:Int)<=A.size:=by omega
 have c2:¬(A1.size:Int) < 2:=by omega
 rcases hA with ⟨rfl,h3,h4⟩ | ⟨rfl,h3,rfl⟩;all_goals
  go_enter Tryz.func242,Tryz.ntmps242;go_wp2_with (go_at_call 91;refine mw (LT _) ?_)
  refine bodyPost_ret (v:=.tuple #[gD,.bool false]) (by simp [results,Tryz.results242,go_sem]) rfl ?_;refine ⟨rfl, ?_⟩;repeat (first | exact Below.refl _ _ | refine Below.drew ?_ | refine aD ?_ _ | refine Below.setCell ?_ (by simp) _)
theorem aA4 {A A1 U V Y A2:ByteArray} {fc fr:Bool} {C:Int} {w:World} (hz:0 < A.size) (hA:jY fc A A1 hz) (h2:2<=A1.size) (h0:0 < A1.size)
    (LT:∀u,CW 91 #[.int .u8 (A1[0].toNat:Nat)] u (.bool true)) (hU:A1.extract 0 1=U) (hV:A1.extract 1 A1.size=V)
    (UP:∀u,CR 142 #[.string U] u (.string Y)) (hY:0 < Y.size) (hy1:65<=(Y[0].toNat:Int)) (hy2:(Y[0].toNat:Int)<=90) (hC:(Y[0].toNat:Int) - 65+1=C)
    (hVz:0 < V.size) (hW:jY fr V A2 hVz) (hB:A2.size=0\/2 < A2.size\/∃h:0 < A2.size,A2.size<=2/\((A2[0].toNat:Int)==48)=true):
    CR 242 #[.string A] w (.tuple #[gD,.bool false]):=by
  have c1:(0:Int) < A.size:=by omega
  have c3:(1:Int)<=A.size:=by omega
  have c2:¬(A1.size:Int) < 2:=by omega
  have c4:(1:Int)<=A1.size:=by omega
  have c5:(1:Int)<=V.size:=by omega
  have hB':((A2.size:Int) < 1)\/(¬(A2.size:Int) < 1/\(2:Int) < A2.size)\/∃h:0 < A2.size,¬(A2.size:Int) < 1/\¬(2:Int) < A2.size/\((A2[0].toNat:Int)==48)=true:=by
    rcases hB with h | h | ⟨h,g,k⟩
    · exact .inl (by omega)
    · exact .inr (.inl ⟨by omega,by omega⟩)
    · exact .inr (.inr ⟨h,by omega,by omega,k⟩)
  clear hB;rcases hA with ⟨rfl,h3,h4⟩ | ⟨rfl,h3,rfl⟩ <;> rcases hW with ⟨rfl,h5,h6⟩ | ⟨rfl,h5,rfl⟩;all_goals
    go_enter Tryz.func242,Tryz.ntmps242;go_wp2_with (go_at_call 91;refine mw (LT _) ?_)
    refine (UP _).mono ?_;rintro e w1 ⟨rfl,hb⟩;obtain⟨z1,z2⟩:=new2 hb;have HB1:Hid (Below w.heap.size w w1):=rU hb;have Z1:Hid (w1.heap[w.heap.size]? =some aT):=z1;have Z2:Hid _:=z2;obtain⟨k0,k1,k2,k3,k4,k5⟩:=aS z2;obtain⟨f0,f1,f2,f3,f4,f5⟩:=aW z2;obtain⟨d0,d1,d2,d3,d4,d5⟩:=aS z1;obtain⟨e0,e1,e2,e3,e4,e5⟩:=aW z1;clear hb z1 z2 UP LT;rcases hB' with q1 | ⟨q1,q2⟩ | ⟨q0,q1,q2,q3⟩;all_goals first
      | (exfalso;omega)
      | (go_wp2
         refine bodyPost_ret (bF rfl rfl (gT (?hz:_=some aT)) rfl) rfl ⟨rfl,bB ?hb (Nat.le_refl _)⟩
         case hz=>repeat (first | exact Z1.out | refine (eH (by omega)).trans ?_)
         case hb=>repeat (first | exact HB1.out | refine Below.setCell ?_ (by simp) _))
end Go.Proofs.YtlhoklhjbpkgpaaGreatDoor
