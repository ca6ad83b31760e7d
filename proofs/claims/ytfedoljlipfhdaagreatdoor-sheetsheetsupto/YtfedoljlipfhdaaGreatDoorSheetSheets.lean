/- For every book and every put that hold together at most 1048576 values and letters the law SheetSheets returns true: sheets that are added, dropped and moved are what the document asks, and what is answered has memory of its own; the arguments read as they read before. The tables of the library and the names of the errors and operators are tied to what the program holds. -/
import Derived.Deep.DeepHandedRow
import Derived.SevenTiedAt
import Derived.Test.YtfedoljlipfhdaaGreatDoorCards
import Derived.Test.YtfedoljlipfhdaaGreatDoorTie
import Derived.Test.YtfedoljlipfhdaaGreatDoorSSOPw
open ByteArray renaming empty->Q
open Go.Proofs.Tryz renaming prog->Z
namespace Go.Proofs.YtfedoljlipfhdaaGreatDoor
namespace sheetSheets
open Go.ChangeShapes Go.WideShapes Go.ChangeAt Go.RowKit
set_option linter.unusedVariables false

theorem laidOut:laidOutB Z=true:=by kernel_rfl
theorem rJ {H:Type} {enc:TypeId × Value->H} {C:Checked} {os:Os} {f:FuncId} {fn:Func} {s:OpenSpec} {conds:List PathCond} {apart:Bool} {laid:List (String × DataW Unit)} (modest:Bool) (w0:World) (args:Array Value) (hos:w0.os=os)
    (hsh:(w0.forCall (fun _ _=>0) ⟨#[],args,[]⟩).Shaped C.prog) (hok:Input.okWideB C.prog (w0.forCall (fun _ _=>0) ⟨#[],args,[]⟩) f ⟨#[],args,[]⟩=true)
    (hrow:s.preRow enc C.prog fn conds apart laid (w0.forCall (fun _ _=>0) ⟨#[],args,[]⟩).memory args):
    ∃(w:World) (tape:Tape) (i:Input),w.os=os/\(w.forCall tape i).Shaped C.prog/\i.vars=[]/\Input.okWide C.prog (w.forCall tape i) .any w.heap.size f i/\
      s.preRow enc C.prog fn conds apart laid (w.forCall tape i).memory i.args/\({ modest:=modest }:Assume).holds C.prog (lone (Frame.enter C.prog f i.args .normal) [] (w.forCall tape i)):=
  ⟨w0,fun _ _=>0,⟨#[],args,[]⟩,hos,hsh,(Input.okWide_of_okWideB (base:=0) hok).1,(Input.okWide_of_okWideB hok).2,hrow,by
    simp only [Assume.holds];exact⟨by simp,by simp,fun _=>Modest.zero,by simp,by simp⟩⟩
theorem reads (os:Os) {H:Type} (enc:TypeId × Value->H):∃places,DataW.whole enc Z ((World.laidAll Z os lG).forCall (fun _ _=>0) ⟨#[],#[.agg #[.slice none 0 0,.slice none 0 0,.slice none 0 0],.agg #[.string Q,.int .i64 0,.int .i64 0,.string Q,.int .i64 0,.slice none 0 0]],[]⟩).memory Tryz.f4.params.toList Rows.sheetSheetsSpec.vars false (#[.agg #[.slice none 0 0,.slice none 0 0,.slice none 0 0],.agg #[.string Q,.int .i64 0,.int .i64 0,.string Q,.int .i64 0,.slice none 0 0]]:Array Value).toList 8=some ([.agg [.nil,.nil,.nil],.agg [.lit (.string []),.lit (.int .i64 0),.lit (.int .i64 0),.lit (.string []),.lit (.int .i64 0),.nil]],[],places):=
  ⟨[],by kernel_rfl⟩
set_option maxRecDepth 100000 in
theorem lifted (os:Os) (started:os.Started) (H:Type) (enc:TypeId × Value->H) (F:Stop.Interp):
    ReturnsInHanded {} Tryz.checked os 4 .any ((Rows.OpenSpec.upto Rows.sheetSheetsSpec).preRow enc Z Tryz.f4 Rows.sheetSheetsUptoRow.domain false Rows.sheetSheetsUptoRow.laid) (((Rows.OpenSpec.upto Rows.sheetSheetsSpec).at F).post enc Z Tryz.f4 false true false false):=by
  obtain⟨places,hx⟩:=reads os enc;refine returnsInHanded_of_row (C:=Tryz.checked) (s:=Rows.OpenSpec.upto Rows.sheetSheetsSpec) own started (by kernel_rfl) Tryz.func4
    (rJ (enc:=enc) (C:=Tryz.checked) false (World.laidAll Z os lG) #[.agg #[.slice none 0 0,.slice none 0 0,.slice none 0 0],.agg #[.string Q,.int .i64 0,.int .i64 0,.string Q,.int .i64 0,.slice none 0 0]] (World.laidAll_os _ _ _) (World.shaped_of_ZipB (by kernel_rfl) (by kernel_rfl)) (by kernel_rfl)
      (OpenSpec.preRow_of_cond 8 hx (by kernel_rfl) (fun k hk=>by cases hk;kernel_rfl) (by kernel_rfl) (aLc os _))) ?_
  intro W base args ds gs before hval0 hW _ hcond _ hL hsh _;have hval:∀(j:Nat) t v,Tryz.f4.params[j]? =some t->args[j]? =some v->Value.okWide Z W .any base t v:=hval0;have hW':=hW;obtain⟨p,q,hA0,hV,rfl,hfz,hnd⟩:=hW;have hA:DataW.TrodAll enc Z W 0 (fun _=>true) true Tryz.f4.params.toList args.toList ds p:=hA0;rw [Tryz.params4] at hA hval;obtain⟨v0,vs0,d0,ds0,p0,q0,hargs,rfl,rfl,h0,r0⟩:=trodAll_cons hA;obtain⟨v1,vs1,d1,ds1,p1,q1,rfl,rfl,rfl,h1,r1⟩:=trodAll_cons r0;obtain⟨rfl,rfl,rfl⟩:=trodAll_nil r1;obtain rfl:args=#[v0,v1]:=by cases args;simp_all
  obtain⟨rfl,rfl⟩:=trodVars_none hV;have aFY:=of_decide_eq_true (hcond _ rfl);simp only [List.append_nil,Rows.uptoBulkAll] at aFY;have k0:=h0;have lt0:∀x ∈ p0,x.block < W.heap.size:=by obtain⟨m,hm⟩:=k0;exact DataW.trod_lt m _ _ _ hm
  obtain⟨sv0,nv0,lv0,x0,rfl,hB0,hO0,hZ0⟩:=Sh.Ub.aMC (hval 0 26 v0 rfl rfl) h0;have k1:=h1;have lt1:∀x ∈ p1,x.block < W.heap.size:=by obtain⟨m,hm⟩:=k1;exact DataW.trod_lt m _ _ _ hm
  obtain⟨q1_,L1_,rfl,hr1,hc1,ht1,hs1,hm1⟩:=Sh.Ub.aHv (hval 1 29 v1 rfl rfl) h1;try simp only [Rows.uptoBulk,Rows.uptoBulkAll] at aFY
  clear hA0 hval0;refine (Sh.Ub.aDD (aLh hL hsh) hB0 hO0 hZ0 q1_ L1_ hr1 hc1 ht1 hs1 hm1 (by omega)).mono fun e W' ⟨he,bel⟩=> ?_;subst he;exact⟨_,rfl,_,_,_,[],_,[],hW',trodAll_mk1 (shut_bool Tryz.underlying4 _),(trodAll_cons_mk (Below.trod laidOut (by kernel_rfl) (of_decide_eq_true (by kernel_rfl)) k0 bel lt0) (trodAll_cons_mk (Below.trod laidOut (by kernel_rfl) (of_decide_eq_true (by kernel_rfl)) k1 bel lt1) trodAll_mk0)),rfl,bel.frame _,fun h=>by cases h⟩

theorem facts:joinedFacts Tryz.pinned.checked.prog 4 Tryz.f4 (Rows.OpenSpec.upto Rows.sheetSheetsSpec).bare Rows.sheetSheetsUptoRow=true:=by kernel_rfl
theorem over:Rows.SheetSheetsUptoSaid:=
  OpenClaim.holds_of_cond 4 Tryz.f4 rfl rfl rfl rfl rfl rfl rfl ⟨rfl,rfl,rfl,rfl,rfl⟩ rfl rfl rfl rfl rfl (by kernel_rfl) Tryz.func4 facts
    (of_decide_eq_true (by kernel_rfl)) (by unfold Func.isWrapper;first | (rw [if_pos (by decide+kernel)];kernel_rfl) | (rw [if_neg (by decide+kernel)];exact⟨rfl,rfl⟩))
    (fun os started H enc _ F=>by rw [OpenClaim.pre_eq_preRow];exact lifted os started H enc F)
end sheetSheets

theorem sheetSheetsUpto_card_holds:Rows.SheetSheetsUptoCardSaid:=
  Claim7.holds_tied_plain_at .later [] [.data,.data,.data,.data,.sentinel,.sentinel,.data,.data,.pinned] true (true, "960e02721bececa3506c61c62e40c721bee3846305f73375786a16e15959d057") true
    sheetSheets.over (fun _ h=>by cases h) (by kernel_rfl) (fun _ h=>by cases h) sheetSheetsUpto_row_tie rfl ⟨rfl,rfl⟩ (by kernel_rfl) rfl
    (fun f fn hf hfn=>by
      obtain rfl:f=4:=Option.some.inj ((show Tryz.prog.funcNamed "octavo/octavolaw12.SheetSheets" = some 4 by kernel_rfl).symm.trans hf) |>.symm
      obtain rfl:fn=Tryz.f4:=(Option.some.inj (Tryz.func4.symm.trans hfn)).symm;exact⟨by kernel_rfl,fun j t ht=>by
        rw [Tryz.params4] at ht;have h3:t=26\/t=29:=by
          rcases j with _ | j
          · simp at ht;subst ht;decide
          rcases j with _ | j
          · simp at ht;subst ht;decide
          · simp at ht
        rcases h3 with rfl | rfl
        · exact(show Tryz.prog.wantsStandIn 26=false by kernel_rfl)
        · exact(show Tryz.prog.wantsStandIn 29=false by kernel_rfl)⟩)
    (by kernel_rfl)
#print axioms sheetSheetsUpto_card_holds
end Go.Proofs.YtfedoljlipfhdaaGreatDoor
