/-
  Proved: whatever program and number it is handed, the statement TrimTells (D1: trim.Func and trim.All answer just what the document says, errors too) returns true, and its arguments read afterwards as they read before. Conditions: the variable op.kinds starts as the program's text lays it (the card ties it); nothing else beyond the form's own.
-/
import Derived.Test.YtkepbeeioalmbabDoorCards
import Derived.Test.YtkepbeeioalmbabDoorTie
import Derived.Test.YtkepbeeioalmbabDoorTM01
import Derived.Test.YtkepbeeioalmbabDoorTM16
import Derived.Test.YtkepbeeioalmbabDoorTM17
import Derived.Deep.DeepHandedRow
set_option maxRecDepth 100000
set_option maxHeartbeats 8000000
namespace Go.Proofs.YtkepbeeioalmbabDoor
open Go.RowKit Go.ChangeShapes Go.WideShapes Go.ChangeAt

theorem trimTells_walk (p:List Fn) (v:Value) (f:Int) (w:World) (hp:ProgAt w v p) (_hf:(Lit.int .i64 f).wf=true) (hk:KindsAt w) :
    Calls Tryd.prog 5 #[v,.int .i64 f] w fun e w'=>e=.returned (.bool true)∧Kept w w':=by
  obtain ⟨oa,cap,rfl,_,_⟩:=id hp
  have htf:=trimFunc_any p (.slice oa p.length cap) f w hp hk
  have hrf:=fun u (hu:Kept w u)=>refTrimFunc_any p (.slice oa p.length cap) f u (hp.kept hu)
  generalize (tfS p f).2=er at *
  generalize (tfS p f).1=g at *
  have HTF:=hide htf
  have HRF:=hide hrf
  have HP:=hide hp
  have HK:=hide hk
  clear hp hk _hf htf hrf
  go_enter Tryd.func5,Tryd.ntmps5
  go_wp2_with fail
  refine (unhide HTF).mono ?_
  rintro e w1 ⟨cv1,rfl,hc1,hk1⟩
  obtain ⟨oc1,cc1,he1,_,_⟩:=id hc1
  subst he1
  have H1:=hide hk1
  have HC1:=hide hc1.code
  clear hk1 hc1 HTF
  go_wp2_with fail
  refine (trimAll_any p _ _ ((unhide HP).kept ((unhide H1).alloc _)) ((unhide HK).kept ((unhide H1).alloc _))).mono ?_
  rintro e w2 ⟨v2,rfl,hv2,hk2⟩
  have X2:Hid (w2.heap[w1.heap.size]?=some (.cells #[.int .i64 g.args,.int .i64 g.locals,.slice oc1 g.code.length cc1] 36)):=lays_kept hk2 (lays_new rfl)
  have hk12:Kept w1 w2:=((Kept.refl w1).alloc _).trans hk2
  have H2:=hide ((unhide H1).trans hk12)
  have HC2:=hide ((unhide HC1).kept hk12)
  have HV2:=hide hv2
  clear hk2 hk12 hv2 H1 HC1
  generalize hr:progS p=r at *
  have HR:=hide hr
  clear hr
  go_wp2_with fail
  refine ((unhide HRF) _ (unhide H2)).mono ?_
  rintro e w3 ⟨cv3,rfl,hc3,hk3⟩
  obtain ⟨oc3,cc3,he3,_,_⟩:=id hc3
  subst he3
  have X3:Hid (w3.heap[w1.heap.size]?=some (.cells #[.int .i64 g.args,.int .i64 g.locals,.slice oc1 g.code.length cc1] 36)):=lays_kept hk3 (unhide X2)
  have H3:=hide ((unhide H2).trans hk3)
  have HC3:=hide ((unhide HC2).kept hk3)
  have HD3:=hide hc3.code
  have HV3:=hide ((unhide HV2).kept hk3)
  clear hk3 hc3 H2 HC2 HV2 X2 HRF
  go_wp2_with fail
  have hra:=refTrimAll_any p (.slice oa p.length cap) (w3.alloc (.cells #[.int .i64 g.args,.int .i64 g.locals,.slice oc3 g.code.length cc3] 36)) ((unhide HP).kept ((unhide H3).alloc _))
  unfold TaPost at hra
  rw [unhide HR] at hra
  refine hra.mono ?_
  clear hra
  rintro e w4 ⟨v4,rfl,hv4,hk4⟩
  have hk34:Kept w3 w4:=((Kept.refl w3).alloc _).trans hk4
  have X4:Hid (w4.heap[w1.heap.size]?=some (.cells #[.int .i64 g.args,.int .i64 g.locals,.slice oc1 g.code.length cc1] 36)):=lays_kept hk34 (unhide X3)
  have Y4:Hid (w4.heap[w3.heap.size]?=some (.cells #[.int .i64 g.args,.int .i64 g.locals,.slice oc3 g.code.length cc3] 36)):=lays_kept hk4 (lays_new rfl)
  have H4:=hide ((unhide H3).trans hk34)
  have HC4:=hide ((unhide HC3).kept hk34)
  have HD4:=hide ((unhide HD3).kept hk34)
  have HV4:=hide ((unhide HV3).kept hk34)
  have HU4:=hide hv4
  clear hk34 hk4 hv4 H3 HC3 HD3 HV3 X3
  go_wp2_with fail
  refine (trimBegun_any _ ((unhide HK).kept (unhide H4))).mono ?_
  rintro e w5 ⟨rfl,hk5⟩
  have x5:=lays_kept hk5 (unhide X4)
  have y5:=lays_kept hk5 (unhide Y4)
  have x0:=cell_lays x5 0
  have x1:=cell_lays x5 1
  have x2:=cell_lays x5 2
  have y0:=cell_lays y5 0
  have y1:=cell_lays y5 1
  have y2:=cell_lays y5 2
  simp only [List.getElem?_toArray,List.getElem?_cons_zero,List.getElem?_cons_succ] at x0 x1 x2 y0 y1 y2
  have H5:=hide ((unhide H4).trans hk5)
  have HC5:=hide ((unhide HC4).kept hk5)
  have HD5:=hide ((unhide HD4).kept hk5)
  have HV5:=hide ((unhide HV4).kept hk5)
  have HU5:=hide ((unhide HU4).kept hk5)
  clear hk5 x5 y5 H4 HC4 HD4 HV4 HU4 X4 Y4
  go_wp2_with fail
  refine (sameFuncs_same _ _ _ _ _ _ (unhide HC5) (unhide HD5)).mono ?_
  rintro e w6 ⟨rfl,hk6⟩
  have H6:=hide ((unhide H5).trans hk6)
  have HV6:=hide ((unhide HV5).kept hk6)
  have HU6:=hide ((unhide HU5).kept hk6)
  clear hk6 H5 HC5 HD5 HV5 HU5 x0 x1 x2 y0 y1 y2
  go_wp2_with fail
  refine (sameProgs_same _ _ _ _ (unhide HV6) (unhide HU6)).mono ?_
  rintro e w7 ⟨rfl,hk7⟩
  have H7:=hide ((unhide H6).trans hk7)
  clear hk7 H6 HV6 HU6
  go_wp2
  go_ret
  exact ⟨by simp,unhide H7⟩

theorem trimTells_contract (H:Type) (enc:TypeId × Value→H) (W:World) (base:Nat) (args:Array Value) (ds gs:List (DataW H)) (before:List MemPlace)
    (hval:∀ (j:Nat) t v,Tryd.f5.params[j]?=some t→args[j]?=some v→Value.okWide Tryd.prog W .any base t v)
    (hW:DataW.Whole enc Tryd.prog Tryd.f5.params.toList Rows.trimTellsSpec.vars false W args.toList ds gs before)
    (hsz:(DataW.weightsEach Tryd.prog (Tryd.f5.params.toList++(OpenSpec.ofChange Rows.trimTellsSpec).bare.plain.varTypes Tryd.prog) (ds++gs)).all (·≤reachBytes)=true)
    (hL:laidMetH Tryd.prog Rows.trimTellsRow.laid W) :
    Calls Tryd.prog 5 args W fun e W'=>∃ v,e=.returned v∧Rows.trimTellsSpec.post enc Tryd.prog Tryd.f5 false true false false W args v W':=by
  have hW':=hW
  obtain ⟨p,q,hA0,hV,rfl,hfz,hnd⟩:=hW
  have hA:DataW.TrodAll enc Tryd.prog W 0 (fun _=>true) true Tryd.f5.params.toList args.toList ds p:=hA0
  have hlt:∀ x∈p,x.block < W.heap.size:=fun x hx=>by simpa using hW'.lt x (by simp [hx])
  have hA1:=hA
  rw [Tryd.params5] at hA hval hsz
  obtain ⟨v0,vs0,d0,ds0,p0,q0,hargs,rfl,rfl,h0,r0⟩:=trodAll_cons hA
  obtain ⟨v1,vs1,d1,ds1,p1,q1,rfl,rfl,rfl,h1,r1⟩:=trodAll_cons r0
  obtain ⟨rfl,rfl,rfl⟩:=trodAll_nil r1
  obtain rfl:args=#[v0,v1]:=by cases args; simp_all
  obtain ⟨rfl,rfl⟩:=trodVars_none hV
  obtain ⟨pl0,hpl0⟩:∃ pl,ProgAt W v0 pl:=by
    obtain ⟨oa,len,cap,rfl⟩:=okWide_slice Tryd.underlying22 (hval 0 22 v0 rfl rfl)
    obtain ⟨fuel,hf⟩:=h0
    exact open_prog hf (fun n hn=>of_decide_eq_true (List.all_eq_true.1 hsz n (DataW.weights_mem_each (j:=0) rfl rfl n hn)))
  obtain ⟨n1,rfl,rfl,rfl,wn1⟩:=open_int Tryd.underlying3 (hval 1 3 v1 rfl rfl) h1
  refine (trimTells_walk pl0 v0 n1 W hpl0 wn1 (kinds_of_laid hL)).mono fun e W' ⟨he,hg⟩=>?_
  subst he
  refine ⟨_,rfl,_,_,_,[],_,[],hW',trodAll_mk1 (shut_bool Tryd.underlying4 _),trodAll_below hg ?_ hA1 hlt,rfl,hg.frame _,fun h=>by cases h⟩
  intro t ht
  rw [Tryd.params5] at ht
  simp only [List.mem_cons,List.not_mem_nil,or_false] at ht
  rcases ht with rfl | rfl
  · exact ⟨by kernel_rfl,of_decide_eq_true (by kernel_rfl)⟩
  · exact ⟨by kernel_rfl,of_decide_eq_true (by kernel_rfl)⟩

theorem trimTells_laid_met (os:Os):laidMet Tryd.prog Rows.trimTellsRow.laid ((({ World.holding Tryd.prog os ⟨#[],#[],[]⟩ with heap:=(World.holding Tryd.prog os ⟨#[],#[],[]⟩).heap.modify 0 fun | .cells _ t frozen=>.cells #[.int .i64 0,.int .i64 1,.int .i64 1,.int .i64 1,.int .i64 0,.int .i64 0,.int .i64 0,.int .i64 1,.int .i64 2,.int .i64 1,.int .i64 0,.int .i64 2,.int .i64 2,.int .i64 1,.int .i64 0,.int .i64 2,.int .i64 1,.int .i64 0,.int .i64 2,.int .i64 1,.int .i64 0,.int .i64 2,.int .i64 1,.int .i64 0,.int .i64 2,.int .i64 1,.int .i64 0,.int .i64 0,.int .i64 0,.int .i64 3,.int .i64 1,.int .i64 0,.int .i64 3,.int .i64 0,.int .i64 1,.int .i64 4,.int .i64 1,.int .i64 0,.int .i64 0,.int .i64 0,.int .i64 1,.int .i64 4,.int .i64 2,.int .i64 1,.int .i64 0,.int .i64 1,.int .i64 1,.int .i64 0,.int .i64 1,.int .i64 0,.int .i64 0] t frozen | o=>o }:World)).forCall (fun _ _=>0) ⟨#[],#[.slice none 0 0,.int .i64 0],[]⟩).memory :=
  laidMet_of_run' 8 (by kernel_rfl) (by kernel_rfl)
theorem trimTells_reads (os:Os) {H:Type} (enc:TypeId × Value→H):∃ places,DataW.whole enc Tryd.prog ((({ World.holding Tryd.prog os ⟨#[],#[],[]⟩ with heap:=(World.holding Tryd.prog os ⟨#[],#[],[]⟩).heap.modify 0 fun | .cells _ t frozen=>.cells #[.int .i64 0,.int .i64 1,.int .i64 1,.int .i64 1,.int .i64 0,.int .i64 0,.int .i64 0,.int .i64 1,.int .i64 2,.int .i64 1,.int .i64 0,.int .i64 2,.int .i64 2,.int .i64 1,.int .i64 0,.int .i64 2,.int .i64 1,.int .i64 0,.int .i64 2,.int .i64 1,.int .i64 0,.int .i64 2,.int .i64 1,.int .i64 0,.int .i64 2,.int .i64 1,.int .i64 0,.int .i64 0,.int .i64 0,.int .i64 3,.int .i64 1,.int .i64 0,.int .i64 3,.int .i64 0,.int .i64 1,.int .i64 4,.int .i64 1,.int .i64 0,.int .i64 0,.int .i64 0,.int .i64 1,.int .i64 4,.int .i64 2,.int .i64 1,.int .i64 0,.int .i64 1,.int .i64 1,.int .i64 0,.int .i64 1,.int .i64 0,.int .i64 0] t frozen | o=>o }:World)).forCall (fun _ _=>0) ⟨#[],#[.slice none 0 0,.int .i64 0],[]⟩).memory Tryd.f5.params.toList Rows.trimTellsSpec.vars false (#[.slice none 0 0,.int .i64 0]:Array Value).toList 8=some ([.nil,.lit (.int .i64 0)],[],places) :=
  ⟨[],by kernel_rfl⟩

theorem trimTells_lifted (os:Os) (started:os.Started) (H:Type) (enc:TypeId × Value→H) (F:Stop.Interp) :
    ReturnsInHanded {} Tryd.checked os 5 .any ((OpenSpec.ofChange Rows.trimTellsSpec).preRow enc Tryd.prog Tryd.f5 Rows.trimTellsRow.domain false Rows.trimTellsRow.laid) (((OpenSpec.ofChange Rows.trimTellsSpec).at F).post enc Tryd.prog Tryd.f5 false true false false):=by
  obtain ⟨places,hx⟩:=trimTells_reads os enc
  refine returnsInHanded_of_row (C:=Tryd.checked) (s:=OpenSpec.ofChange Rows.trimTellsSpec) own started (by kernel_rfl) Tryd.func5
    (witness_row_at (enc:=enc) (C:=Tryd.checked) false ({ World.holding Tryd.prog os ⟨#[],#[],[]⟩ with heap:=(World.holding Tryd.prog os ⟨#[],#[],[]⟩).heap.modify 0 fun | .cells _ t frozen=>.cells #[.int .i64 0,.int .i64 1,.int .i64 1,.int .i64 1,.int .i64 0,.int .i64 0,.int .i64 0,.int .i64 1,.int .i64 2,.int .i64 1,.int .i64 0,.int .i64 2,.int .i64 2,.int .i64 1,.int .i64 0,.int .i64 2,.int .i64 1,.int .i64 0,.int .i64 2,.int .i64 1,.int .i64 0,.int .i64 2,.int .i64 1,.int .i64 0,.int .i64 2,.int .i64 1,.int .i64 0,.int .i64 0,.int .i64 0,.int .i64 3,.int .i64 1,.int .i64 0,.int .i64 3,.int .i64 0,.int .i64 1,.int .i64 4,.int .i64 1,.int .i64 0,.int .i64 0,.int .i64 0,.int .i64 1,.int .i64 4,.int .i64 2,.int .i64 1,.int .i64 0,.int .i64 1,.int .i64 1,.int .i64 0,.int .i64 1,.int .i64 0,.int .i64 0] t frozen | o=>o }:World) #[.slice none 0 0,.int .i64 0] rfl (by kernel_rfl) (by kernel_rfl) (by kernel_rfl)
      (OpenSpec.preRow_of_cond 8 hx (by kernel_rfl) (fun k hk=>by cases hk) (by kernel_rfl) (trimTells_laid_met os))) ?_
  intro W base args ds gs before hval hW _ _ hsz hL _ _
  exact trimTells_contract H enc W base args ds gs before hval hW hsz hL

theorem trimTells_said:Rows.TrimTellsSaid :=
  OpenClaim.holds_of_cond 5 Tryd.f5 rfl rfl rfl rfl rfl rfl rfl ⟨rfl,rfl,rfl,rfl,rfl⟩ rfl rfl rfl rfl rfl (by kernel_rfl) Tryd.func5 (by kernel_rfl)
    (of_decide_eq_true (by kernel_rfl)) (by unfold Func.isWrapper; first | (rw [if_pos (by decide +kernel)]; kernel_rfl) | (rw [if_neg (by decide +kernel)]; exact ⟨rfl,rfl⟩))
    (fun os started H enc _ F=>by rw [OpenClaim.pre_eq_preRow]; exact trimTells_lifted os started H enc F)

theorem trimTells_plain (f : FuncId) (fn : Func) (hf : Tryd.pinned.checked.prog.funcNamed "glebe/glebelaw.TrimTells" = some f) (hfn : Tryd.pinned.checked.prog.funcs[f]? = some fn) :
    false=Tryd.pinned.checked.prog.looks []∧∀ (j:Nat) t,fn.params[j]?=some t→Tryd.pinned.checked.prog.wantsStandIn t=false:=by
  obtain rfl : f = 5 := Option.some.inj ((show Tryd.prog.funcNamed "glebe/glebelaw.TrimTells" = some 5 by kernel_rfl).symm.trans hf) |>.symm
  obtain rfl:fn=Tryd.f5:=(Option.some.inj (Tryd.func5.symm.trans hfn)).symm
  refine ⟨by kernel_rfl,fun j t ht=>?_⟩
  rw [Tryd.params5] at ht
  have hm:=Array.mem_of_getElem? ht
  simp only [List.mem_toArray,List.mem_cons,List.not_mem_nil,or_false] at hm
  rcases hm with rfl | rfl
  · exact (show Tryd.prog.wantsStandIn 22=false by kernel_rfl)
  · exact (show Tryd.prog.wantsStandIn 3=false by kernel_rfl)

theorem trimTells_card:Rows.TrimTellsCardSaid :=
  Claim7.holds_tied_plain_at .later [] _ _ _ _ trimTells_said (fun _ h=>by cases h) (by kernel_rfl) (fun _ h=>by cases h) trimTells_row_tie rfl ⟨rfl,rfl⟩ (by kernel_rfl) rfl trimTells_plain (by kernel_rfl)
end Go.Proofs.YtkepbeeioalmbabDoor

