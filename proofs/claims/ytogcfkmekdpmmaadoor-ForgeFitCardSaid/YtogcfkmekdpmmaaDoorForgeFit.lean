/-
  Proved: whatever program, expression and numbers it is handed, the statement ForgeFit (A2, B1, C1, K1: a function that is forged may stand in any right program, behind all: it is right, and what was is run as it was) returns true, and its arguments read afterwards as they read before. Conditions: the variables forge.kinds and op.kinds start as the text of the program lays them (the card ties them); nothing else beyond the own ones of the form.
-/
import Derived.Test.YtogcfkmekdpmmaaDoorCards
import Derived.Test.YtogcfkmekdpmmaaDoorTie
import Derived.Test.YtogcfkmekdpmmaaDoorFGJ
import Derived.Test.YtogcfkmekdpmmaaDoorForgeFitW
import Derived.Test.YtogcfkmekdpmmaaDoorFB25
import Derived.Test.YtogcfkmekdpmmaaDoorFB43
import Derived.Deep.DeepHandedRow
set_option maxRecDepth 100000
set_option maxHeartbeats 8000000
namespace Go.Proofs.YtogcfkmekdpmmaaDoor
open Go.RowKit Go.ChangeShapes Go.WideShapes Go.ChangeAt

theorem forgeFit_walk (p:List Fn) (v0:Value) (e:List (Int × Int)) (v1:Value) (L c:Int) (w:World) (hp:ProgAt w v0 p) (he:NodesAt w v1 e∧∀ x∈e,(Lit.int .i64 x.1).wf=true) (_:(Lit.int .i64 L).wf=true) (hc:(Lit.int .i64 c).wf=true) (hk:FKinds w∧KindsAt w) :
    Calls Tryd.prog 7 #[v0,v1,.int .i64 L,.int .i64 c] w fun e w'=>e=.returned (.bool true)∧Kept w w':=by
  obtain ⟨oa,cap,rfl,_,hi⟩:=id hp
  by_cases hg:exErrS e L=0∧progS p=0∧p.length < 5
  · obtain ⟨hz,hp0,h5⟩:=hg
    obtain ⟨_,hpos,_⟩:=progS_right hp0
    obtain ⟨b,o,_,rfl,_⟩:=hi 0 _ (getD_of_lt p 0 Fn.zero hpos)
    have hfg:fgS e L=(fnS e L,0):=by unfold fgS; rw [if_pos hz]
    have hq:=fit_right hp0 h5 (ExG.of hz)
    refine forgeFit_go v1 b o p.length cap L c (chooseS c 501) w p (fnS e L) (allS p (chooseS c 501)).1 (allS p (chooseS c 501)).2.1 (allS p (chooseS c 501)).2.2 (hide hp) h5 hpos (hide fun u hu=>?_) (hide fun u hu=>forgeBegun_any u (hk.1.kept hu) (hk.2.kept hu)) (hide fun u v hu hv=>?_) (hide fun u v hu hv=>?_) (hide fun u=>choose_is c 501 hc (by omega) (by omega) u) (hide fun u v hu hv=>runAll_gives p v _ u hv (hk.2.kept hu)) (hide fun u v hu hv=>?_) (hide fun u a1 a2 h1 h2=>sameInts_is _ u a1 a2 h1 h2)
    · have:=forgeFunc_is e v1 L u (he.1.kept hu) he.2 (hk.1.kept hu)
      rw [hfg] at this
      exact this
    · have:=progCheck_any p v u hv (hk.2.kept hu)
      rw [hp0] at this
      exact this
    · have:=progCheck_any _ v u hv (hk.2.kept hu)
      rw [hq] at this
      exact this
    · have:=runAll_gives _ v (chooseS c 501) u hv (hk.2.kept hu)
      rw [fit_all hp0 hq] at this
      exact this
  · refine forgeFit_bad v1 oa p.length cap L c w (fgS e L).1 (fgS e L).2 (progS p) (hide fun u hu=>forgeFunc_is e v1 L u (he.1.kept hu) he.2 (hk.1.kept hu)) (hide fun u hu=>forgeBegun_any u (hk.1.kept hu) (hk.2.kept hu)) (hide fun u hu=>progCheck_any p _ u (hp.kept hu) (hk.2.kept hu)) ?_
    by_cases hz:exErrS e L=0
    · by_cases h0:progS p=0
      · exact .inr (.inr (by omega))
      · exact .inr (.inl h0)
    · refine .inl ?_
      unfold fgS
      rw [if_neg hz]
      exact hz

theorem forgeFit_contract (H:Type) (enc:TypeId × Value→H) (W:World) (base:Nat) (args:Array Value) (ds gs:List (DataW H)) (before:List MemPlace)
    (hval:∀ (j:Nat) t v,Tryd.f7.params[j]?=some t→args[j]?=some v→Value.okWide Tryd.prog W .any base t v)
    (hW:DataW.Whole enc Tryd.prog Tryd.f7.params.toList Rows.forgeFitSpec.vars false W args.toList ds gs before)
    (hsz:(DataW.weightsEach Tryd.prog (Tryd.f7.params.toList++(OpenSpec.ofChange Rows.forgeFitSpec).bare.plain.varTypes Tryd.prog) (ds++gs)).all (·≤reachBytes)=true)
    (hL:laidMetH Tryd.prog Rows.forgeFitRow.laid W) :
    Calls Tryd.prog 7 args W fun e W'=>∃ v,e=.returned v∧Rows.forgeFitSpec.post enc Tryd.prog Tryd.f7 false true false false W args v W':=by
  have hW':=hW
  obtain ⟨p,q,hA0,hV,rfl,hfz,hnd⟩:=hW
  have hA:DataW.TrodAll enc Tryd.prog W 0 (fun _=>true) true Tryd.f7.params.toList args.toList ds p:=hA0
  have hlt:∀ x∈p,x.block < W.heap.size:=fun x hx=>by simpa using hW'.lt x (by simp [hx])
  have hA1:=hA
  rw [Tryd.params7] at hA hval hsz
  obtain ⟨v0,vs0,d0,ds0,p0,q0,hargs,rfl,rfl,h0,r0⟩:=trodAll_cons hA
  obtain ⟨v1,vs1,d1,ds1,p1,q1,rfl,rfl,rfl,h1,r1⟩:=trodAll_cons r0
  obtain ⟨v2,vs2,d2,ds2,p2,q2,rfl,rfl,rfl,h2,r2⟩:=trodAll_cons r1
  obtain ⟨v3,vs3,d3,ds3,p3,q3,rfl,rfl,rfl,h3,r3⟩:=trodAll_cons r2
  obtain ⟨rfl,rfl,rfl⟩:=trodAll_nil r3
  obtain rfl:args=#[v0,v1,v2,v3]:=by cases args; simp_all
  obtain ⟨rfl,rfl⟩:=trodVars_none hV
  obtain ⟨pl0,hpl0⟩:∃ pl,ProgAt W v0 pl:=by
    obtain ⟨oa,len,cap,rfl⟩:=okWide_slice Tryd.underlying22 (hval 0 22 v0 rfl rfl)
    obtain ⟨fuel,hf⟩:=h0
    exact open_prog hf (fun n hn=>of_decide_eq_true (List.all_eq_true.1 hsz n (DataW.weights_mem_each (j:=0) rfl rfl n hn)))
  obtain ⟨pl1,hpl1⟩:∃ pl,NodesAt W v1 pl∧∀ x∈pl,(Lit.int .i64 x.1).wf=true:=by
    obtain ⟨oa,len,cap,rfl⟩:=okWide_slice Tryd.underlying30 (hval 1 30 v1 rfl rfl)
    obtain ⟨fuel,hf⟩:=h1
    exact open_nodes hf (fun n hn=>of_decide_eq_true (List.all_eq_true.1 hsz n (DataW.weights_mem_each (j:=1) rfl rfl n hn)))
  obtain ⟨n2,rfl,rfl,rfl,wn2⟩:=open_int Tryd.underlying3 (hval 2 3 v2 rfl rfl) h2
  obtain ⟨n3,rfl,rfl,rfl,wn3⟩:=open_int Tryd.underlying3 (hval 3 3 v3 rfl rfl) h3
  refine (forgeFit_walk pl0 v0 pl1 v1 n2 n3 W hpl0 hpl1 wn2 wn3 (forge_laid hL)).mono fun e W' ⟨he,hg⟩=>?_
  subst he
  refine ⟨_,rfl,_,_,_,[],_,[],hW',trodAll_mk1 (shut_bool Tryd.underlying4 _),trodAll_below hg ?_ hA1 hlt,rfl,hg.frame _,fun h=>by cases h⟩
  intro t ht
  rw [Tryd.params7] at ht
  simp only [List.mem_cons,List.not_mem_nil,or_false] at ht
  rcases ht with rfl | rfl | rfl | rfl
  · exact ⟨by kernel_rfl,of_decide_eq_true (by kernel_rfl)⟩
  · exact ⟨by kernel_rfl,of_decide_eq_true (by kernel_rfl)⟩
  · exact ⟨by kernel_rfl,of_decide_eq_true (by kernel_rfl)⟩
  · exact ⟨by kernel_rfl,of_decide_eq_true (by kernel_rfl)⟩

theorem forgeFit_laid_met (os:Os):laidMet Tryd.prog Rows.forgeFitRow.laid ((({ World.holding Tryd.prog os ⟨#[],#[],[]⟩ with heap:=((World.holding Tryd.prog os ⟨#[],#[],[]⟩).heap.modify 1 fun | .cells _ t frozen=>.cells #[.int .i64 0,.int .i64 1,.int .i64 1,.int .i64 1,.int .i64 0,.int .i64 0,.int .i64 0,.int .i64 1,.int .i64 2,.int .i64 1,.int .i64 0,.int .i64 2,.int .i64 2,.int .i64 1,.int .i64 0,.int .i64 2,.int .i64 1,.int .i64 0,.int .i64 2,.int .i64 1,.int .i64 0,.int .i64 2,.int .i64 1,.int .i64 0,.int .i64 2,.int .i64 1,.int .i64 0,.int .i64 0,.int .i64 0,.int .i64 3,.int .i64 1,.int .i64 0,.int .i64 3,.int .i64 0,.int .i64 1,.int .i64 4,.int .i64 1,.int .i64 0,.int .i64 0,.int .i64 0,.int .i64 1,.int .i64 4,.int .i64 2,.int .i64 1,.int .i64 0,.int .i64 1,.int .i64 1,.int .i64 0,.int .i64 1,.int .i64 0,.int .i64 0] t frozen | o=>o).modify 0 fun | .cells _ t frozen=>.cells #[.int .i64 0,.int .i64 2,.int .i64 4,.int .i64 5,.int .i64 6,.int .i64 7,.int .i64 8] t frozen | o=>o }:World)).forCall (fun _ _=>0) ⟨#[],#[.slice none 0 0,.slice none 0 0,.int .i64 0,.int .i64 0],[]⟩).memory :=
  laidMet_of_run' 8 (by kernel_rfl) (by kernel_rfl)
theorem forgeFit_reads (os:Os) {H:Type} (enc:TypeId × Value→H):∃ places,DataW.whole enc Tryd.prog ((({ World.holding Tryd.prog os ⟨#[],#[],[]⟩ with heap:=((World.holding Tryd.prog os ⟨#[],#[],[]⟩).heap.modify 1 fun | .cells _ t frozen=>.cells #[.int .i64 0,.int .i64 1,.int .i64 1,.int .i64 1,.int .i64 0,.int .i64 0,.int .i64 0,.int .i64 1,.int .i64 2,.int .i64 1,.int .i64 0,.int .i64 2,.int .i64 2,.int .i64 1,.int .i64 0,.int .i64 2,.int .i64 1,.int .i64 0,.int .i64 2,.int .i64 1,.int .i64 0,.int .i64 2,.int .i64 1,.int .i64 0,.int .i64 2,.int .i64 1,.int .i64 0,.int .i64 0,.int .i64 0,.int .i64 3,.int .i64 1,.int .i64 0,.int .i64 3,.int .i64 0,.int .i64 1,.int .i64 4,.int .i64 1,.int .i64 0,.int .i64 0,.int .i64 0,.int .i64 1,.int .i64 4,.int .i64 2,.int .i64 1,.int .i64 0,.int .i64 1,.int .i64 1,.int .i64 0,.int .i64 1,.int .i64 0,.int .i64 0] t frozen | o=>o).modify 0 fun | .cells _ t frozen=>.cells #[.int .i64 0,.int .i64 2,.int .i64 4,.int .i64 5,.int .i64 6,.int .i64 7,.int .i64 8] t frozen | o=>o }:World)).forCall (fun _ _=>0) ⟨#[],#[.slice none 0 0,.slice none 0 0,.int .i64 0,.int .i64 0],[]⟩).memory Tryd.f7.params.toList Rows.forgeFitSpec.vars false (#[.slice none 0 0,.slice none 0 0,.int .i64 0,.int .i64 0]:Array Value).toList 8=some ([.nil,.nil,.lit (.int .i64 0),.lit (.int .i64 0)],[],places) :=
  ⟨[],by kernel_rfl⟩

theorem forgeFit_lifted (os:Os) (started:os.Started) (H:Type) (enc:TypeId × Value→H) (F:Stop.Interp) :
    ReturnsInHanded {} Tryd.checked os 7 .any ((OpenSpec.ofChange Rows.forgeFitSpec).preRow enc Tryd.prog Tryd.f7 Rows.forgeFitRow.domain false Rows.forgeFitRow.laid) (((OpenSpec.ofChange Rows.forgeFitSpec).at F).post enc Tryd.prog Tryd.f7 false true false false):=by
  obtain ⟨places,hx⟩:=forgeFit_reads os enc
  refine returnsInHanded_of_row (C:=Tryd.checked) (s:=OpenSpec.ofChange Rows.forgeFitSpec) own started (by kernel_rfl) Tryd.func7
    (witness_row_at (enc:=enc) (C:=Tryd.checked) false ({ World.holding Tryd.prog os ⟨#[],#[],[]⟩ with heap:=((World.holding Tryd.prog os ⟨#[],#[],[]⟩).heap.modify 1 fun | .cells _ t frozen=>.cells #[.int .i64 0,.int .i64 1,.int .i64 1,.int .i64 1,.int .i64 0,.int .i64 0,.int .i64 0,.int .i64 1,.int .i64 2,.int .i64 1,.int .i64 0,.int .i64 2,.int .i64 2,.int .i64 1,.int .i64 0,.int .i64 2,.int .i64 1,.int .i64 0,.int .i64 2,.int .i64 1,.int .i64 0,.int .i64 2,.int .i64 1,.int .i64 0,.int .i64 2,.int .i64 1,.int .i64 0,.int .i64 0,.int .i64 0,.int .i64 3,.int .i64 1,.int .i64 0,.int .i64 3,.int .i64 0,.int .i64 1,.int .i64 4,.int .i64 1,.int .i64 0,.int .i64 0,.int .i64 0,.int .i64 1,.int .i64 4,.int .i64 2,.int .i64 1,.int .i64 0,.int .i64 1,.int .i64 1,.int .i64 0,.int .i64 1,.int .i64 0,.int .i64 0] t frozen | o=>o).modify 0 fun | .cells _ t frozen=>.cells #[.int .i64 0,.int .i64 2,.int .i64 4,.int .i64 5,.int .i64 6,.int .i64 7,.int .i64 8] t frozen | o=>o }:World) #[.slice none 0 0,.slice none 0 0,.int .i64 0,.int .i64 0] rfl (by kernel_rfl) (by kernel_rfl) (by kernel_rfl)
      (OpenSpec.preRow_of_cond 8 hx (by kernel_rfl) (fun k hk=>by cases hk) (by kernel_rfl) (forgeFit_laid_met os))) ?_
  intro W base args ds gs before hval hW _ _ hsz hL _ _
  exact forgeFit_contract H enc W base args ds gs before hval hW hsz hL

theorem forgeFit_said:Rows.ForgeFitSaid :=
  OpenClaim.holds_of_cond 7 Tryd.f7 rfl rfl rfl rfl rfl rfl rfl ⟨rfl,rfl,rfl,rfl,rfl⟩ rfl rfl rfl rfl rfl (by kernel_rfl) Tryd.func7 (by kernel_rfl)
    (of_decide_eq_true (by kernel_rfl)) (by unfold Func.isWrapper; first | (rw [if_pos (by decide +kernel)]; kernel_rfl) | (rw [if_neg (by decide +kernel)]; exact ⟨rfl,rfl⟩))
    (fun os started H enc _ F=>by rw [OpenClaim.pre_eq_preRow]; exact forgeFit_lifted os started H enc F)

theorem forgeFit_plain (f : FuncId) (fn : Func) (hf : Tryd.pinned.checked.prog.funcNamed "glebe/glebelaw.ForgeFit" = some f) (hfn : Tryd.pinned.checked.prog.funcs[f]? = some fn) :
    true=Tryd.pinned.checked.prog.looks []∧∀ (j:Nat) t,fn.params[j]?=some t→Tryd.pinned.checked.prog.wantsStandIn t=false:=by
  obtain rfl : f = 7 := Option.some.inj ((show Tryd.prog.funcNamed "glebe/glebelaw.ForgeFit" = some 7 by kernel_rfl).symm.trans hf) |>.symm
  obtain rfl:fn=Tryd.f7:=(Option.some.inj (Tryd.func7.symm.trans hfn)).symm
  refine ⟨by kernel_rfl,fun j t ht=>?_⟩
  rw [Tryd.params7] at ht
  have hm:=Array.mem_of_getElem? ht
  simp only [List.mem_toArray,List.mem_cons,List.not_mem_nil,or_false] at hm
  rcases hm with rfl | rfl | rfl | rfl
  · exact (show Tryd.prog.wantsStandIn 22=false by kernel_rfl)
  · exact (show Tryd.prog.wantsStandIn 30=false by kernel_rfl)
  · exact (show Tryd.prog.wantsStandIn 3=false by kernel_rfl)
  · exact (show Tryd.prog.wantsStandIn 3=false by kernel_rfl)

theorem forgeFit_card:Rows.ForgeFitCardSaid :=
  Claim7.holds_tied_plain_at .later [] _ _ _ _ forgeFit_said (fun _ h=>by cases h) (by kernel_rfl) (fun _ h=>by cases h) forgeFit_row_tie rfl ⟨rfl,rfl⟩ (by kernel_rfl) rfl forgeFit_plain (by kernel_rfl)
end Go.Proofs.YtogcfkmekdpmmaaDoor

