/-
  Proved: whatever expression, number and values it is handed, the statement ForgeTells (K1: Func and Prog answer just what the document says, errors too) returns true, and its arguments read afterwards as they read before. Conditions: the variables forge.kinds and op.kinds start as the text of the program lays them.
-/
import Derived.Test.YtogcfkmekdpmmaaDoorCards
import Derived.Test.YtogcfkmekdpmmaaDoorTie
import Derived.Test.YtogcfkmekdpmmaaDoorFB43
import Derived.Test.YtogcfkmekdpmmaaDoorFGJ
import Derived.Test.YtogcfkmekdpmmaaDoorFHB
import Derived.Deep.DeepHandedRow
set_option maxRecDepth 100000
set_option maxHeartbeats 8000000
namespace Go.Proofs.YtogcfkmekdpmmaaDoor
open Go.RowKit Go.ChangeShapes Go.WideShapes Go.ChangeAt

theorem forgeTells_walk (e:List (Int × Int)) (v:Value) (L:Int) (vals:List Int) (vv:Value) (w:World) (he:NodesAt w v e∧∀ x∈e,(Lit.int .i64 x.1).wf=true) (_:(Lit.int .i64 L).wf=true) (hv:IntsW w vv vals) (hk:FKinds w∧KindsAt w) :
    Calls Tryd.prog 4 #[v,.int .i64 L,vv] w fun e w'=>e=.returned (.bool true)∧Kept w w' :=
  forgeTells_w v vv L w (fgS e L).1 (fgS e L).2 (pgS e vals).2 (pgS e vals).1 (hide fun u hu=>forgeFunc_is e v L u (he.1.kept hu) he.2 (hk.1.kept hu)) (hide fun u hu=>forgeProg_is e vals v vv u (he.1.kept hu) he.2 (hv.kept hu) (hk.1.kept hu))
    (hide fun u hu=>refForgeFunc_is e v L u (he.1.kept hu)) (hide fun u hu=>refForgeProg_any e vals v vv u (he.1.kept hu) (hv.kept hu)) (hide fun u hu=>forgeBegun_any u (hk.1.kept hu) (hk.2.kept hu))
    (hide fun u c1 c2 h1 h2=>sameFuncsF _ _ _ c1 c2 u h1 h2) (hide fun u v1 v2 h1 h2=>sameProgsF _ v1 v2 u h1 h2)

theorem forgeTells_contract (H:Type) (enc:TypeId × Value→H) (W:World) (base:Nat) (args:Array Value) (ds gs:List (DataW H)) (before:List MemPlace)
    (hval:∀ (j:Nat) t v,Tryd.f4.params[j]?=some t→args[j]?=some v→Value.okWide Tryd.prog W .any base t v)
    (hW:DataW.Whole enc Tryd.prog Tryd.f4.params.toList Rows.forgeTellsSpec.vars false W args.toList ds gs before)
    (hsz:(DataW.weightsEach Tryd.prog (Tryd.f4.params.toList++(OpenSpec.ofChange Rows.forgeTellsSpec).bare.plain.varTypes Tryd.prog) (ds++gs)).all (·≤reachBytes)=true)
    (hL:laidMetH Tryd.prog Rows.forgeTellsRow.laid W) :
    Calls Tryd.prog 4 args W fun e W'=>∃ v,e=.returned v∧Rows.forgeTellsSpec.post enc Tryd.prog Tryd.f4 false true false false W args v W':=by
  have hW':=hW
  obtain ⟨p,q,hA0,hV,rfl,hfz,hnd⟩:=hW
  have hA:DataW.TrodAll enc Tryd.prog W 0 (fun _=>true) true Tryd.f4.params.toList args.toList ds p:=hA0
  have hlt:∀ x∈p,x.block < W.heap.size:=fun x hx=>by simpa using hW'.lt x (by simp [hx])
  have hA1:=hA
  rw [Tryd.params4] at hA hval hsz
  obtain ⟨v0,vs0,d0,ds0,p0,q0,hargs,rfl,rfl,h0,r0⟩:=trodAll_cons hA
  obtain ⟨v1,vs1,d1,ds1,p1,q1,rfl,rfl,rfl,h1,r1⟩:=trodAll_cons r0
  obtain ⟨v2,vs2,d2,ds2,p2,q2,rfl,rfl,rfl,h2,r2⟩:=trodAll_cons r1
  obtain ⟨rfl,rfl,rfl⟩:=trodAll_nil r2
  obtain rfl:args=#[v0,v1,v2]:=by cases args; simp_all
  obtain ⟨rfl,rfl⟩:=trodVars_none hV
  obtain ⟨pl0,hpl0⟩:∃ pl,NodesAt W v0 pl∧∀ x∈pl,(Lit.int .i64 x.1).wf=true:=by
    obtain ⟨oa,len,cap,rfl⟩:=okWide_slice Tryd.underlying30 (hval 0 30 v0 rfl rfl)
    obtain ⟨fuel,hf⟩:=h0
    exact open_nodes hf (fun n hn=>of_decide_eq_true (List.all_eq_true.1 hsz n (DataW.weights_mem_each (j:=0) rfl rfl n hn)))
  obtain ⟨n1,rfl,rfl,rfl,wn1⟩:=open_int Tryd.underlying3 (hval 1 3 v1 rfl rfl) h1
  obtain ⟨pl2,hpl2⟩:∃ pl,IntsW W v2 pl:=by
    obtain ⟨oa,len,cap,rfl⟩:=okWide_slice Tryd.underlying23 (hval 2 23 v2 rfl rfl)
    obtain ⟨fuel,hf⟩:=h2
    exact open_vals hf (fun n hn=>of_decide_eq_true (List.all_eq_true.1 hsz n (DataW.weights_mem_each (j:=2) rfl rfl n hn)))
  refine (forgeTells_walk pl0 v0 n1 pl2 v2 W hpl0 wn1 hpl2 (forge_laid hL)).mono fun e W' ⟨he,hg⟩=>?_
  subst he
  refine ⟨_,rfl,_,_,_,[],_,[],hW',trodAll_mk1 (shut_bool Tryd.underlying4 _),trodAll_below hg ?_ hA1 hlt,rfl,hg.frame _,fun h=>by cases h⟩
  intro t ht
  rw [Tryd.params4] at ht
  simp only [List.mem_cons,List.not_mem_nil,or_false] at ht
  rcases ht with rfl | rfl | rfl
  · exact ⟨by kernel_rfl,of_decide_eq_true (by kernel_rfl)⟩
  · exact ⟨by kernel_rfl,of_decide_eq_true (by kernel_rfl)⟩
  · exact ⟨by kernel_rfl,of_decide_eq_true (by kernel_rfl)⟩

theorem forgeTells_laid_met (os:Os):laidMet Tryd.prog Rows.forgeTellsRow.laid ((({ World.holding Tryd.prog os ⟨#[],#[],[]⟩ with heap:=((World.holding Tryd.prog os ⟨#[],#[],[]⟩).heap.modify 1 fun | .cells _ t frozen=>.cells #[.int .i64 0,.int .i64 1,.int .i64 1,.int .i64 1,.int .i64 0,.int .i64 0,.int .i64 0,.int .i64 1,.int .i64 2,.int .i64 1,.int .i64 0,.int .i64 2,.int .i64 2,.int .i64 1,.int .i64 0,.int .i64 2,.int .i64 1,.int .i64 0,.int .i64 2,.int .i64 1,.int .i64 0,.int .i64 2,.int .i64 1,.int .i64 0,.int .i64 2,.int .i64 1,.int .i64 0,.int .i64 0,.int .i64 0,.int .i64 3,.int .i64 1,.int .i64 0,.int .i64 3,.int .i64 0,.int .i64 1,.int .i64 4,.int .i64 1,.int .i64 0,.int .i64 0,.int .i64 0,.int .i64 1,.int .i64 4,.int .i64 2,.int .i64 1,.int .i64 0,.int .i64 1,.int .i64 1,.int .i64 0,.int .i64 1,.int .i64 0,.int .i64 0] t frozen | o=>o).modify 0 fun | .cells _ t frozen=>.cells #[.int .i64 0,.int .i64 2,.int .i64 4,.int .i64 5,.int .i64 6,.int .i64 7,.int .i64 8] t frozen | o=>o }:World)).forCall (fun _ _=>0) ⟨#[],#[.slice none 0 0,.int .i64 0,.slice none 0 0],[]⟩).memory :=
  laidMet_of_run' 8 (by kernel_rfl) (by kernel_rfl)
theorem forgeTells_reads (os:Os) {H:Type} (enc:TypeId × Value→H):∃ places,DataW.whole enc Tryd.prog ((({ World.holding Tryd.prog os ⟨#[],#[],[]⟩ with heap:=((World.holding Tryd.prog os ⟨#[],#[],[]⟩).heap.modify 1 fun | .cells _ t frozen=>.cells #[.int .i64 0,.int .i64 1,.int .i64 1,.int .i64 1,.int .i64 0,.int .i64 0,.int .i64 0,.int .i64 1,.int .i64 2,.int .i64 1,.int .i64 0,.int .i64 2,.int .i64 2,.int .i64 1,.int .i64 0,.int .i64 2,.int .i64 1,.int .i64 0,.int .i64 2,.int .i64 1,.int .i64 0,.int .i64 2,.int .i64 1,.int .i64 0,.int .i64 2,.int .i64 1,.int .i64 0,.int .i64 0,.int .i64 0,.int .i64 3,.int .i64 1,.int .i64 0,.int .i64 3,.int .i64 0,.int .i64 1,.int .i64 4,.int .i64 1,.int .i64 0,.int .i64 0,.int .i64 0,.int .i64 1,.int .i64 4,.int .i64 2,.int .i64 1,.int .i64 0,.int .i64 1,.int .i64 1,.int .i64 0,.int .i64 1,.int .i64 0,.int .i64 0] t frozen | o=>o).modify 0 fun | .cells _ t frozen=>.cells #[.int .i64 0,.int .i64 2,.int .i64 4,.int .i64 5,.int .i64 6,.int .i64 7,.int .i64 8] t frozen | o=>o }:World)).forCall (fun _ _=>0) ⟨#[],#[.slice none 0 0,.int .i64 0,.slice none 0 0],[]⟩).memory Tryd.f4.params.toList Rows.forgeTellsSpec.vars false (#[.slice none 0 0,.int .i64 0,.slice none 0 0]:Array Value).toList 8=some ([.nil,.lit (.int .i64 0),.nil],[],places) :=
  ⟨[],by kernel_rfl⟩

theorem forgeTells_lifted (os:Os) (started:os.Started) (H:Type) (enc:TypeId × Value→H) (F:Stop.Interp) :
    ReturnsInHanded {} Tryd.checked os 4 .any ((OpenSpec.ofChange Rows.forgeTellsSpec).preRow enc Tryd.prog Tryd.f4 Rows.forgeTellsRow.domain false Rows.forgeTellsRow.laid) (((OpenSpec.ofChange Rows.forgeTellsSpec).at F).post enc Tryd.prog Tryd.f4 false true false false):=by
  obtain ⟨places,hx⟩:=forgeTells_reads os enc
  refine returnsInHanded_of_row (C:=Tryd.checked) (s:=OpenSpec.ofChange Rows.forgeTellsSpec) own started (by kernel_rfl) Tryd.func4
    (witness_row_at (enc:=enc) (C:=Tryd.checked) false ({ World.holding Tryd.prog os ⟨#[],#[],[]⟩ with heap:=((World.holding Tryd.prog os ⟨#[],#[],[]⟩).heap.modify 1 fun | .cells _ t frozen=>.cells #[.int .i64 0,.int .i64 1,.int .i64 1,.int .i64 1,.int .i64 0,.int .i64 0,.int .i64 0,.int .i64 1,.int .i64 2,.int .i64 1,.int .i64 0,.int .i64 2,.int .i64 2,.int .i64 1,.int .i64 0,.int .i64 2,.int .i64 1,.int .i64 0,.int .i64 2,.int .i64 1,.int .i64 0,.int .i64 2,.int .i64 1,.int .i64 0,.int .i64 2,.int .i64 1,.int .i64 0,.int .i64 0,.int .i64 0,.int .i64 3,.int .i64 1,.int .i64 0,.int .i64 3,.int .i64 0,.int .i64 1,.int .i64 4,.int .i64 1,.int .i64 0,.int .i64 0,.int .i64 0,.int .i64 1,.int .i64 4,.int .i64 2,.int .i64 1,.int .i64 0,.int .i64 1,.int .i64 1,.int .i64 0,.int .i64 1,.int .i64 0,.int .i64 0] t frozen | o=>o).modify 0 fun | .cells _ t frozen=>.cells #[.int .i64 0,.int .i64 2,.int .i64 4,.int .i64 5,.int .i64 6,.int .i64 7,.int .i64 8] t frozen | o=>o }:World) #[.slice none 0 0,.int .i64 0,.slice none 0 0] rfl (by kernel_rfl) (by kernel_rfl) (by kernel_rfl)
      (OpenSpec.preRow_of_cond 8 hx (by kernel_rfl) (fun k hk=>by cases hk) (by kernel_rfl) (forgeTells_laid_met os))) ?_
  intro W base args ds gs before hval hW _ _ hsz hL _ _
  exact forgeTells_contract H enc W base args ds gs before hval hW hsz hL

theorem forgeTells_said:Rows.ForgeTellsSaid :=
  OpenClaim.holds_of_cond 4 Tryd.f4 rfl rfl rfl rfl rfl rfl rfl ⟨rfl,rfl,rfl,rfl,rfl⟩ rfl rfl rfl rfl rfl (by kernel_rfl) Tryd.func4 (by kernel_rfl)
    (of_decide_eq_true (by kernel_rfl)) (by unfold Func.isWrapper; first | (rw [if_pos (by decide +kernel)]; kernel_rfl) | (rw [if_neg (by decide +kernel)]; exact ⟨rfl,rfl⟩))
    (fun os started H enc _ F=>by rw [OpenClaim.pre_eq_preRow]; exact forgeTells_lifted os started H enc F)

theorem forgeTells_plain (f : FuncId) (fn : Func) (hf : Tryd.pinned.checked.prog.funcNamed "glebe/glebelaw.ForgeTells" = some f) (hfn : Tryd.pinned.checked.prog.funcs[f]? = some fn) :
    true=Tryd.pinned.checked.prog.looks []∧∀ (j:Nat) t,fn.params[j]?=some t→Tryd.pinned.checked.prog.wantsStandIn t=false:=by
  obtain rfl : f = 4 := Option.some.inj ((show Tryd.prog.funcNamed "glebe/glebelaw.ForgeTells" = some 4 by kernel_rfl).symm.trans hf) |>.symm
  obtain rfl:fn=Tryd.f4:=(Option.some.inj (Tryd.func4.symm.trans hfn)).symm
  refine ⟨by kernel_rfl,fun j t ht=>?_⟩
  rw [Tryd.params4] at ht
  have hm:=Array.mem_of_getElem? ht
  simp only [List.mem_toArray,List.mem_cons,List.not_mem_nil,or_false] at hm
  rcases hm with rfl | rfl | rfl
  · exact (show Tryd.prog.wantsStandIn 30=false by kernel_rfl)
  · exact (show Tryd.prog.wantsStandIn 3=false by kernel_rfl)
  · exact (show Tryd.prog.wantsStandIn 23=false by kernel_rfl)

theorem forgeTells_card:Rows.ForgeTellsCardSaid :=
  Claim7.holds_tied_plain_at .later [] _ _ _ _ forgeTells_said (fun _ h=>by cases h) (by kernel_rfl) (fun _ h=>by cases h) forgeTells_row_tie rfl ⟨rfl,rfl⟩ (by kernel_rfl) rfl forgeTells_plain (by kernel_rfl)
end Go.Proofs.YtogcfkmekdpmmaaDoor

