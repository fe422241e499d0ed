/-
  Proved: whatever program and number it is handed, the statement RunAll (H1: All answers just what the document says, errors too) returns true, and its arguments read afterwards as they read before. Conditions: the variable op.kinds starts as the program's text lays it (the card ties it); nothing else beyond the form's own.
-/
import Derived.Test.YtogcfkmekdpmmaaDoorCards
import Derived.Test.YtogcfkmekdpmmaaDoorTie
import Derived.Test.YtogcfkmekdpmmaaDoorFB43
import Derived.Test.YtogcfkmekdpmmaaDoorRunAllW
import Derived.Test.YtogcfkmekdpmmaaDoorFB30
import Derived.Test.YtogcfkmekdpmmaaDoorFB39
import Derived.Test.YtogcfkmekdpmmaaDoorFB29
import Derived.Deep.DeepHandedRow
set_option maxRecDepth 100000
set_option maxHeartbeats 8000000
namespace Go.Proofs.YtogcfkmekdpmmaaDoor
open Go.RowKit Go.ChangeShapes Go.WideShapes Go.ChangeAt

theorem refAll_gives (p:List Fn) (vp:Value) (c:Int) (w:World) (hp:ProgAt w vp p):GivesInts 9 #[vp,.int .i64 c] w (allS p c).1 [.int .i64 (allS p c).2.1,.int .i64 (allS p c).2.2]:=by
  have h:=refAll_w vp c w (progS p) (inB c 0 500) (beginS p) (runS p c.toNat (beginS p)).1 (runS p c.toNat (beginS p)).2.1 (runS p c.toNat (beginS p)).2.2 (hide fun u=>within_any _ _ _ u) (hide fun u hu=>progError_any p vp u (hp.kept hu)) (hide fun h0 u hu=>beginOf_any p vp u (hp.kept hu) h0) (hide fun h0 hin u v hu hv=>by
    obtain ⟨h1,h2⟩:=inB_iff.1 hin
    have hb:=begin_right h0
    have:=run_any p (beginS p) vp v c.toNat u (hp.kept hu) hv (right_small hb) (by omega) (right_runs _ hb)
    rw [Int.toNat_of_nonneg h1] at this
    refine this.mono ?_
    rintro e w' ⟨V,rfl,ho,hk⟩
    obtain ⟨xs,hr,_⟩:=ho.piece .fibers trivial
    obtain ⟨o3,c3,E3,_⟩:=row_slice hr
    have hr4:w'.ownsRow u.heap.size 3 1 (V .out) _ _:=ho.piece .out trivial
    obtain ⟨o4,c4,E4,_⟩:=row_slice hr4
    have hi:=ints_row hr4 (right_small (run_right c.toNat hb)).2.1
    rw [E4] at hi hr4
    exact ⟨o3,_,c3,_,o4,_,c4,by rw [E3,E4],rfl,row_cap hr4,hi,hk⟩)
  unfold allS rnS
  by_cases hin:inB c 0 500=true
  · simp only [hin,if_true] at h ⊢
    by_cases h0:progS p=0
    · have hb:=begin_right h0
      simp only [h0,hb,if_true] at h ⊢
      exact h
    · simp only [h0,if_false] at h ⊢
      exact h
  · simp only [hin] at h ⊢
    exact h
theorem runAll_walk (p:List Fn) (vp:Value) (c:Int) (w:World) (hp:ProgAt w vp p) (_:(Lit.int .i64 c).wf=true) (hk:KindsAt w) :
    Calls Tryd.prog 3 #[vp,.int .i64 c] w fun e w'=>e=.returned (.bool true)∧Kept w w' :=
  runAll_w vp c w (allS p c).1 (allS p c).2.1 (allS p c).2.2 (hide fun u hu=>runAll_gives p vp c u (hp.kept hu) (hk.kept hu)) (hide fun u hu=>refAll_gives p vp c u (hp.kept hu)) (hide fun u v1 v2 h1 h2=>sameInts_is _ u v1 v2 h1 h2) (hide fun u hu=>runBegun_any u (hk.kept hu))

theorem runAll_contract (H:Type) (enc:TypeId × Value→H) (W:World) (base:Nat) (args:Array Value) (ds gs:List (DataW H)) (before:List MemPlace)
    (hval:∀ (j:Nat) t v,Tryd.f3.params[j]?=some t→args[j]?=some v→Value.okWide Tryd.prog W .any base t v)
    (hW:DataW.Whole enc Tryd.prog Tryd.f3.params.toList Rows.runAllSpec.vars false W args.toList ds gs before)
    (hsz:(DataW.weightsEach Tryd.prog (Tryd.f3.params.toList++(OpenSpec.ofChange Rows.runAllSpec).bare.plain.varTypes Tryd.prog) (ds++gs)).all (·≤reachBytes)=true)
    (hL:laidMetH Tryd.prog Rows.runAllRow.laid W) :
    Calls Tryd.prog 3 args W fun e W'=>∃ v,e=.returned v∧Rows.runAllSpec.post enc Tryd.prog Tryd.f3 false true false false W args v W':=by
  have hW':=hW
  obtain ⟨p,q,hA0,hV,rfl,hfz,hnd⟩:=hW
  have hA:DataW.TrodAll enc Tryd.prog W 0 (fun _=>true) true Tryd.f3.params.toList args.toList ds p:=hA0
  have hlt:∀ x∈p,x.block < W.heap.size:=fun x hx=>by simpa using hW'.lt x (by simp [hx])
  have hA1:=hA
  rw [Tryd.params3] at hA hval hsz
  obtain ⟨v0,vs0,d0,ds0,p0,q0,hargs,rfl,rfl,h0,r0⟩:=trodAll_cons hA
  obtain ⟨v1,vs1,d1,ds1,p1,q1,rfl,rfl,rfl,h1,r1⟩:=trodAll_cons r0
  obtain ⟨rfl,rfl,rfl⟩:=trodAll_nil r1
  obtain rfl:args=#[v0,v1]:=by cases args; simp_all
  obtain ⟨rfl,rfl⟩:=trodVars_none hV
  obtain ⟨pl0,hpl0⟩:∃ pl,ProgAt W v0 pl:=by
    obtain ⟨oa,len,cap,rfl⟩:=okWide_slice Tryd.underlying22 (hval 0 22 v0 rfl rfl)
    obtain ⟨fuel,hf⟩:=h0
    exact open_prog hf (fun n hn=>of_decide_eq_true (List.all_eq_true.1 hsz n (DataW.weights_mem_each (j:=0) rfl rfl n hn)))
  obtain ⟨n1,rfl,rfl,rfl,wn1⟩:=open_int Tryd.underlying3 (hval 1 3 v1 rfl rfl) h1
  refine (runAll_walk pl0 v0 n1 W hpl0 wn1 (kinds_of_laid hL)).mono fun e W' ⟨he,hg⟩=>?_
  subst he
  refine ⟨_,rfl,_,_,_,[],_,[],hW',trodAll_mk1 (shut_bool Tryd.underlying4 _),trodAll_below hg ?_ hA1 hlt,rfl,hg.frame _,fun h=>by cases h⟩
  intro t ht
  rw [Tryd.params3] at ht
  simp only [List.mem_cons,List.not_mem_nil,or_false] at ht
  rcases ht with rfl | rfl
  · exact ⟨by kernel_rfl,of_decide_eq_true (by kernel_rfl)⟩
  · exact ⟨by kernel_rfl,of_decide_eq_true (by kernel_rfl)⟩

theorem runAll_laid_met (os:Os):laidMet Tryd.prog Rows.runAllRow.laid ((({ World.holding Tryd.prog os ⟨#[],#[],[]⟩ with heap:=(World.holding Tryd.prog os ⟨#[],#[],[]⟩).heap.modify 1 fun | .cells _ t frozen=>.cells #[.int .i64 0,.int .i64 1,.int .i64 1,.int .i64 1,.int .i64 0,.int .i64 0,.int .i64 0,.int .i64 1,.int .i64 2,.int .i64 1,.int .i64 0,.int .i64 2,.int .i64 2,.int .i64 1,.int .i64 0,.int .i64 2,.int .i64 1,.int .i64 0,.int .i64 2,.int .i64 1,.int .i64 0,.int .i64 2,.int .i64 1,.int .i64 0,.int .i64 2,.int .i64 1,.int .i64 0,.int .i64 0,.int .i64 0,.int .i64 3,.int .i64 1,.int .i64 0,.int .i64 3,.int .i64 0,.int .i64 1,.int .i64 4,.int .i64 1,.int .i64 0,.int .i64 0,.int .i64 0,.int .i64 1,.int .i64 4,.int .i64 2,.int .i64 1,.int .i64 0,.int .i64 1,.int .i64 1,.int .i64 0,.int .i64 1,.int .i64 0,.int .i64 0] t frozen | o=>o }:World)).forCall (fun _ _=>0) ⟨#[],#[.slice none 0 0,.int .i64 0],[]⟩).memory :=
  laidMet_of_run' 8 (by kernel_rfl) (by kernel_rfl)
theorem runAll_reads (os:Os) {H:Type} (enc:TypeId × Value→H):∃ places,DataW.whole enc Tryd.prog ((({ World.holding Tryd.prog os ⟨#[],#[],[]⟩ with heap:=(World.holding Tryd.prog os ⟨#[],#[],[]⟩).heap.modify 1 fun | .cells _ t frozen=>.cells #[.int .i64 0,.int .i64 1,.int .i64 1,.int .i64 1,.int .i64 0,.int .i64 0,.int .i64 0,.int .i64 1,.int .i64 2,.int .i64 1,.int .i64 0,.int .i64 2,.int .i64 2,.int .i64 1,.int .i64 0,.int .i64 2,.int .i64 1,.int .i64 0,.int .i64 2,.int .i64 1,.int .i64 0,.int .i64 2,.int .i64 1,.int .i64 0,.int .i64 2,.int .i64 1,.int .i64 0,.int .i64 0,.int .i64 0,.int .i64 3,.int .i64 1,.int .i64 0,.int .i64 3,.int .i64 0,.int .i64 1,.int .i64 4,.int .i64 1,.int .i64 0,.int .i64 0,.int .i64 0,.int .i64 1,.int .i64 4,.int .i64 2,.int .i64 1,.int .i64 0,.int .i64 1,.int .i64 1,.int .i64 0,.int .i64 1,.int .i64 0,.int .i64 0] t frozen | o=>o }:World)).forCall (fun _ _=>0) ⟨#[],#[.slice none 0 0,.int .i64 0],[]⟩).memory Tryd.f3.params.toList Rows.runAllSpec.vars false (#[.slice none 0 0,.int .i64 0]:Array Value).toList 8=some ([.nil,.lit (.int .i64 0)],[],places) :=
  ⟨[],by kernel_rfl⟩

theorem runAll_lifted (os:Os) (started:os.Started) (H:Type) (enc:TypeId × Value→H) (F:Stop.Interp) :
    ReturnsInHanded {} Tryd.checked os 3 .any ((OpenSpec.ofChange Rows.runAllSpec).preRow enc Tryd.prog Tryd.f3 Rows.runAllRow.domain false Rows.runAllRow.laid) (((OpenSpec.ofChange Rows.runAllSpec).at F).post enc Tryd.prog Tryd.f3 false true false false):=by
  obtain ⟨places,hx⟩:=runAll_reads os enc
  refine returnsInHanded_of_row (C:=Tryd.checked) (s:=OpenSpec.ofChange Rows.runAllSpec) own started (by kernel_rfl) Tryd.func3
    (witness_row_at (enc:=enc) (C:=Tryd.checked) false ({ World.holding Tryd.prog os ⟨#[],#[],[]⟩ with heap:=(World.holding Tryd.prog os ⟨#[],#[],[]⟩).heap.modify 1 fun | .cells _ t frozen=>.cells #[.int .i64 0,.int .i64 1,.int .i64 1,.int .i64 1,.int .i64 0,.int .i64 0,.int .i64 0,.int .i64 1,.int .i64 2,.int .i64 1,.int .i64 0,.int .i64 2,.int .i64 2,.int .i64 1,.int .i64 0,.int .i64 2,.int .i64 1,.int .i64 0,.int .i64 2,.int .i64 1,.int .i64 0,.int .i64 2,.int .i64 1,.int .i64 0,.int .i64 2,.int .i64 1,.int .i64 0,.int .i64 0,.int .i64 0,.int .i64 3,.int .i64 1,.int .i64 0,.int .i64 3,.int .i64 0,.int .i64 1,.int .i64 4,.int .i64 1,.int .i64 0,.int .i64 0,.int .i64 0,.int .i64 1,.int .i64 4,.int .i64 2,.int .i64 1,.int .i64 0,.int .i64 1,.int .i64 1,.int .i64 0,.int .i64 1,.int .i64 0,.int .i64 0] t frozen | o=>o }:World) #[.slice none 0 0,.int .i64 0] rfl (by kernel_rfl) (by kernel_rfl) (by kernel_rfl)
      (OpenSpec.preRow_of_cond 8 hx (by kernel_rfl) (fun k hk=>by cases hk) (by kernel_rfl) (runAll_laid_met os))) ?_
  intro W base args ds gs before hval hW _ _ hsz hL _ _
  exact runAll_contract H enc W base args ds gs before hval hW hsz hL

theorem runAll_said:Rows.RunAllSaid :=
  OpenClaim.holds_of_cond 3 Tryd.f3 rfl rfl rfl rfl rfl rfl rfl ⟨rfl,rfl,rfl,rfl,rfl⟩ rfl rfl rfl rfl rfl (by kernel_rfl) Tryd.func3 (by kernel_rfl)
    (of_decide_eq_true (by kernel_rfl)) (by unfold Func.isWrapper; first | (rw [if_pos (by decide +kernel)]; kernel_rfl) | (rw [if_neg (by decide +kernel)]; exact ⟨rfl,rfl⟩))
    (fun os started H enc _ F=>by rw [OpenClaim.pre_eq_preRow]; exact runAll_lifted os started H enc F)

theorem runAll_plain (f : FuncId) (fn : Func) (hf : Tryd.pinned.checked.prog.funcNamed "glebe/glebelaw.RunAll" = some f) (hfn : Tryd.pinned.checked.prog.funcs[f]? = some fn) :
    true=Tryd.pinned.checked.prog.looks []∧∀ (j:Nat) t,fn.params[j]?=some t→Tryd.pinned.checked.prog.wantsStandIn t=false:=by
  obtain rfl : f = 3 := Option.some.inj ((show Tryd.prog.funcNamed "glebe/glebelaw.RunAll" = some 3 by kernel_rfl).symm.trans hf) |>.symm
  obtain rfl:fn=Tryd.f3:=(Option.some.inj (Tryd.func3.symm.trans hfn)).symm
  refine ⟨by kernel_rfl,fun j t ht=>?_⟩
  rw [Tryd.params3] at ht
  have hm:=Array.mem_of_getElem? ht
  simp only [List.mem_toArray,List.mem_cons,List.not_mem_nil,or_false] at hm
  rcases hm with rfl | rfl
  · exact (show Tryd.prog.wantsStandIn 22=false by kernel_rfl)
  · exact (show Tryd.prog.wantsStandIn 3=false by kernel_rfl)

theorem runAll_card:Rows.RunAllCardSaid :=
  Claim7.holds_tied_plain_at .later [] _ _ _ _ runAll_said (fun _ h=>by cases h) (by kernel_rfl) (fun _ h=>by cases h) runAll_row_tie rfl ⟨rfl,rfl⟩ (by kernel_rfl) rfl runAll_plain (by kernel_rfl)
end Go.Proofs.YtogcfkmekdpmmaaDoor
