/-
  Proved: whatever program, state and number it is handed, the statement RestStates (P2: what came, and was changed, changes nothing that was handed in, nor what comes next) returns true, and its arguments read afterwards as they read before. Conditions: the variable op.kinds starts as the text of the program lays it (the card ties it); nothing else beyond the own ones of the form.
-/
import Derived.Test.YtblihfpigjiahaaGreatDoorCards
import Derived.Test.YtblihfpigjiahaaGreatDoorTie
import Derived.Test.YtblihfpigjiahaaGreatDoorZB47
import Derived.Test.YtblihfpigjiahaaGreatDoorSBG
import Derived.Test.YtblihfpigjiahaaGreatDoorZB30
import Derived.Test.YtblihfpigjiahaaGreatDoorRSJ
import Derived.Test.YtblihfpigjiahaaGreatDoorRestW
import Derived.Test.YtblihfpigjiahaaGreatDoorZB37
import Derived.Deep.DeepHandedRow
set_option maxRecDepth 100000
set_option maxHeartbeats 8000000
namespace Go.Proofs.YtblihfpigjiahaaGreatDoor
open Go.RowKit Go.ChangeShapes Go.WideShapes Go.ChangeAt

theorem own_ok {N:Nat} {w:World} {V:Key→Value} {s:St} (h:Own N w V s) (hs:Small s):∃ oa n cap c oo m co,(.agg #[V .fibers,.int .i64 s.now,V .out]:Value)=.agg #[.slice oa n cap,.int .i64 c,.slice oo m co]∧StAt w (.agg #[.slice oa n cap,.int .i64 c,.slice oo m co]) s∧FbsOk w N (.slice oa n cap)∧IntsOk w N (.slice oo m co):=by
  obtain ⟨oa,n,cap,c,oo,m,co,h1,h2⟩:=own_st h hs
  obtain ⟨h3,h4⟩:=h.shape
  have e:=h1
  simp only [Value.agg.injEq,Array.mk.injEq,List.cons.injEq,and_true] at e
  obtain ⟨e1,_,e2⟩:=e
  rw [e1] at h3
  rw [e2] at h4
  exact ⟨oa,n,cap,c,oo,m,co,h1,h2,h3,h4⟩
theorem restStates_bad (vp:Value) (w:World) (oa oo:Option Addr) (n cap m co:Nat) (c fu er:Int) (hz:er≠0)
    (HE:Hid (∀ u,Kept w u→Calls Tryz.prog 11 #[vp,.agg #[.slice oa n cap,.int .i64 c,.slice oo m co]] u fun e w'=>e=.returned (.int .i64 er)∧Kept u w'))
    (HRB:Hid (∀ u,Kept w u→Calls Tryz.prog 12 #[] u fun e w'=>e=.returned (.bool true)∧Kept u w')) :
    Calls Tryz.prog 4 #[vp,.agg #[.slice oa n cap,.int .i64 c,.slice oo m co],.int .i64 fu] w fun e w'=>e=.returned (.bool true)∧Kept w w':=by
  have hb:(er != 0)=true:=bne_iff_ne.2 hz
  clear hz
  go_enter Tryz.func4,Tryz.ntmps4
  go_wp2_with fail
  obtain ⟨k9,l9⟩:=box_st (Kept.refl w) #[.slice oa n cap,.int .i64 c,.slice oo m co] 26
  generalize w.alloc (.cells #[.slice oa n cap,.int .i64 c,.slice oo m co] 26)=w1 at *
  generalize w.heap.size=B0 at *
  have HK:=hide k9
  clear k9 l9
  refine ((un HE) _ (un HK)).mono ?_
  rintro _ w2 ⟨rfl,hk⟩
  replace HK:=hide ((un HK).trans hk)
  clear hk HE
  go_wp2_with fail
  refine ((un HRB) _ (un HK)).mono ?_
  rintro _ w3 ⟨rfl,hk⟩
  replace HK:=hide ((un HK).trans hk)
  clear hk
  go_wp2_with fail
  go_ret
  exact ⟨rfl,un HK⟩
theorem restStates_walk (p:List Fn) (vp:Value) (s:St) (vs:Value) (fu:Int) (w:World) (hp:ProgAt w vp p) (hs:StAt w vs s) (hw:(Lit.int .i64 fu).wf=true) (hk:KindsAt w) :
    Calls Tryz.prog 4 #[vp,vs,.int .i64 fu] w fun e w'=>e=.returned (.bool true)∧Kept w w':=by
  obtain ⟨oa,n,cap,c,oo,m,co,rfl⟩:=stAt_shape hs
  have HRB:Hid (∀ u,Kept w u→Calls Tryz.prog 12 #[] u fun e w'=>e=.returned (.bool true)∧Kept u w'):=hide fun u hu=>stepBegun_any u (hk.kept hu)
  have HE:=hide fun u (hu:Kept w u)=>stateError_any p vp _ s u (hp.kept hu) (hs.kept hu)
  by_cases h0:Zy p s=0
  · rw [h0] at HE
    obtain ⟨hpr,_,_⟩:=Km h0
    obtain ⟨h5,hp0,hck⟩:=Ka hpr
    refine restStates_w vp w oa oo n cap m co c fu (chooseS fu 40) p s (stpS p s).1 (rnS p s (chooseS fu 40)).1 (Xw p) (stpS p s).2 (rnS p s (chooseS fu 40)).2.2 (rnS p s (chooseS fu 40)).2.1 (hide hp) (hide hs) HE (hide fun u hu=>?_) (hide fun u hu=>?_) (hide fun u=>choose_is fu 40 hw (by omega) (by omega) u) (hide fun u hu=>?_) (hide fun u hu=>?_) (hide fun u hu=>?_)
      (hide fun u hu=>stepOf_gives p s _ _ u (hp.kept hu) (hs.kept hu)) (hide fun u hu=>runOf_gives p s _ _ _ u (hp.kept hu) (hs.kept hu)) (hide fun u v1 v2 r h1 h2=>sameStates_same r v1 v2 u h1 h2) (hide fun u v1 v2 h1 h2=>sameProgsF p v1 v2 u h1 h2) HRB
    · refine (ownState_any s _ u (hs.kept hu) (Jz h0)).mono ?_
      rintro e w' ⟨V,rfl,ho,hk'⟩
      obtain ⟨oa,n,cap,c,oo,m,co,h1,h2,_,_⟩:=own_ok ho (Jz h0)
      exact ⟨oa,n,cap,c,oo,m,co,by rw [h1],h2,hk'⟩
    · refine ownProg_any p vp u (hp.kept hu) h5 (fun f hf=>?_)
      obtain ⟨i,hi⟩:=List.mem_iff_getElem?.1 hf
      have hil:=(List.getElem?_eq_some_iff.1 hi).1
      obtain ⟨j,hj,_,hc,_⟩:=chkS_zero (hck i hil)
      obtain rfl:i=j:=by omega
      rwa [List.getD_eq_getElem?_getD,hi] at hc
    · refine (stepDo_any p s vp _ u (hp.kept hu) (hs.kept hu) (hk.kept hu)).mono ?_
      rintro e w' ⟨V,rfl,ho,hk'⟩
      obtain ⟨oa,n,cap,c,oo,m,co,h1,h2,h3,h4⟩:=own_ok ho stpS_small
      exact ⟨oa,n,cap,c,oo,m,co,by rw [h1]; rfl,h2,h3,h4,hk'⟩
    · refine (runRun_any p s vp _ _ u (hp.kept hu) (hs.kept hu) (hk.kept hu)).mono ?_
      rintro e w' ⟨V,rfl,ho,hk'⟩
      obtain ⟨oa,n,cap,c,oo,m,co,h1,h2,h3,h4⟩:=own_ok ho rnS_small
      exact ⟨oa,n,cap,c,oo,m,co,by rw [h1]; rfl,h2,h3,h4,hk'⟩
    · have hpu:=hp.kept hu
      obtain ⟨oq,cp,rfl,_,hcell⟩:=id hpu
      obtain ⟨b,o,cv,rfl,_,c1,_,_⟩:=hcell 0 _ (Zm p 0 Fn.zero hp0)
      have hroom:0≤(p.getD 0 Fn.zero).locals∧(p.getD 0 Fn.zero).locals≤4:=by
        obtain ⟨i,hi,_,_,hr,_⟩:=chkS_zero (hck 0 hp0)
        obtain rfl:i=0:=by omega
        have:=Qz.1 hr
        omega
      obtain ⟨lo,hlo⟩:∃ lo:Nat,(p.getD 0 Fn.zero).locals=lo:=⟨(p.getD 0 Fn.zero).locals.toNat,by omega⟩
      unfold Xw
      rw [hlo] at c1 hroom ⊢
      rw [Int.toNat_natCast]
      exact (begin_new p b o _ cp lo u hpu (hk.kept hu) hpr (by simpa using c1) hp0 (by omega)).mono fun _ _ h=>begin_ok (by omega) h
  · exact restStates_bad vp w oa oo n cap m co c fu _ h0 HE HRB

theorem restStates_contract (H:Type) (enc:TypeId × Value→H) (W:World) (base:Nat) (args:Array Value) (ds gs:List (DataW H)) (before:List MemPlace)
    (hval:∀ (j:Nat) t v,Tryz.f4.params[j]?=some t→args[j]?=some v→Value.okWide Tryz.prog W .any base t v)
    (hW:DataW.Whole enc Tryz.prog Tryz.f4.params.toList Rows.restStatesSpec.vars false W args.toList ds gs before)
    (hsz:(DataW.weightsEach Tryz.prog (Tryz.f4.params.toList++(OpenSpec.ofChange Rows.restStatesSpec).bare.plain.varTypes Tryz.prog) (ds++gs)).all (·≤reachBytes)=true)
    (hL:laidMetH Tryz.prog Rows.restStatesRow.laid W) :
    Calls Tryz.prog 4 args W fun e W'=>∃ v,e=.returned v∧Rows.restStatesSpec.post enc Tryz.prog Tryz.f4 false true false false W args v W':=by
  have hW':=hW
  obtain ⟨p,q,hA0,hV,rfl,hfz,hnd⟩:=hW
  have hA:DataW.TrodAll enc Tryz.prog W 0 (fun _=>true) true Tryz.f4.params.toList args.toList ds p:=hA0
  have hlt:∀ x∈p,x.block < W.heap.size:=fun x hx=>by simpa using hW'.lt x (by simp [hx])
  have hA1:=hA
  rw [Tryz.params4] at hA hval hsz
  obtain ⟨v0,vs0,d0,ds0,p0,q0,hargs,rfl,rfl,h0,r0⟩:=trodAll_cons hA
  obtain ⟨v1,vs1,d1,ds1,p1,q1,rfl,rfl,rfl,h1,r1⟩:=trodAll_cons r0
  obtain ⟨v2,vs2,d2,ds2,p2,q2,rfl,rfl,rfl,h2,r2⟩:=trodAll_cons r1
  obtain ⟨rfl,rfl,rfl⟩:=trodAll_nil r2
  obtain rfl:args=#[v0,v1,v2]:=by cases args; simp_all
  obtain ⟨rfl,rfl⟩:=trodVars_none hV
  obtain ⟨pl0,hpl0⟩:∃ pl,ProgAt W v0 pl:=by
    obtain ⟨oa,len,cap,rfl⟩:=okWide_slice Tryz.underlying22 (hval 0 22 v0 rfl rfl)
    obtain ⟨fuel,hf⟩:=h0
    exact open_prog hf (fun n hn=>of_decide_eq_true (List.all_eq_true.1 hsz n (DataW.weights_mem_each (j:=0) rfl rfl n hn)))
  obtain ⟨st1,hst1⟩:∃ st,StAt W v1 st:=by
    obtain ⟨fuel,hf⟩:=h1
    obtain ⟨cs,rfl,hc⟩:=okWide_struct Tryz.underlying26 (hval 1 26 v1 rfl rfl)
    have:=open_state hf (fun n hn=>of_decide_eq_true (List.all_eq_true.1 hsz n (DataW.weights_mem_each (j:=1) rfl rfl n hn)))
    cases cs
    simpa [Value.cells] using this
  obtain ⟨n2,rfl,rfl,rfl,wn2⟩:=open_int Tryz.underlying3 (hval 2 3 v2 rfl rfl) h2
  refine (restStates_walk pl0 v0 st1 v1 n2 W hpl0 hst1 wn2 (kinds_of_laid hL)).mono fun e W' ⟨he,hg⟩=>?_
  subst he
  refine ⟨_,rfl,_,_,_,[],_,[],hW',trodAll_mk1 (shut_bool Tryz.underlying4 _),trodAll_below hg ?_ hA1 hlt,rfl,hg.frame _,fun h=>by cases h⟩
  intro t ht
  rw [Tryz.params4] at ht
  simp only [List.mem_cons,List.not_mem_nil,or_false] at ht
  rcases ht with rfl | rfl | rfl
  · exact ⟨by kernel_rfl,of_decide_eq_true (by kernel_rfl)⟩
  · exact ⟨by kernel_rfl,of_decide_eq_true (by kernel_rfl)⟩
  · exact ⟨by kernel_rfl,of_decide_eq_true (by kernel_rfl)⟩

theorem restStates_laid_met (os:Os):laidMet Tryz.prog Rows.restStatesRow.laid ((({ World.holding Tryz.prog os ⟨#[],#[],[]⟩ with heap:=(World.holding Tryz.prog os ⟨#[],#[],[]⟩).heap.modify 0 fun | .cells _ t frozen=>.cells #[.int .i64 0,.int .i64 1,.int .i64 1,.int .i64 1,.int .i64 0,.int .i64 0,.int .i64 0,.int .i64 1,.int .i64 2,.int .i64 1,.int .i64 0,.int .i64 2,.int .i64 2,.int .i64 1,.int .i64 0,.int .i64 2,.int .i64 1,.int .i64 0,.int .i64 2,.int .i64 1,.int .i64 0,.int .i64 2,.int .i64 1,.int .i64 0,.int .i64 2,.int .i64 1,.int .i64 0,.int .i64 0,.int .i64 0,.int .i64 3,.int .i64 1,.int .i64 0,.int .i64 3,.int .i64 0,.int .i64 1,.int .i64 4,.int .i64 1,.int .i64 0,.int .i64 0,.int .i64 0,.int .i64 1,.int .i64 4,.int .i64 2,.int .i64 1,.int .i64 0,.int .i64 1,.int .i64 1,.int .i64 0,.int .i64 1,.int .i64 0,.int .i64 0] t frozen | o=>o }:World)).forCall (fun _ _=>0) ⟨#[],#[.slice none 0 0,.agg #[.slice none 0 0,.int .i64 0,.slice none 0 0],.int .i64 0],[]⟩).memory :=
  laidMet_of_run' 8 (by kernel_rfl) (by kernel_rfl)
theorem restStates_reads (os:Os) {H:Type} (enc:TypeId × Value→H):∃ places,DataW.whole enc Tryz.prog ((({ World.holding Tryz.prog os ⟨#[],#[],[]⟩ with heap:=(World.holding Tryz.prog os ⟨#[],#[],[]⟩).heap.modify 0 fun | .cells _ t frozen=>.cells #[.int .i64 0,.int .i64 1,.int .i64 1,.int .i64 1,.int .i64 0,.int .i64 0,.int .i64 0,.int .i64 1,.int .i64 2,.int .i64 1,.int .i64 0,.int .i64 2,.int .i64 2,.int .i64 1,.int .i64 0,.int .i64 2,.int .i64 1,.int .i64 0,.int .i64 2,.int .i64 1,.int .i64 0,.int .i64 2,.int .i64 1,.int .i64 0,.int .i64 2,.int .i64 1,.int .i64 0,.int .i64 0,.int .i64 0,.int .i64 3,.int .i64 1,.int .i64 0,.int .i64 3,.int .i64 0,.int .i64 1,.int .i64 4,.int .i64 1,.int .i64 0,.int .i64 0,.int .i64 0,.int .i64 1,.int .i64 4,.int .i64 2,.int .i64 1,.int .i64 0,.int .i64 1,.int .i64 1,.int .i64 0,.int .i64 1,.int .i64 0,.int .i64 0] t frozen | o=>o }:World)).forCall (fun _ _=>0) ⟨#[],#[.slice none 0 0,.agg #[.slice none 0 0,.int .i64 0,.slice none 0 0],.int .i64 0],[]⟩).memory Tryz.f4.params.toList Rows.restStatesSpec.vars false (#[.slice none 0 0,.agg #[.slice none 0 0,.int .i64 0,.slice none 0 0],.int .i64 0]:Array Value).toList 8=some ([.nil,.agg [.nil,.lit (.int .i64 0),.nil],.lit (.int .i64 0)],[],places) :=
  ⟨[],by kernel_rfl⟩

theorem restStates_lifted (os:Os) (started:os.Started) (H:Type) (enc:TypeId × Value→H) (F:Stop.Interp) :
    ReturnsInHanded {} Tryz.checked os 4 .any ((OpenSpec.ofChange Rows.restStatesSpec).preRow enc Tryz.prog Tryz.f4 Rows.restStatesRow.domain false Rows.restStatesRow.laid) (((OpenSpec.ofChange Rows.restStatesSpec).at F).post enc Tryz.prog Tryz.f4 false true false false):=by
  obtain ⟨places,hx⟩:=restStates_reads os enc
  refine returnsInHanded_of_row (C:=Tryz.checked) (s:=OpenSpec.ofChange Rows.restStatesSpec) own started (by kernel_rfl) Tryz.func4
    (witness_row_at (enc:=enc) (C:=Tryz.checked) false ({ World.holding Tryz.prog os ⟨#[],#[],[]⟩ with heap:=(World.holding Tryz.prog os ⟨#[],#[],[]⟩).heap.modify 0 fun | .cells _ t frozen=>.cells #[.int .i64 0,.int .i64 1,.int .i64 1,.int .i64 1,.int .i64 0,.int .i64 0,.int .i64 0,.int .i64 1,.int .i64 2,.int .i64 1,.int .i64 0,.int .i64 2,.int .i64 2,.int .i64 1,.int .i64 0,.int .i64 2,.int .i64 1,.int .i64 0,.int .i64 2,.int .i64 1,.int .i64 0,.int .i64 2,.int .i64 1,.int .i64 0,.int .i64 2,.int .i64 1,.int .i64 0,.int .i64 0,.int .i64 0,.int .i64 3,.int .i64 1,.int .i64 0,.int .i64 3,.int .i64 0,.int .i64 1,.int .i64 4,.int .i64 1,.int .i64 0,.int .i64 0,.int .i64 0,.int .i64 1,.int .i64 4,.int .i64 2,.int .i64 1,.int .i64 0,.int .i64 1,.int .i64 1,.int .i64 0,.int .i64 1,.int .i64 0,.int .i64 0] t frozen | o=>o }:World) #[.slice none 0 0,.agg #[.slice none 0 0,.int .i64 0,.slice none 0 0],.int .i64 0] rfl (by kernel_rfl) (by kernel_rfl) (by kernel_rfl)
      (OpenSpec.preRow_of_cond 8 hx (by kernel_rfl) (fun k hk=>by cases hk) (by kernel_rfl) (restStates_laid_met os))) ?_
  intro W base args ds gs before hval hW _ _ hsz hL _ _
  exact restStates_contract H enc W base args ds gs before hval hW hsz hL

theorem restStates_said:Rows.RestStatesSaid :=
  OpenClaim.holds_of_cond 4 Tryz.f4 rfl rfl rfl rfl rfl rfl rfl ⟨rfl,rfl,rfl,rfl,rfl⟩ rfl rfl rfl rfl rfl (by kernel_rfl) Tryz.func4 (by kernel_rfl)
    (of_decide_eq_true (by kernel_rfl)) (by unfold Func.isWrapper; first | (rw [if_pos (by decide +kernel)]; kernel_rfl) | (rw [if_neg (by decide +kernel)]; exact ⟨rfl,rfl⟩))
    (fun os started H enc _ F=>by rw [OpenClaim.pre_eq_preRow]; exact restStates_lifted os started H enc F)

theorem restStates_plain (f : FuncId) (fn : Func) (hf : Tryz.pinned.checked.prog.funcNamed "glebe/glebelaw.RestStates" = some f) (hfn : Tryz.pinned.checked.prog.funcs[f]? = some fn) :
    true=Tryz.pinned.checked.prog.looks []∧∀ (j:Nat) t,fn.params[j]?=some t→Tryz.pinned.checked.prog.wantsStandIn t=false:=by
  obtain rfl : f = 4 := Option.some.inj ((show Tryz.prog.funcNamed "glebe/glebelaw.RestStates" = some 4 by kernel_rfl).symm.trans hf) |>.symm
  obtain rfl:fn=Tryz.f4:=(Option.some.inj (Tryz.func4.symm.trans hfn)).symm
  refine ⟨by kernel_rfl,fun j t ht=>?_⟩
  rw [Tryz.params4] at ht
  have hm:=Array.mem_of_getElem? ht
  simp only [List.mem_toArray,List.mem_cons,List.not_mem_nil,or_false] at hm
  rcases hm with rfl | rfl | rfl
  · exact (show Tryz.prog.wantsStandIn 22=false by kernel_rfl)
  · exact (show Tryz.prog.wantsStandIn 26=false by kernel_rfl)
  · exact (show Tryz.prog.wantsStandIn 3=false by kernel_rfl)

theorem restStates_card:Rows.RestStatesCardSaid :=
  Claim7.holds_tied_plain_at .later [] _ _ _ _ restStates_said (fun _ h=>by cases h) (by kernel_rfl) (fun _ h=>by cases h) restStates_row_tie rfl ⟨rfl,rfl⟩ (by kernel_rfl) rfl restStates_plain (by kernel_rfl)
end Go.Proofs.YtblihfpigjiahaaGreatDoor

