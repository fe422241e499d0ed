/-
  Proved: whatever program and state it is handed, the statement StepSure (A1, C1, G1: an op that stays in its frame can be done, and turns its stack by what it takes and leaves; the frame goes on to an op that may come next) returns true, and its arguments read afterwards as they read before. Conditions: the variable op.kinds starts as the program's text lays it (the card ties it); nothing else beyond the form's own.
-/
import Derived.Test.YtadckjclgakcaaaGreatDoorCards
import Derived.Test.YtadckjclgakcaaaGreatDoorTie
import Derived.Test.YtadckjclgakcaaaGreatDoorXB48
import Derived.Test.YtadckjclgakcaaaGreatDoorStepSureW
import Derived.Test.YtadckjclgakcaaaGreatDoorNextA
import Derived.Test.YtadckjclgakcaaaGreatDoorSBG
import Derived.Deep.DeepHandedRow
set_option maxRecDepth 100000
set_option maxHeartbeats 8000000
namespace Go.Proofs.YtadckjclgakcaaaGreatDoor
open Go.RowKit Go.ChangeShapes Go.WideShapes Go.ChangeAt

theorem stepSure_walk (p:List Fn) (vp:Value) (s:St) (vs:Value) (w:World) (hp:ProgAt w vp p) (hs:StAt w vs s) (hk:KindsAt w) :
    Calls Tryz.prog 6 #[vp,vs] w fun e w'=>e=.returned (.bool true)∧Kept w w':=by
  obtain ⟨oa,n,cap,nn,oo,M,co,rfl⟩:=stAt_shape hs
  obtain ⟨d1,d2,d3⟩:=stAt_parts hs
  have HC1:Hid (∀ u,Kept w u→Calls Tryz.prog 13 #[vp,.agg #[.slice oa n cap,.int .i64 nn,.slice oo M co]] u fun e w'=>e=.returned (.int .i64 (stErrS p s))∧Kept u w'):=hide fun u hu=>stCheck_any p s _ _ u (hp.kept hu) (hs.kept hu) (hk.kept hu)
  have HRB:Hid (∀ u,Kept w u→Calls Tryz.prog 11 #[] u fun e w'=>e=.returned (.bool true)∧Kept u w'):=hide fun u hu=>stepBegun_any u (hk.kept hu)
  by_cases hoff:stErrS p s≠0∨nn < 0
  · exact stepSure_off vp w _ oa oo n M cap co nn hoff HC1 HRB
  have h0:stErrS p s=0:=Decidable.byContradiction fun h=>hoff (.inl h)
  have hn:0≤s.now:=by rw [← d1]; exact Int.not_lt.1 fun h=>hoff (.inr h)
  obtain ⟨l,_,hg⟩:=right_good h0
  obtain ⟨i,fs,t,c,kd,a,ta,lb,hr⟩:=hg.runner hn
  have hnow:=hr.op.now
  have hlt:=hr.op.tops.lt
  have hst:=hr.stack
  have hhas:=hr.has
  obtain ⟨l0,l1⟩:=hr.leaves
  obtain ⟨⟨f0,f1⟩,_,⟨a0,a1⟩,_⟩:=frame_parts hr.frs.2.1
  obtain ⟨f,hf⟩:=Int.eq_ofNat_of_zero_le f0
  obtain ⟨k,hk'⟩:=Int.eq_ofNat_of_zero_le a0
  have hfl:f < p.length:=by omega
  obtain ⟨g,hgf⟩:∃ g,p[f]?=some g:=⟨_,List.getElem?_eq_getElem hfl⟩
  have hcode:codeOf p f=g.code:=by unfold codeOf; rw [List.getD_eq_getElem?_getD,hgf]; rfl
  have hop:=hr.op.op
  rw [hf,hk',Int.toNat_natCast,Int.toNat_natCast,hcode] at hop
  rw [hf,hk',Int.toNat_natCast,hcode] at a1
  have hck:g.code[k]?=some (kd,a):=by rw [← hop]; exact getD_of_lt _ _ _ (by omega)
  have heff:=hr.eff
  obtain ⟨k0,k17⟩:=hr.kind
  have hle8:(t.stack.length:Int)≤8:=by
    have:=right_frame h0 hlt (j:=fs.length) (by rw [hr.op.tops.eq]; simp)
    have hq:frAt s i fs.length=t:=by unfold frAt; rw [hr.op.tops.eq]; simp
    rw [hq] at this
    omega
  have hone:stpS p s=doneS p s:=by unfold stpS oneS; rw [if_pos h0,if_neg (by omega)]
  obtain ⟨t',j,hstay⟩:∃ (t':Fr) (j:Nat),kd≤10→doneS p s=(setFib s i ⟨fs++[t'],c⟩,0)∧t'.fn=t.fn∧t'.locals.length=t.locals.length∧(t'.stack.length:Int)=t.stack.length - ta + lb∧j∈nexts (kd,a) t.at_.toNat∧t'.at_=(j:Int):=by
    by_cases h10:kd≤10
    · obtain ⟨t',j,h⟩:=done_stay hr.op k0 h10 hr.eff (by omega) hr.at0 hr.goes
      exact ⟨t',j,fun _=>h⟩
    · exact ⟨t,0,fun h=>absurd h h10⟩
  obtain rfl:nn=(i:Int):=by rw [d1,hnow]
  obtain ⟨oq,cp,rfl,_,_⟩:=id hp
  rw [h0] at HC1
  by_cases h10:kd≤10
  · obtain ⟨s1,s2,_,s4,s5,s6⟩:=hstay h10
    refine stepSure_go p oq _ cp w s (stpS p s).1 i fs.length f k fs t t' c g kd a ta lb j oa oo n M cap co (stpS p s).2 (hide hp) (hide hs) HC1 (hide fun u hu=>stepDo_gives p s _ _ u (hp.kept hu) (hs.kept hu) (hk.kept hu)) (hide fun u hu=>by have:=effect_any p _ kd a u (hp.kept hu) (hk.kept hu); rwa [heff] at this)
      (hide fun _ u=>?_) HRB hlt hg.n5 hr.op.tops.eq rfl (by have:=hr.few; omega) hf hk' hgf hck (by omega) (fun _=>?_)
    · refine (next_any (kd,a) k u (fun h=>hr.goes h) (by have:=(room_of hg.prog hfl).2.2.2; rw [hcode] at this; omega)).mono ?_
      rintro e w' ⟨v,rfl,⟨ov,cv,rfl,_,hc⟩,hkk⟩
      rw [hk',Int.toNat_natCast] at s5
      obtain ⟨z,hz⟩:=List.getElem?_of_mem s5
      have hz':(nextI (kd,a) k)[z]?=some (j:Int):=by unfold nextI; rw [List.getElem?_map,hz]; rfl
      refine ⟨ov,_,cv,rfl,?_,⟨z,(List.getElem?_eq_some_iff.1 hz').1,fun y hy=>?_⟩,fun z hz=>?_,hkk⟩
      · unfold nextI nexts
        simp only [List.length_map]
        split
        · simp
        · split
          · simp
          · split <;> simp
      · obtain ⟨b,o,e,h⟩:=hc z _ hz'
        exact ⟨b,o,e,hy.cell h⟩
      · obtain ⟨b,o,e,h⟩:=hc z _ (List.getElem?_eq_getElem hz)
        exact ⟨b,o,_,e,h⟩
    · rw [hone,s1]
      refine ⟨rfl,rfl,setFib_len _ _ _,rfl,fibAt_same _ hlt,by rw [s2,hf],s6,s4,l0,by omega,l1,?_⟩
      have:=(hr.plain (by omega)).2
      rw [this]
      exact (tk_lv kd.toNat (by omega)).2.2.2
  · exact stepSure_go p oq _ cp w s (stpS p s).1 i fs.length f k fs t t' c g kd a ta lb 0 oa oo n M cap co (stpS p s).2 (hide hp) (hide hs) HC1 (hide fun u hu=>stepDo_gives p s _ _ u (hp.kept hu) (hs.kept hu) (hk.kept hu)) (hide fun u hu=>by have:=effect_any p _ kd a u (hp.kept hu) (hk.kept hu); rwa [heff] at this)
      (hide fun h=>absurd h h10) HRB hlt hg.n5 hr.op.tops.eq rfl (by have:=hr.few; omega) hf hk' hgf hck (by omega) (fun h=>absurd h h10)

theorem stepSure_contract (H:Type) (enc:TypeId × Value→H) (W:World) (base:Nat) (args:Array Value) (ds gs:List (DataW H)) (before:List MemPlace)
    (hval:∀ (j:Nat) t v,Tryz.f6.params[j]?=some t→args[j]?=some v→Value.okWide Tryz.prog W .any base t v)
    (hW:DataW.Whole enc Tryz.prog Tryz.f6.params.toList Rows.stepSureSpec.vars false W args.toList ds gs before)
    (hsz:(DataW.weightsEach Tryz.prog (Tryz.f6.params.toList++(OpenSpec.ofChange Rows.stepSureSpec).bare.plain.varTypes Tryz.prog) (ds++gs)).all (·≤reachBytes)=true)
    (hL:laidMetH Tryz.prog Rows.stepSureRow.laid W) :
    Calls Tryz.prog 6 args W fun e W'=>∃ v,e=.returned v∧Rows.stepSureSpec.post enc Tryz.prog Tryz.f6 false true false false W args v W':=by
  have hW':=hW
  obtain ⟨p,q,hA0,hV,rfl,hfz,hnd⟩:=hW
  have hA:DataW.TrodAll enc Tryz.prog W 0 (fun _=>true) true Tryz.f6.params.toList args.toList ds p:=hA0
  have hlt:∀ x∈p,x.block < W.heap.size:=fun x hx=>by simpa using hW'.lt x (by simp [hx])
  have hA1:=hA
  rw [Tryz.params6] at hA hval hsz
  obtain ⟨v0,vs0,d0,ds0,p0,q0,hargs,rfl,rfl,h0,r0⟩:=trodAll_cons hA
  obtain ⟨v1,vs1,d1,ds1,p1,q1,rfl,rfl,rfl,h1,r1⟩:=trodAll_cons r0
  obtain ⟨rfl,rfl,rfl⟩:=trodAll_nil r1
  obtain rfl:args=#[v0,v1]:=by cases args; simp_all
  obtain ⟨rfl,rfl⟩:=trodVars_none hV
  obtain ⟨pl0,hpl0⟩:∃ pl,ProgAt W v0 pl:=by
    obtain ⟨oa,len,cap,rfl⟩:=okWide_slice Tryz.underlying22 (hval 0 22 v0 rfl rfl)
    obtain ⟨fuel,hf⟩:=h0
    exact open_prog hf (fun n hn=>of_decide_eq_true (List.all_eq_true.1 hsz n (DataW.weights_mem_each (j:=0) rfl rfl n hn)))
  obtain ⟨st1,hst1⟩:∃ st,StAt W v1 st:=by
    obtain ⟨fuel,hf⟩:=h1
    obtain ⟨cs,rfl,hc⟩:=okWide_struct Tryz.underlying26 (hval 1 26 v1 rfl rfl)
    have:=open_state hf (fun n hn=>of_decide_eq_true (List.all_eq_true.1 hsz n (DataW.weights_mem_each (j:=1) rfl rfl n hn)))
    cases cs
    simpa [Value.cells] using this
  refine (stepSure_walk pl0 v0 st1 v1 W hpl0 hst1 (kinds_of_laid hL)).mono fun e W' ⟨he,hg⟩=>?_
  subst he
  refine ⟨_,rfl,_,_,_,[],_,[],hW',trodAll_mk1 (shut_bool Tryz.underlying4 _),trodAll_below hg ?_ hA1 hlt,rfl,hg.frame _,fun h=>by cases h⟩
  intro t ht
  rw [Tryz.params6] at ht
  simp only [List.mem_cons,List.not_mem_nil,or_false] at ht
  rcases ht with rfl | rfl
  · exact ⟨by kernel_rfl,of_decide_eq_true (by kernel_rfl)⟩
  · exact ⟨by kernel_rfl,of_decide_eq_true (by kernel_rfl)⟩

theorem stepSure_laid_met (os:Os):laidMet Tryz.prog Rows.stepSureRow.laid ((({ World.holding Tryz.prog os ⟨#[],#[],[]⟩ with heap:=(World.holding Tryz.prog os ⟨#[],#[],[]⟩).heap.modify 0 fun | .cells _ t frozen=>.cells #[.int .i64 0,.int .i64 1,.int .i64 1,.int .i64 1,.int .i64 0,.int .i64 0,.int .i64 0,.int .i64 1,.int .i64 2,.int .i64 1,.int .i64 0,.int .i64 2,.int .i64 2,.int .i64 1,.int .i64 0,.int .i64 2,.int .i64 1,.int .i64 0,.int .i64 2,.int .i64 1,.int .i64 0,.int .i64 2,.int .i64 1,.int .i64 0,.int .i64 2,.int .i64 1,.int .i64 0,.int .i64 0,.int .i64 0,.int .i64 3,.int .i64 1,.int .i64 0,.int .i64 3,.int .i64 0,.int .i64 1,.int .i64 4,.int .i64 1,.int .i64 0,.int .i64 0,.int .i64 0,.int .i64 1,.int .i64 4,.int .i64 2,.int .i64 1,.int .i64 0,.int .i64 1,.int .i64 1,.int .i64 0,.int .i64 1,.int .i64 0,.int .i64 0] t frozen | o=>o }:World)).forCall (fun _ _=>0) ⟨#[],#[.slice none 0 0,.agg #[.slice none 0 0,.int .i64 0,.slice none 0 0]],[]⟩).memory :=
  laidMet_of_run' 8 (by kernel_rfl) (by kernel_rfl)
theorem stepSure_reads (os:Os) {H:Type} (enc:TypeId × Value→H):∃ places,DataW.whole enc Tryz.prog ((({ World.holding Tryz.prog os ⟨#[],#[],[]⟩ with heap:=(World.holding Tryz.prog os ⟨#[],#[],[]⟩).heap.modify 0 fun | .cells _ t frozen=>.cells #[.int .i64 0,.int .i64 1,.int .i64 1,.int .i64 1,.int .i64 0,.int .i64 0,.int .i64 0,.int .i64 1,.int .i64 2,.int .i64 1,.int .i64 0,.int .i64 2,.int .i64 2,.int .i64 1,.int .i64 0,.int .i64 2,.int .i64 1,.int .i64 0,.int .i64 2,.int .i64 1,.int .i64 0,.int .i64 2,.int .i64 1,.int .i64 0,.int .i64 2,.int .i64 1,.int .i64 0,.int .i64 0,.int .i64 0,.int .i64 3,.int .i64 1,.int .i64 0,.int .i64 3,.int .i64 0,.int .i64 1,.int .i64 4,.int .i64 1,.int .i64 0,.int .i64 0,.int .i64 0,.int .i64 1,.int .i64 4,.int .i64 2,.int .i64 1,.int .i64 0,.int .i64 1,.int .i64 1,.int .i64 0,.int .i64 1,.int .i64 0,.int .i64 0] t frozen | o=>o }:World)).forCall (fun _ _=>0) ⟨#[],#[.slice none 0 0,.agg #[.slice none 0 0,.int .i64 0,.slice none 0 0]],[]⟩).memory Tryz.f6.params.toList Rows.stepSureSpec.vars false (#[.slice none 0 0,.agg #[.slice none 0 0,.int .i64 0,.slice none 0 0]]:Array Value).toList 8=some ([.nil,.agg [.nil,.lit (.int .i64 0),.nil]],[],places) :=
  ⟨[],by kernel_rfl⟩

theorem stepSure_lifted (os:Os) (started:os.Started) (H:Type) (enc:TypeId × Value→H) (F:Stop.Interp) :
    ReturnsInHanded {} Tryz.checked os 6 .any ((OpenSpec.ofChange Rows.stepSureSpec).preRow enc Tryz.prog Tryz.f6 Rows.stepSureRow.domain false Rows.stepSureRow.laid) (((OpenSpec.ofChange Rows.stepSureSpec).at F).post enc Tryz.prog Tryz.f6 false true false false):=by
  obtain ⟨places,hx⟩:=stepSure_reads os enc
  refine returnsInHanded_of_row (C:=Tryz.checked) (s:=OpenSpec.ofChange Rows.stepSureSpec) own started (by kernel_rfl) Tryz.func6
    (witness_row_at (enc:=enc) (C:=Tryz.checked) false ({ World.holding Tryz.prog os ⟨#[],#[],[]⟩ with heap:=(World.holding Tryz.prog os ⟨#[],#[],[]⟩).heap.modify 0 fun | .cells _ t frozen=>.cells #[.int .i64 0,.int .i64 1,.int .i64 1,.int .i64 1,.int .i64 0,.int .i64 0,.int .i64 0,.int .i64 1,.int .i64 2,.int .i64 1,.int .i64 0,.int .i64 2,.int .i64 2,.int .i64 1,.int .i64 0,.int .i64 2,.int .i64 1,.int .i64 0,.int .i64 2,.int .i64 1,.int .i64 0,.int .i64 2,.int .i64 1,.int .i64 0,.int .i64 2,.int .i64 1,.int .i64 0,.int .i64 0,.int .i64 0,.int .i64 3,.int .i64 1,.int .i64 0,.int .i64 3,.int .i64 0,.int .i64 1,.int .i64 4,.int .i64 1,.int .i64 0,.int .i64 0,.int .i64 0,.int .i64 1,.int .i64 4,.int .i64 2,.int .i64 1,.int .i64 0,.int .i64 1,.int .i64 1,.int .i64 0,.int .i64 1,.int .i64 0,.int .i64 0] t frozen | o=>o }:World) #[.slice none 0 0,.agg #[.slice none 0 0,.int .i64 0,.slice none 0 0]] rfl (by kernel_rfl) (by kernel_rfl) (by kernel_rfl)
      (OpenSpec.preRow_of_cond 8 hx (by kernel_rfl) (fun k hk=>by cases hk) (by kernel_rfl) (stepSure_laid_met os))) ?_
  intro W base args ds gs before hval hW _ _ hsz hL _ _
  exact stepSure_contract H enc W base args ds gs before hval hW hsz hL

theorem stepSure_said:Rows.StepSureSaid :=
  OpenClaim.holds_of_cond 6 Tryz.f6 rfl rfl rfl rfl rfl rfl rfl ⟨rfl,rfl,rfl,rfl,rfl⟩ rfl rfl rfl rfl rfl (by kernel_rfl) Tryz.func6 (by kernel_rfl)
    (of_decide_eq_true (by kernel_rfl)) (by unfold Func.isWrapper; first | (rw [if_pos (by decide +kernel)]; kernel_rfl) | (rw [if_neg (by decide +kernel)]; exact ⟨rfl,rfl⟩))
    (fun os started H enc _ F=>by rw [OpenClaim.pre_eq_preRow]; exact stepSure_lifted os started H enc F)

theorem stepSure_plain (f : FuncId) (fn : Func) (hf : Tryz.pinned.checked.prog.funcNamed "glebe/glebelaw.StepSure" = some f) (hfn : Tryz.pinned.checked.prog.funcs[f]? = some fn) :
    true=Tryz.pinned.checked.prog.looks []∧∀ (j:Nat) t,fn.params[j]?=some t→Tryz.pinned.checked.prog.wantsStandIn t=false:=by
  obtain rfl : f = 6 := Option.some.inj ((show Tryz.prog.funcNamed "glebe/glebelaw.StepSure" = some 6 by kernel_rfl).symm.trans hf) |>.symm
  obtain rfl:fn=Tryz.f6:=(Option.some.inj (Tryz.func6.symm.trans hfn)).symm
  refine ⟨by kernel_rfl,fun j t ht=>?_⟩
  rw [Tryz.params6] at ht
  have hm:=Array.mem_of_getElem? ht
  simp only [List.mem_toArray,List.mem_cons,List.not_mem_nil,or_false] at hm
  rcases hm with rfl | rfl
  · exact (show Tryz.prog.wantsStandIn 22=false by kernel_rfl)
  · exact (show Tryz.prog.wantsStandIn 26=false by kernel_rfl)

theorem stepSure_card:Rows.StepSureCardSaid :=
  Claim7.holds_tied_plain_at .later [] _ _ _ _ stepSure_said (fun _ h=>by cases h) (by kernel_rfl) (fun _ h=>by cases h) stepSure_row_tie rfl ⟨rfl,rfl⟩ (by kernel_rfl) rfl stepSure_plain (by kernel_rfl)
end Go.Proofs.YtadckjclgakcaaaGreatDoor
