/-
  Proved: whatever program, expression and values it is handed, the statement RestProgs (P2: what came, and was changed, changes nothing that was handed in, nor what comes next, of programs and what is made of them) returns true, and its arguments read afterwards as they read before. Conditions: the variables that the row lists start as the text of the program lays them (the card ties them); nothing else beyond the own ones of the form.
-/
import Derived.Test.YtjioipkfnekigaaGreatDoorCards
import Derived.Test.YtjioipkfnekigaaGreatDoorTie
import Derived.Test.YtjioipkfnekigaaGreatDoorPB01
import Derived.Test.YtjioipkfnekigaaGreatDoorPB13
import Derived.Test.YtjioipkfnekigaaGreatDoorPB18
import Derived.Test.YtjioipkfnekigaaGreatDoorPB19
import Derived.Test.YtjioipkfnekigaaGreatDoorPB20
import Derived.Test.YtjioipkfnekigaaGreatDoorPB21
import Derived.Test.YtjioipkfnekigaaGreatDoorPB23
import Derived.Test.YtjioipkfnekigaaGreatDoorPB25
import Derived.Test.YtjioipkfnekigaaGreatDoorPB29
import Derived.Lay
import Derived.Deep.DeepHandedRow
import Derived.Deep.DeepWitnessRowRef
set_option maxRecDepth 100000
set_option maxHeartbeats 8000000
namespace Go.Proofs.YtjioipkfnekigaaGreatDoor
open Go.RowKit Go.ChangeShapes Go.WideShapes Go.ChangeAt

theorem env_of_laidR {W:World} (h:laidMetH Tryz.prog Rows.restProgsRow.laid W) (hsh:W.ShapedOpen Tryz.prog):EnvT W∧FKinds W∧KindsAt W:=by
  have hM:laidMet Tryz.prog Rows.restProgsRow.laid W:=by rw [← MakeChecks.laidMetH_plain _ _ _ (by kernel_rfl)]; exact h
  refine ⟨⟨?_,⟨?_,?_⟩,?_,Tryz.laysM146.s1_3 W hsh⟩,?_⟩
  · exact Lib.tabIs_of_head (rest := []) (g := 4) (t := 156) (e := 146) (n := 20) (by kernel_rfl) (by kernel_rfl) (by kernel_rfl) (by kernel_rfl) (by kernel_rfl) (by kernel_rfl) (hM.filter (fun x => x.1 == "internal/strconv.uint64pow10"))
  · exact err_of_reads (g := 7) (ti := 52) (by kernel_rfl) (by kernel_rfl) Tryz.underlying52 (Lib.laidMet.reads hM (n := "strconv.ErrSyntax") (d := Rows.laid_strconv_ErrSyntax) (by simp [Rows.restProgsRow]))
  · exact err_of_reads (g := 8) (ti := 52) (by kernel_rfl) (by kernel_rfl) Tryz.underlying52 (Lib.laidMet.reads hM (n := "strconv.ErrRange") (d := Rows.laid_strconv_ErrRange) (by simp [Rows.restProgsRow]))
  · exact tk_of_reads (Lib.laidMet.reads hM (by simp [Rows.restProgsRow]))
  · exact forge_laid (h.filter (fun x => x.1 == "glebe/forge.kinds" || x.1 == "glebe/op.kinds"))
theorem restProgs_walk (p:List Fn) (vp:Value) (e:List (Int × Int)) (ve:Value) (vals:List Int) (vv:Value) (w:World) (hp:ProgAt w vp p) (he:NodesAt w ve e∧∀ x∈e,(Lit.int .i64 x.1).wf=true) (hv:IntsW w vv vals) (ht:EnvT w) (hf:FKinds w) (hk:KindsAt w) :
    Calls Tryz.prog 4 #[vp,ve,vv] w fun e w'=>e=.returned (.bool true)∧Kept w w':=by
  have HTB:=hide fun u (hu:Kept w u)=>trimBegun_any u (hk.kept hu)
  by_cases hz:progS p=0
  · have ho:=right_okT hz
    refine restProgs_w vp ve vv w p (pgS e vals).1 (pgS e vals).2 ⟨(showT p).toArray⟩ (hide hp) (hide fun u hu=>?_) (hide fun u hu=>?_) (hide fun u hu=>?_) (hide fun u hu=>?_) (hide fun u hu=>?_) (hide fun u hu=>?_) (hide fun u v1 v2 q h1 h2=>sameProgsF q v1 v2 u h1 h2) HTB (hide fun u=>?_)
    · have:=progError_any p vp u (hp.kept hu)
      rwa [hz] at this
    · exact ownProg_any p vp u (hp.kept hu) ho.len (fun f hf=>(ho.fn f hf).2.2.1)
    · have:=show_any u p _ (hp.kept hu) (ht.kept hu) (hk.kept hu)
      rwa [show showR p=(showT p,0) from if_pos hz] at this
    · exact (read_any u (showT p) (ht.kept hu) (hk.kept hu)).mono fun _ _ ⟨oa,n,cap,h1,_,h3,h4,b,m,hb,hr⟩=>by
        rw [read_show hz] at h1 h3 hr
        exact ⟨oa,n,cap,h1,h3,(hr.shape (show p.length≤100000 by have:=ho.len; omega)).low hb,h4⟩
    · exact (forgeOwn_is e vals ve vv u (he.1.kept hu) he.2 (hv.kept hu) (hf.keptP hu)).mono fun _ _ ⟨v',h1,h2,h3,h4⟩=>by
        obtain ⟨oa,n,cap,rfl,_⟩:=id h3
        exact ⟨oa,n,cap,h1,h2,h3,h4⟩
    · exact (refForgeProg_any e vals ve vv u (he.1.kept hu) (hv.kept hu)).mono fun _ _ ⟨v',h1,h2,h3⟩=>by
        obtain ⟨oa,cap,rfl,_⟩:=id h2
        exact ⟨oa,_,cap,h1,h2,h3⟩
    · exact (o_any _ _ u).mono fun _ _ ⟨h1,h2⟩=>⟨h1,h2 ▸ (Kept.refl u).alloc _⟩
  · exact restProgs_no vp ve vv w (progS p) hz (hide fun u hu=>progError_any p vp u (hp.kept hu)) HTB

theorem restProgs_contract (H:Type) (enc:TypeId × Value→H) (W:World) (base:Nat) (args:Array Value) (ds gs:List (DataW H)) (before:List MemPlace)
    (hval:∀ (j:Nat) t v,Tryz.f4.params[j]?=some t→args[j]?=some v→Value.okWide Tryz.prog W .any base t v)
    (hW:DataW.Whole enc Tryz.prog Tryz.f4.params.toList Rows.restProgsSpec.vars false W args.toList ds gs before)
    (hsz:(DataW.weightsEach Tryz.prog (Tryz.f4.params.toList++(OpenSpec.ofChange Rows.restProgsSpec).bare.plain.varTypes Tryz.prog) (ds++gs)).all (·≤reachBytes)=true)
    (hL:laidMetH Tryz.prog Rows.restProgsRow.laid W) (hsh:W.ShapedOpen Tryz.prog) :
    Calls Tryz.prog 4 args W fun e W'=>∃ v,e=.returned v∧Rows.restProgsSpec.post enc Tryz.prog Tryz.f4 false true false false W args v W':=by
  have hW':=hW
  obtain ⟨p,q,hA0,hV,rfl,hfz,hnd⟩:=hW
  have hA:DataW.TrodAll enc Tryz.prog W 0 (fun _=>true) true Tryz.f4.params.toList args.toList ds p:=hA0
  have hlt:∀ x∈p,x.block < W.heap.size:=fun x hx=>by simpa using hW'.lt x (by simp [hx])
  have hA1:=hA
  rw [Tryz.params4] at hA hval hsz
  obtain ⟨v0,vs0,d0,ds0,p0,q0,hargs,rfl,rfl,h0,r0⟩:=trodAll_cons hA
  obtain ⟨v1,vs1,d1,ds1,p1,q1,rfl,rfl,rfl,h1,r1⟩:=trodAll_cons r0
  obtain ⟨v2,vs2,d2,ds2,p2,q2,rfl,rfl,rfl,h2,r2⟩:=trodAll_cons r1
  obtain ⟨rfl,rfl,rfl⟩:=trodAll_nil r2
  obtain rfl:args=#[v0,v1,v2]:=by cases args; simp_all
  obtain ⟨rfl,rfl⟩:=trodVars_none hV
  obtain ⟨pl0,hpl0⟩:∃ pl,ProgAt W v0 pl:=by
    obtain ⟨oa,len,cap,rfl⟩:=okWide_slice Tryz.underlying22 (hval 0 22 v0 rfl rfl)
    obtain ⟨fuel,hf⟩:=h0
    exact open_prog hf (fun n hn=>of_decide_eq_true (List.all_eq_true.1 hsz n (DataW.weights_mem_each (j:=0) rfl rfl n hn)))
  obtain ⟨pl1,hpl1⟩:∃ pl,NodesAt W v1 pl∧∀ x∈pl,(Lit.int .i64 x.1).wf=true:=by
    obtain ⟨oa,len,cap,rfl⟩:=okWide_slice Tryz.underlying35 (hval 1 35 v1 rfl rfl)
    obtain ⟨fuel,hf⟩:=h1
    exact open_nodes hf (fun n hn=>of_decide_eq_true (List.all_eq_true.1 hsz n (DataW.weights_mem_each (j:=1) rfl rfl n hn)))
  obtain ⟨pl2,hpl2⟩:∃ pl,IntsW W v2 pl:=by
    obtain ⟨oa,len,cap,rfl⟩:=okWide_slice Tryz.underlying36 (hval 2 36 v2 rfl rfl)
    obtain ⟨fuel,hf⟩:=h2
    exact open_vals hf (fun n hn=>of_decide_eq_true (List.all_eq_true.1 hsz n (DataW.weights_mem_each (j:=2) rfl rfl n hn)))
  refine (restProgs_walk pl0 v0 pl1 v1 pl2 v2 W hpl0 hpl1 hpl2 (env_of_laidR hL hsh).1 (env_of_laidR hL hsh).2.1 (env_of_laidR hL hsh).2.2).mono fun e W' ⟨he,hg⟩=>?_
  subst he
  refine ⟨_,rfl,_,_,_,[],_,[],hW',trodAll_mk1 (shut_bool Tryz.underlying4 _),trodAll_below hg ?_ hA1 hlt,rfl,hg.frame _,fun h=>by cases h⟩
  intro t ht
  rw [Tryz.params4] at ht
  simp only [List.mem_cons,List.not_mem_nil,or_false] at ht
  rcases ht with rfl | rfl | rfl
  · exact ⟨by kernel_rfl,of_decide_eq_true (by kernel_rfl)⟩
  · exact ⟨by kernel_rfl,of_decide_eq_true (by kernel_rfl)⟩
  · exact ⟨by kernel_rfl,of_decide_eq_true (by kernel_rfl)⟩

theorem restProgs_laid_met (os:Os):laidMet Tryz.prog Rows.restProgsRow.laid (((World.laidAll Tryz.prog os Rows.restProgsRow.laid)).forCall (fun _ _=>0) ⟨#[],#[.slice none 0 0,.slice none 0 0,.slice none 0 0],[]⟩).memory :=
  laidMet_laidAll _ (by kernel_rfl) (by kernel_rfl)
theorem restProgs_reads (os:Os) {H:Type} (enc:TypeId × Value→H):∃ places,DataW.whole enc Tryz.prog (((World.laidAll Tryz.prog os Rows.restProgsRow.laid)).forCall (fun _ _=>0) ⟨#[],#[.slice none 0 0,.slice none 0 0,.slice none 0 0],[]⟩).memory Tryz.f4.params.toList Rows.restProgsSpec.vars false (#[.slice none 0 0,.slice none 0 0,.slice none 0 0]:Array Value).toList 8=some ([.nil,.nil,.nil],[],places) :=
  ⟨[],by kernel_rfl⟩

theorem restProgs_lifted (os:Os) (started:os.Started) (H:Type) (enc:TypeId × Value→H) (F:Stop.Interp) :
    ReturnsInHanded {} Tryz.checked os 4 .any ((OpenSpec.ofChange Rows.restProgsSpec).preRow enc Tryz.prog Tryz.f4 Rows.restProgsRow.domain false Rows.restProgsRow.laid) (((OpenSpec.ofChange Rows.restProgsSpec).at F).post enc Tryz.prog Tryz.f4 false true false false):=by
  obtain ⟨places,hx⟩:=restProgs_reads os enc
  refine returnsInHanded_of_row (C:=Tryz.checked) (s:=OpenSpec.ofChange Rows.restProgsSpec) own started (by kernel_rfl) Tryz.func4
    (witness_row_atRef (enc:=enc) (C:=Tryz.checked) false (World.laidAll Tryz.prog os Rows.restProgsRow.laid) #[.slice none 0 0,.slice none 0 0,.slice none 0 0] (World.laidAll_os _ _ _) (by kernel_rfl) (by kernel_rfl) (by kernel_rfl)
      (OpenSpec.preRow_of_cond 8 hx (by kernel_rfl) (fun k hk=>by cases hk) (by kernel_rfl) (by rw [MakeChecks.laidMetH_plain _ _ _ (by kernel_rfl)]; exact restProgs_laid_met os))) ?_
  intro W base args ds gs before hval hW _ _ hsz hL hsh _
  exact restProgs_contract H enc W base args ds gs before hval hW hsz hL hsh

theorem restProgs_said:Rows.RestProgsSaid :=
  OpenClaim.holds_of_cond 4 Tryz.f4 rfl rfl rfl rfl rfl rfl rfl ⟨rfl,rfl,rfl,rfl,rfl⟩ rfl rfl rfl rfl rfl (by kernel_rfl) Tryz.func4 (by kernel_rfl)
    (of_decide_eq_true (by kernel_rfl)) (by unfold Func.isWrapper; first | (rw [if_pos (by decide +kernel)]; kernel_rfl) | (rw [if_neg (by decide +kernel)]; exact ⟨rfl,rfl⟩))
    (fun os started H enc _ F=>by rw [OpenClaim.pre_eq_preRow]; exact restProgs_lifted os started H enc F)

theorem restProgs_plain (f : FuncId) (fn : Func) (hf : Tryz.pinned.checked.prog.funcNamed "glebe/glebelaw.RestProgs" = some f) (hfn : Tryz.pinned.checked.prog.funcs[f]? = some fn) :
    true=Tryz.pinned.checked.prog.looks []∧∀ (j:Nat) t,fn.params[j]?=some t→Tryz.pinned.checked.prog.wantsStandIn t=false:=by
  obtain rfl : f = 4 := Option.some.inj ((show Tryz.prog.funcNamed "glebe/glebelaw.RestProgs" = some 4 by kernel_rfl).symm.trans hf) |>.symm
  obtain rfl:fn=Tryz.f4:=(Option.some.inj (Tryz.func4.symm.trans hfn)).symm
  refine ⟨by kernel_rfl,fun j t ht=>?_⟩
  rw [Tryz.params4] at ht
  have hm:=Array.mem_of_getElem? ht
  simp only [List.mem_toArray,List.mem_cons,List.not_mem_nil,or_false] at hm
  rcases hm with rfl | rfl | rfl
  · exact (show Tryz.prog.wantsStandIn 22=false by kernel_rfl)
  · exact (show Tryz.prog.wantsStandIn 35=false by kernel_rfl)
  · exact (show Tryz.prog.wantsStandIn 36=false by kernel_rfl)

theorem restProgs_card:Rows.RestProgsCardSaid :=
  Claim7.holds_tied_plain_at .later [] _ _ _ _ restProgs_said (fun _ h=>by cases h) (by kernel_rfl) (fun _ h=>by cases h) restProgs_row_tie rfl ⟨rfl,rfl⟩ (by kernel_rfl) rfl restProgs_plain (by kernel_rfl)
end Go.Proofs.YtjioipkfnekigaaGreatDoor

