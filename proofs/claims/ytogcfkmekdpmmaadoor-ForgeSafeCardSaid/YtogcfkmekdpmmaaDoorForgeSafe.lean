/-
  Proved: whatever expression and values it is handed, the statement ForgeSafe (C1, K1: what is forged is a right program, of which each function has heights, and one comes to all of its ops) returns true, and its arguments read afterwards as they read before. Conditions: the variables forge.kinds and op.kinds start as the text of the program lays them (the card ties them); nothing else beyond the own ones of the form.
-/
import Derived.Test.YtogcfkmekdpmmaaDoorCards
import Derived.Test.YtogcfkmekdpmmaaDoorTie
import Derived.Test.YtogcfkmekdpmmaaDoorFGJ
import Derived.Test.YtogcfkmekdpmmaaDoorForgeSafeW
import Derived.Test.YtogcfkmekdpmmaaDoorFB25
import Derived.Test.YtogcfkmekdpmmaaDoorFB11
import Derived.Deep.DeepHandedRow
set_option maxRecDepth 100000
set_option maxHeartbeats 8000000
namespace Go.Proofs.YtogcfkmekdpmmaaDoor
open Go.RowKit Go.ChangeShapes Go.WideShapes Go.ChangeAt

theorem hgS_ge:∀ (n:Nat) (e:List (Int × Int)) (z:Int),∀ x∈(hgS n e z).1,z≤x
  | 0,_,_=>by simp [hgS]
  | _ + 1,[],_=>by simp [hgS]
  | n + 1,y :: r,z=>by
    unfold hgS
    split
    · simp
    split
    · simp
    split
    · intro x hx
      simp only [List.mem_append,List.mem_cons] at hx
      rcases hx with h | h | h | h | h
      · exact hgS_ge n _ z x h
      · omega
      · exact hgS_ge n _ z x h
      · omega
      · exact hgS_ge n _ z x h
    · intro x hx
      simp only [List.mem_append,List.mem_cons,List.not_mem_nil,or_false] at hx
      rcases hx with h | h | h
      · exact hgS_ge n _ z x h
      · have:=hgS_ge n _ (z + 1) x h; omega
      · omega
theorem getD_ge {l:List Int} (h:∀ x∈l,0≤x) (j:Nat):0≤l.getD j 0:=by
  rw [List.getD_eq_getElem?_getD]
  cases hj:l[j]? with
  | none=>simp
  | some x=>exact h x (List.mem_of_getElem? hj)
theorem getD_last (l:List Int) (x:Int):(l++[x]).getD ((l++[x]).length - 1) 0=x:=by simp [List.getD_eq_getElem?_getD]
theorem forgeSafe_walk (e:List (Int × Int)) (v0:Value) (vals:List Int) (v1:Value) (w:World) (he:NodesAt w v0 e∧∀ x∈e,(Lit.int .i64 x.1).wf=true) (hv:IntsW w v1 vals) (hk:FKinds w∧KindsAt w) :
    Calls Tryd.prog 6 #[v0,v1] w fun e w'=>e=.returned (.bool true)∧Kept w w':=by
  have hlen:(pgS e vals).2=0→∀ f,f < 2→0 < (if f=0 then mainH vals.length else fnH e).length∧(if f=0 then mainH vals.length else fnH e).length≤100∧(if f=0 then mainH vals.length else fnH e).getD ((if f=0 then mainH vals.length else fnH e).length - 1) 0=1∧∀ j,0≤(if f=0 then mainH vals.length else fnH e).getD j 0:=by
    intro h0 f hf
    obtain ⟨g,o,_,_⟩:=pg_ok h0
    have h4:=g.hi
    split
    · unfold mainH
      refine ⟨by simp,by simp; omega,getD_last _ 1,getD_ge fun x hx=>?_⟩
      simp only [List.mem_append,List.mem_map,List.mem_range,List.mem_singleton] at hx
      rcases hx with ⟨k,_,rfl⟩ | rfl <;> omega
    · unfold fnH
      have hm:=g.most
      obtain ⟨a1,_,_⟩:=lay_hg 9 e 0 0 []
      refine ⟨by simp,by simp; omega,getD_last _ 1,getD_ge fun x hx=>?_⟩
      simp only [List.mem_append,List.mem_singleton] at hx
      rcases hx with h | rfl
      · exact hgS_ge 9 e 0 x h
      · omega
  refine forgeSafe_w v0 v1 w (pgS e vals).1 (pgS e vals).2 (fun f=>if f=0 then mainH vals.length else fnH e) (hide fun u hu=>forgeProg_is e vals v0 v1 u (he.1.kept hu) he.2 (hv.kept hu) (hk.1.kept hu)) (hide fun u hu=>forgeBegun_any u (hk.1.kept hu) (hk.2.kept hu)) (hide fun h0 u v hu hp=>?_) (hide fun h0 f hf u v hu hp=>?_) (fun h0=>?_) hlen
  · obtain ⟨g,o,_,hq⟩:=pg_ok h0
    rw [hq] at hp
    have:=progCheck_any _ v u hp (hk.2.kept hu)
    rw [(forge_right g o).1] at this
    exact this
  · have hl:=hlen h0 f hf
    obtain ⟨g,o,_,hq⟩:=pg_ok h0
    rw [hq] at hp
    obtain ⟨r0,r1,r2⟩:=forge_right g o
    have hck:=(progS_right r0).2.2 f (by simp [forgeP]; omega)
    have hg:hgtS (forgeP e vals) f=(if f=0 then mainH vals.length else fnH e,0):=by
      unfold hgtS
      rw [if_pos hck,Int.toNat_natCast]
      have h2:heightsS (forgeP e vals) ((forgeP e vals).getD f Fn.zero).code=some (if f=0 then mainH vals.length else fnH e):=by
        have:f=0∨f=1:=by omega
        rcases this with rfl | rfl
        · exact r1
        · exact r2
      rw [h2]
    have:=heights_any _ v f u hp (hk.2.kept hu)
    unfold HgtPost at this
    rw [hg] at this
    refine this.mono ?_
    rintro _ w9 ⟨x,rfl,hx,hk9⟩
    generalize (if f=0 then mainH vals.length else fnH e)=l at hl hx ⊢
    have hw:IntsW w9 x l:=by
      obtain ⟨oa,cap,e1,hn,hi⟩:=hx
      exact ⟨oa,cap,e1,by omega,hi⟩
    obtain ⟨b,o9,c,rfl,_⟩:=hw.at hl.1
    exact ⟨b,o9,c,rfl,hw,hk9⟩
  · obtain ⟨_,_,_,hq⟩:=pg_ok h0
    rw [hq]
    rfl

theorem forgeSafe_contract (H:Type) (enc:TypeId × Value→H) (W:World) (base:Nat) (args:Array Value) (ds gs:List (DataW H)) (before:List MemPlace)
    (hval:∀ (j:Nat) t v,Tryd.f6.params[j]?=some t→args[j]?=some v→Value.okWide Tryd.prog W .any base t v)
    (hW:DataW.Whole enc Tryd.prog Tryd.f6.params.toList Rows.forgeSafeSpec.vars false W args.toList ds gs before)
    (hsz:(DataW.weightsEach Tryd.prog (Tryd.f6.params.toList++(OpenSpec.ofChange Rows.forgeSafeSpec).bare.plain.varTypes Tryd.prog) (ds++gs)).all (·≤reachBytes)=true)
    (hL:laidMetH Tryd.prog Rows.forgeSafeRow.laid W) :
    Calls Tryd.prog 6 args W fun e W'=>∃ v,e=.returned v∧Rows.forgeSafeSpec.post enc Tryd.prog Tryd.f6 false true false false W args v W':=by
  have hW':=hW
  obtain ⟨p,q,hA0,hV,rfl,hfz,hnd⟩:=hW
  have hA:DataW.TrodAll enc Tryd.prog W 0 (fun _=>true) true Tryd.f6.params.toList args.toList ds p:=hA0
  have hlt:∀ x∈p,x.block < W.heap.size:=fun x hx=>by simpa using hW'.lt x (by simp [hx])
  have hA1:=hA
  rw [Tryd.params6] at hA hval hsz
  obtain ⟨v0,vs0,d0,ds0,p0,q0,hargs,rfl,rfl,h0,r0⟩:=trodAll_cons hA
  obtain ⟨v1,vs1,d1,ds1,p1,q1,rfl,rfl,rfl,h1,r1⟩:=trodAll_cons r0
  obtain ⟨rfl,rfl,rfl⟩:=trodAll_nil r1
  obtain rfl:args=#[v0,v1]:=by cases args; simp_all
  obtain ⟨rfl,rfl⟩:=trodVars_none hV
  obtain ⟨pl0,hpl0⟩:∃ pl,NodesAt W v0 pl∧∀ x∈pl,(Lit.int .i64 x.1).wf=true:=by
    obtain ⟨oa,len,cap,rfl⟩:=okWide_slice Tryd.underlying30 (hval 0 30 v0 rfl rfl)
    obtain ⟨fuel,hf⟩:=h0
    exact open_nodes hf (fun n hn=>of_decide_eq_true (List.all_eq_true.1 hsz n (DataW.weights_mem_each (j:=0) rfl rfl n hn)))
  obtain ⟨pl1,hpl1⟩:∃ pl,IntsW W v1 pl:=by
    obtain ⟨oa,len,cap,rfl⟩:=okWide_slice Tryd.underlying23 (hval 1 23 v1 rfl rfl)
    obtain ⟨fuel,hf⟩:=h1
    exact open_vals hf (fun n hn=>of_decide_eq_true (List.all_eq_true.1 hsz n (DataW.weights_mem_each (j:=1) rfl rfl n hn)))
  refine (forgeSafe_walk pl0 v0 pl1 v1 W hpl0 hpl1 (forge_laid hL)).mono fun e W' ⟨he,hg⟩=>?_
  subst he
  refine ⟨_,rfl,_,_,_,[],_,[],hW',trodAll_mk1 (shut_bool Tryd.underlying4 _),trodAll_below hg ?_ hA1 hlt,rfl,hg.frame _,fun h=>by cases h⟩
  intro t ht
  rw [Tryd.params6] at ht
  simp only [List.mem_cons,List.not_mem_nil,or_false] at ht
  rcases ht with rfl | rfl
  · exact ⟨by kernel_rfl,of_decide_eq_true (by kernel_rfl)⟩
  · exact ⟨by kernel_rfl,of_decide_eq_true (by kernel_rfl)⟩

theorem forgeSafe_laid_met (os:Os):laidMet Tryd.prog Rows.forgeSafeRow.laid ((({ World.holding Tryd.prog os ⟨#[],#[],[]⟩ with heap:=((World.holding Tryd.prog os ⟨#[],#[],[]⟩).heap.modify 1 fun | .cells _ t frozen=>.cells #[.int .i64 0,.int .i64 1,.int .i64 1,.int .i64 1,.int .i64 0,.int .i64 0,.int .i64 0,.int .i64 1,.int .i64 2,.int .i64 1,.int .i64 0,.int .i64 2,.int .i64 2,.int .i64 1,.int .i64 0,.int .i64 2,.int .i64 1,.int .i64 0,.int .i64 2,.int .i64 1,.int .i64 0,.int .i64 2,.int .i64 1,.int .i64 0,.int .i64 2,.int .i64 1,.int .i64 0,.int .i64 0,.int .i64 0,.int .i64 3,.int .i64 1,.int .i64 0,.int .i64 3,.int .i64 0,.int .i64 1,.int .i64 4,.int .i64 1,.int .i64 0,.int .i64 0,.int .i64 0,.int .i64 1,.int .i64 4,.int .i64 2,.int .i64 1,.int .i64 0,.int .i64 1,.int .i64 1,.int .i64 0,.int .i64 1,.int .i64 0,.int .i64 0] t frozen | o=>o).modify 0 fun | .cells _ t frozen=>.cells #[.int .i64 0,.int .i64 2,.int .i64 4,.int .i64 5,.int .i64 6,.int .i64 7,.int .i64 8] t frozen | o=>o }:World)).forCall (fun _ _=>0) ⟨#[],#[.slice none 0 0,.slice none 0 0],[]⟩).memory :=
  laidMet_of_run' 8 (by kernel_rfl) (by kernel_rfl)
theorem forgeSafe_reads (os:Os) {H:Type} (enc:TypeId × Value→H):∃ places,DataW.whole enc Tryd.prog ((({ World.holding Tryd.prog os ⟨#[],#[],[]⟩ with heap:=((World.holding Tryd.prog os ⟨#[],#[],[]⟩).heap.modify 1 fun | .cells _ t frozen=>.cells #[.int .i64 0,.int .i64 1,.int .i64 1,.int .i64 1,.int .i64 0,.int .i64 0,.int .i64 0,.int .i64 1,.int .i64 2,.int .i64 1,.int .i64 0,.int .i64 2,.int .i64 2,.int .i64 1,.int .i64 0,.int .i64 2,.int .i64 1,.int .i64 0,.int .i64 2,.int .i64 1,.int .i64 0,.int .i64 2,.int .i64 1,.int .i64 0,.int .i64 2,.int .i64 1,.int .i64 0,.int .i64 0,.int .i64 0,.int .i64 3,.int .i64 1,.int .i64 0,.int .i64 3,.int .i64 0,.int .i64 1,.int .i64 4,.int .i64 1,.int .i64 0,.int .i64 0,.int .i64 0,.int .i64 1,.int .i64 4,.int .i64 2,.int .i64 1,.int .i64 0,.int .i64 1,.int .i64 1,.int .i64 0,.int .i64 1,.int .i64 0,.int .i64 0] t frozen | o=>o).modify 0 fun | .cells _ t frozen=>.cells #[.int .i64 0,.int .i64 2,.int .i64 4,.int .i64 5,.int .i64 6,.int .i64 7,.int .i64 8] t frozen | o=>o }:World)).forCall (fun _ _=>0) ⟨#[],#[.slice none 0 0,.slice none 0 0],[]⟩).memory Tryd.f6.params.toList Rows.forgeSafeSpec.vars false (#[.slice none 0 0,.slice none 0 0]:Array Value).toList 8=some ([.nil,.nil],[],places) :=
  ⟨[],by kernel_rfl⟩

theorem forgeSafe_lifted (os:Os) (started:os.Started) (H:Type) (enc:TypeId × Value→H) (F:Stop.Interp) :
    ReturnsInHanded {} Tryd.checked os 6 .any ((OpenSpec.ofChange Rows.forgeSafeSpec).preRow enc Tryd.prog Tryd.f6 Rows.forgeSafeRow.domain false Rows.forgeSafeRow.laid) (((OpenSpec.ofChange Rows.forgeSafeSpec).at F).post enc Tryd.prog Tryd.f6 false true false false):=by
  obtain ⟨places,hx⟩:=forgeSafe_reads os enc
  refine returnsInHanded_of_row (C:=Tryd.checked) (s:=OpenSpec.ofChange Rows.forgeSafeSpec) own started (by kernel_rfl) Tryd.func6
    (witness_row_at (enc:=enc) (C:=Tryd.checked) false ({ World.holding Tryd.prog os ⟨#[],#[],[]⟩ with heap:=((World.holding Tryd.prog os ⟨#[],#[],[]⟩).heap.modify 1 fun | .cells _ t frozen=>.cells #[.int .i64 0,.int .i64 1,.int .i64 1,.int .i64 1,.int .i64 0,.int .i64 0,.int .i64 0,.int .i64 1,.int .i64 2,.int .i64 1,.int .i64 0,.int .i64 2,.int .i64 2,.int .i64 1,.int .i64 0,.int .i64 2,.int .i64 1,.int .i64 0,.int .i64 2,.int .i64 1,.int .i64 0,.int .i64 2,.int .i64 1,.int .i64 0,.int .i64 2,.int .i64 1,.int .i64 0,.int .i64 0,.int .i64 0,.int .i64 3,.int .i64 1,.int .i64 0,.int .i64 3,.int .i64 0,.int .i64 1,.int .i64 4,.int .i64 1,.int .i64 0,.int .i64 0,.int .i64 0,.int .i64 1,.int .i64 4,.int .i64 2,.int .i64 1,.int .i64 0,.int .i64 1,.int .i64 1,.int .i64 0,.int .i64 1,.int .i64 0,.int .i64 0] t frozen | o=>o).modify 0 fun | .cells _ t frozen=>.cells #[.int .i64 0,.int .i64 2,.int .i64 4,.int .i64 5,.int .i64 6,.int .i64 7,.int .i64 8] t frozen | o=>o }:World) #[.slice none 0 0,.slice none 0 0] rfl (by kernel_rfl) (by kernel_rfl) (by kernel_rfl)
      (OpenSpec.preRow_of_cond 8 hx (by kernel_rfl) (fun k hk=>by cases hk) (by kernel_rfl) (forgeSafe_laid_met os))) ?_
  intro W base args ds gs before hval hW _ _ hsz hL _ _
  exact forgeSafe_contract H enc W base args ds gs before hval hW hsz hL

theorem forgeSafe_said:Rows.ForgeSafeSaid :=
  OpenClaim.holds_of_cond 6 Tryd.f6 rfl rfl rfl rfl rfl rfl rfl ⟨rfl,rfl,rfl,rfl,rfl⟩ rfl rfl rfl rfl rfl (by kernel_rfl) Tryd.func6 (by kernel_rfl)
    (of_decide_eq_true (by kernel_rfl)) (by unfold Func.isWrapper; first | (rw [if_pos (by decide +kernel)]; kernel_rfl) | (rw [if_neg (by decide +kernel)]; exact ⟨rfl,rfl⟩))
    (fun os started H enc _ F=>by rw [OpenClaim.pre_eq_preRow]; exact forgeSafe_lifted os started H enc F)

theorem forgeSafe_plain (f : FuncId) (fn : Func) (hf : Tryd.pinned.checked.prog.funcNamed "glebe/glebelaw.ForgeSafe" = some f) (hfn : Tryd.pinned.checked.prog.funcs[f]? = some fn) :
    true=Tryd.pinned.checked.prog.looks []∧∀ (j:Nat) t,fn.params[j]?=some t→Tryd.pinned.checked.prog.wantsStandIn t=false:=by
  obtain rfl : f = 6 := Option.some.inj ((show Tryd.prog.funcNamed "glebe/glebelaw.ForgeSafe" = some 6 by kernel_rfl).symm.trans hf) |>.symm
  obtain rfl:fn=Tryd.f6:=(Option.some.inj (Tryd.func6.symm.trans hfn)).symm
  refine ⟨by kernel_rfl,fun j t ht=>?_⟩
  rw [Tryd.params6] at ht
  have hm:=Array.mem_of_getElem? ht
  simp only [List.mem_toArray,List.mem_cons,List.not_mem_nil,or_false] at hm
  rcases hm with rfl | rfl
  · exact (show Tryd.prog.wantsStandIn 30=false by kernel_rfl)
  · exact (show Tryd.prog.wantsStandIn 23=false by kernel_rfl)

theorem forgeSafe_card:Rows.ForgeSafeCardSaid :=
  Claim7.holds_tied_plain_at .later [] _ _ _ _ forgeSafe_said (fun _ h=>by cases h) (by kernel_rfl) (fun _ h=>by cases h) forgeSafe_row_tie rfl ⟨rfl,rfl⟩ (by kernel_rfl) rfl forgeSafe_plain (by kernel_rfl)
end Go.Proofs.YtogcfkmekdpmmaaDoor

