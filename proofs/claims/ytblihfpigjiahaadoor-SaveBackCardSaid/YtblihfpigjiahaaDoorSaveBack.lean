/-
  Proved: whatever program, state and string it is handed, the statement SaveBack (I2: what is written is read as it was, and nothing else is) returns true, and its arguments read afterwards as they read before. Conditions: the variable op.kinds starts as the text of the program lays it (the card ties it); nothing else beyond the own ones of the form.
-/
import Derived.Test.YtblihfpigjiahaaDoorCards
import Derived.Test.YtblihfpigjiahaaDoorTie
import Derived.Test.YtblihfpigjiahaaDoorDB01
import Derived.Test.YtblihfpigjiahaaDoorDB11
import Derived.Test.YtblihfpigjiahaaDoorDB42
import Derived.Test.YtblihfpigjiahaaDoorDB44
import Derived.Deep.DeepHandedRow
set_option maxRecDepth 100000
set_option maxHeartbeats 8000000
namespace Go.Proofs.YtblihfpigjiahaaDoor
open Go.RowKit Go.ChangeShapes Go.WideShapes Go.ChangeAt

theorem Zxx {p:List Fn} {s:St} (h0:Xi p s=0) (hb:StB s) (hl:(Qe s).length≤8192):Yl p (Qe s)=(s,0):=by
  have hr:=Zgp s hb []
  rw [List.append_nil] at hr
  unfold Yl
  rw [if_pos (Zaq h0).1,if_pos hl,hr]
  simp only [h0,if_true]
theorem Zms {p:List Fn} {l:List UInt8} (h:(Yl p l).2=0):Xi p (Yl p l).1=0∧StB (Yl p l).1∧Qe (Yl p l).1=l:=by
  unfold Yl at h ⊢
  by_cases hz:Xd p=0
  · rw [if_pos hz] at h ⊢
    by_cases hl:l.length≤8192
    · rw [if_pos hl] at h ⊢
      cases hr:rdS l with
      | none=>rw [hr] at h;cases h
      | some q =>
        obtain ⟨s,r⟩:=q
        rw [hr] at h
        obtain ⟨q1,q2⟩:=Zli hr
        cases r with
        | cons b r'=>cases h
        | nil =>
          rw [List.append_nil] at q1
          by_cases hs:Xi p s=0
          · simp only [hs,if_true]
            exact ⟨trivial,q2,q1⟩
          · simp only [hs,if_false] at h
            cases h
    · rw [if_neg hl] at h;cases h
  · rw [if_neg hz] at h;exact absurd h hz
theorem Zxa (p:List Fn) (vp:Value) (s:St) (vs:Value) (sb:ByteArray) (w:World) (hp:Zv w vp p) (hs0:Xj w vs s∧StW s) (hk:Qw w) :
    Calls Tryd.prog 4 #[vp,vs,.string sb] w fun e w'=>e=.returned (.bool true)∧Za w w':=by
  obtain ⟨hs,hsw⟩:=hs0
  obtain ⟨l,rfl⟩:∃ l:List UInt8,sb=⟨l.toArray⟩:=⟨sb.data.toList,by cases sb;simp⟩
  obtain ⟨oa,n,cap,c,oo,m,co,rfl⟩:=Zhv hs
  have HSB:Hid (∀ u,Za w u→Calls Tryd.prog 11 #[] u fun e w'=>e=.returned (.bool true)∧Za u w'):=Zb fun u hu=>Xai u (hk.kept hu)
  have HW:Hid (∀ u,Za w u→Calls Tryd.prog 5 #[vp,.agg #[.slice oa n cap,.int .i64 c,.slice oo m co]] u fun e w'=>e=.returned (.tuple #[.string ⟨(wrS p s).toArray⟩,.int .i64 (Xi p s)])∧Za u w'):=Zb fun u hu=>Zeg p s vp _ u (hp.kept hu) (hs.kept hu) (hk.kept hu) (fun h0=>Zga h0 hsw)
  have HR:Hid (∀ u,Za w u→Jg 8 #[vp,.string ⟨l.toArray⟩] u (Yl p l).1 [.int .i64 (Yl p l).2]):=Zb fun u hu=>Zmc p l vp u (hp.kept hu) (hk.kept hu)
  have HWY:Hid ((Yl p l).2=0→∀ u v,Za w u→Xj u v (Yl p l).1→Calls Tryd.prog 5 #[vp,v] u fun e w'=>e=.returned (.tuple #[.string ⟨l.toArray⟩,.int .i64 0])∧Za u w'):=Zb fun hg u v hu hv=>by
    obtain ⟨q1,q2,q3⟩:=Zms hg
    have:=Zeg p _ vp v u (hp.kept hu) hv (hk.kept hu) (fun _=>q2)
    rwa [show wrS p (Yl p l).1=l by unfold wrS;rw [if_pos q1,q3],q1] at this
  have HCY:Hid ((Yl p l).2=0→∀ u v,Za w u→Xj u v (Yl p l).1→Calls Tryd.prog 13 #[vp,v] u fun e w'=>e=.returned (.int .i64 0)∧Za u w'):=Zb fun hg u v hu hv=>by
    have:=Zct p _ vp v u (hp.kept hu) hv (hk.kept hu)
    rwa [(Zms hg).1] at this
  by_cases h0:Xi p s=0
  · have e0:wrS p s=Qe s:=if_pos h0
    rw [e0] at HW
    by_cases hl:(Qe s).length≤8192
    · refine Zzb vp w oa oo n cap m co c _ _ (Qe s) l s _ (Zb hs) HW HR HSB HWY HCY h0 hl (Zb fun u hu=>?_) (Zb fun u v1 v2 h1 h2=>Zjm _ v1 v2 u h1 h2)
      have:=Zmc p (Qe s) vp u (hp.kept hu) (hk.kept hu)
      rwa [Zxx h0 (Zga h0 hsw) hl] at this
    · exact Zmf vp w oa oo n cap m co c _ _ (Qe s) l s _ (Zb hs) HW HR HSB HWY HCY (.inr (by omega))
  · exact Zmf vp w oa oo n cap m co c _ _ _ l s _ (Zb hs) HW HR HSB HWY HCY (.inl h0)

theorem Zqx (H:Type) (enc:TypeId × Value→H) (W:World) (base:Nat) (args:Array Value) (ds gs:List (DataW H)) (before:List MemPlace)
    (hval:∀ (j:Nat) t v,Tryd.f4.params[j]?=some t→args[j]?=some v→Value.okWide Tryd.prog W .any base t v)
    (hW:DataW.Whole enc Tryd.prog Tryd.f4.params.toList Rows.saveBackSpec.vars false W args.toList ds gs before)
    (hsz:(DataW.weightsEach Tryd.prog (Tryd.f4.params.toList++(OpenSpec.ofChange Rows.saveBackSpec).bare.plain.varTypes Tryd.prog) (ds++gs)).all (·≤reachBytes)=true)
    (hL:laidMetH Tryd.prog Rows.saveBackRow.laid W) :
    Calls Tryd.prog 4 args W fun e W'=>∃ v,e=.returned v∧Rows.saveBackSpec.post enc Tryd.prog Tryd.f4 false true false false W args v W':=by
  have hW':=hW
  obtain ⟨p,q,hA0,hV,rfl,hfz,hnd⟩:=hW
  have hA:DataW.TrodAll enc Tryd.prog W 0 (fun _=>true) true Tryd.f4.params.toList args.toList ds p:=hA0
  have hlt:∀ x∈p,x.block<W.heap.size:=fun x hx=>by simpa using hW'.lt x (by simp [hx])
  have hA1:=hA
  rw [Tryd.params4] at hA hval hsz
  obtain ⟨v0,vs0,d0,ds0,p0,q0,hargs,rfl,rfl,h0,r0⟩:=trodAll_cons hA
  obtain ⟨v1,vs1,d1,ds1,p1,q1,rfl,rfl,rfl,h1,r1⟩:=trodAll_cons r0
  obtain ⟨v2,vs2,d2,ds2,p2,q2,rfl,rfl,rfl,h2,r2⟩:=trodAll_cons r1
  obtain ⟨rfl,rfl,rfl⟩:=trodAll_nil r2
  obtain rfl:args=#[v0,v1,v2]:=by cases args;simp_all
  obtain ⟨rfl,rfl⟩:=trodVars_none hV
  obtain ⟨pl0,hpl0⟩:∃ pl,Zv W v0 pl:=by
    obtain ⟨oa,len,cap,rfl⟩:=okWide_slice Tryd.underlying22 (hval 0 22 v0 rfl rfl)
    obtain ⟨fuel,hf⟩:=h0
    exact Zmv hf (fun n hn=>of_decide_eq_true (List.all_eq_true.1 hsz n (DataW.weights_mem_each (j:=0) rfl rfl n hn)))
  obtain ⟨st1,hst1⟩:∃ st,Xj W v1 st∧StW st:=by
    obtain ⟨fuel,hf⟩:=h1
    obtain ⟨cs,rfl,hc⟩:=okWide_struct Tryd.underlying26 (hval 1 26 v1 rfl rfl)
    have:=Zuu hf (fun n hn=>of_decide_eq_true (List.all_eq_true.1 hsz n (DataW.weights_mem_each (j:=1) rfl rfl n hn)))
    cases cs
    simpa [Value.cells] using this
  obtain ⟨sb2,rfl⟩:=okWide_string Tryd.underlying9 (hval 2 9 v2 rfl rfl)
  refine (Zxa pl0 v0 st1 v1 sb2 W hpl0 hst1 (Zxu hL)).mono fun e W' ⟨he,hg⟩=>?_
  subst he
  refine ⟨_,rfl,_,_,_,[],_,[],hW',trodAll_mk1 (shut_bool Tryd.underlying4 _),Zmj hg ?_ hA1 hlt,rfl,hg.frame _,fun h=>by cases h⟩
  intro t ht
  rw [Tryd.params4] at ht
  simp only [List.mem_cons,List.not_mem_nil,or_false] at ht
  rcases ht with rfl | rfl | rfl
  · exact ⟨by kernel_rfl,of_decide_eq_true (by kernel_rfl)⟩
  · exact ⟨by kernel_rfl,of_decide_eq_true (by kernel_rfl)⟩
  · exact ⟨by kernel_rfl,of_decide_eq_true (by kernel_rfl)⟩

theorem Zoq (os:Os):laidMet Tryd.prog Rows.saveBackRow.laid ((({ World.holding Tryd.prog os ⟨#[],#[],[]⟩ with heap:=(World.holding Tryd.prog os ⟨#[],#[],[]⟩).heap.modify 0 fun | .cells _ t frozen=>.cells #[.int .i64 0,.int .i64 1,.int .i64 1,.int .i64 1,.int .i64 0,.int .i64 0,.int .i64 0,.int .i64 1,.int .i64 2,.int .i64 1,.int .i64 0,.int .i64 2,.int .i64 2,.int .i64 1,.int .i64 0,.int .i64 2,.int .i64 1,.int .i64 0,.int .i64 2,.int .i64 1,.int .i64 0,.int .i64 2,.int .i64 1,.int .i64 0,.int .i64 2,.int .i64 1,.int .i64 0,.int .i64 0,.int .i64 0,.int .i64 3,.int .i64 1,.int .i64 0,.int .i64 3,.int .i64 0,.int .i64 1,.int .i64 4,.int .i64 1,.int .i64 0,.int .i64 0,.int .i64 0,.int .i64 1,.int .i64 4,.int .i64 2,.int .i64 1,.int .i64 0,.int .i64 1,.int .i64 1,.int .i64 0,.int .i64 1,.int .i64 0,.int .i64 0] t frozen | o=>o }:World)).forCall (fun _ _=>0) ⟨#[],#[.slice none 0 0,.agg #[.slice none 0 0,.int .i64 0,.slice none 0 0],.string ⟨#[]⟩],[]⟩).memory :=
  laidMet_of_run' 8 (by kernel_rfl) (by kernel_rfl)
theorem Zmz (os:Os) {H:Type} (enc:TypeId × Value→H):∃ places,DataW.whole enc Tryd.prog ((({ World.holding Tryd.prog os ⟨#[],#[],[]⟩ with heap:=(World.holding Tryd.prog os ⟨#[],#[],[]⟩).heap.modify 0 fun | .cells _ t frozen=>.cells #[.int .i64 0,.int .i64 1,.int .i64 1,.int .i64 1,.int .i64 0,.int .i64 0,.int .i64 0,.int .i64 1,.int .i64 2,.int .i64 1,.int .i64 0,.int .i64 2,.int .i64 2,.int .i64 1,.int .i64 0,.int .i64 2,.int .i64 1,.int .i64 0,.int .i64 2,.int .i64 1,.int .i64 0,.int .i64 2,.int .i64 1,.int .i64 0,.int .i64 2,.int .i64 1,.int .i64 0,.int .i64 0,.int .i64 0,.int .i64 3,.int .i64 1,.int .i64 0,.int .i64 3,.int .i64 0,.int .i64 1,.int .i64 4,.int .i64 1,.int .i64 0,.int .i64 0,.int .i64 0,.int .i64 1,.int .i64 4,.int .i64 2,.int .i64 1,.int .i64 0,.int .i64 1,.int .i64 1,.int .i64 0,.int .i64 1,.int .i64 0,.int .i64 0] t frozen | o=>o }:World)).forCall (fun _ _=>0) ⟨#[],#[.slice none 0 0,.agg #[.slice none 0 0,.int .i64 0,.slice none 0 0],.string ⟨#[]⟩],[]⟩).memory Tryd.f4.params.toList Rows.saveBackSpec.vars false (#[.slice none 0 0,.agg #[.slice none 0 0,.int .i64 0,.slice none 0 0],.string ⟨#[]⟩]:Array Value).toList 8=some ([.nil,.agg [.nil,.lit (.int .i64 0),.nil],.lit (.string [])],[],places) :=
  ⟨[],by kernel_rfl⟩

theorem Zwi (os:Os) (started:os.Started) (H:Type) (enc:TypeId × Value→H) (F:Stop.Interp) :
    ReturnsInHanded {} Tryd.checked os 4 .any ((OpenSpec.ofChange Rows.saveBackSpec).preRow enc Tryd.prog Tryd.f4 Rows.saveBackRow.domain false Rows.saveBackRow.laid) (((OpenSpec.ofChange Rows.saveBackSpec).at F).post enc Tryd.prog Tryd.f4 false true false false):=by
  obtain ⟨places,hx⟩:=Zmz os enc
  refine returnsInHanded_of_row (C:=Tryd.checked) (s:=OpenSpec.ofChange Rows.saveBackSpec) own started (by kernel_rfl) Tryd.func4
    (witness_row_at (enc:=enc) (C:=Tryd.checked) false ({ World.holding Tryd.prog os ⟨#[],#[],[]⟩ with heap:=(World.holding Tryd.prog os ⟨#[],#[],[]⟩).heap.modify 0 fun | .cells _ t frozen=>.cells #[.int .i64 0,.int .i64 1,.int .i64 1,.int .i64 1,.int .i64 0,.int .i64 0,.int .i64 0,.int .i64 1,.int .i64 2,.int .i64 1,.int .i64 0,.int .i64 2,.int .i64 2,.int .i64 1,.int .i64 0,.int .i64 2,.int .i64 1,.int .i64 0,.int .i64 2,.int .i64 1,.int .i64 0,.int .i64 2,.int .i64 1,.int .i64 0,.int .i64 2,.int .i64 1,.int .i64 0,.int .i64 0,.int .i64 0,.int .i64 3,.int .i64 1,.int .i64 0,.int .i64 3,.int .i64 0,.int .i64 1,.int .i64 4,.int .i64 1,.int .i64 0,.int .i64 0,.int .i64 0,.int .i64 1,.int .i64 4,.int .i64 2,.int .i64 1,.int .i64 0,.int .i64 1,.int .i64 1,.int .i64 0,.int .i64 1,.int .i64 0,.int .i64 0] t frozen | o=>o }:World) #[.slice none 0 0,.agg #[.slice none 0 0,.int .i64 0,.slice none 0 0],.string ⟨#[]⟩] rfl (by kernel_rfl) (by kernel_rfl) (by kernel_rfl)
      (OpenSpec.preRow_of_cond 8 hx (by kernel_rfl) (fun k hk=>by cases hk) (by kernel_rfl) (Zoq os))) ?_
  intro W base args ds gs before hval hW _ _ hsz hL _ _
  exact Zqx H enc W base args ds gs before hval hW hsz hL

theorem Zwo:Rows.SaveBackSaid :=
  OpenClaim.holds_of_cond 4 Tryd.f4 rfl rfl rfl rfl rfl rfl rfl ⟨rfl,rfl,rfl,rfl,rfl⟩ rfl rfl rfl rfl rfl (by kernel_rfl) Tryd.func4 (by kernel_rfl)
    (of_decide_eq_true (by kernel_rfl)) (by unfold Func.isWrapper;first | (rw [if_pos (by decide +kernel)];kernel_rfl) | (rw [if_neg (by decide +kernel)];exact ⟨rfl,rfl⟩))
    (fun os started H enc _ F=>by rw [OpenClaim.pre_eq_preRow];exact Zwi os started H enc F)

theorem Zng (f : FuncId) (fn : Func) (hf : Tryd.pinned.checked.prog.funcNamed "glebe/glebelaw.SaveBack" = some f) (hfn : Tryd.pinned.checked.prog.funcs[f]? = some fn) :
    true=Tryd.pinned.checked.prog.looks []∧∀ (j:Nat) t,fn.params[j]?=some t→Tryd.pinned.checked.prog.wantsStandIn t=false:=by
  obtain rfl : f = 4 := Option.some.inj ((show Tryd.prog.funcNamed "glebe/glebelaw.SaveBack" = some 4 by kernel_rfl).symm.trans hf) |>.symm
  obtain rfl:fn=Tryd.f4:=(Option.some.inj (Tryd.func4.symm.trans hfn)).symm
  refine ⟨by kernel_rfl,fun j t ht=>?_⟩
  rw [Tryd.params4] at ht
  have hm:=Array.mem_of_getElem? ht
  simp only [List.mem_toArray,List.mem_cons,List.not_mem_nil,or_false] at hm
  rcases hm with rfl | rfl | rfl
  · exact (show Tryd.prog.wantsStandIn 22=false by kernel_rfl)
  · exact (show Tryd.prog.wantsStandIn 26=false by kernel_rfl)
  · exact (show Tryd.prog.wantsStandIn 9=false by kernel_rfl)

theorem saveBack_card:Rows.SaveBackCardSaid :=
  Claim7.holds_tied_plain_at .later [] _ _ _ _ Zwo (fun _ h=>by cases h) (by kernel_rfl) (fun _ h=>by cases h) saveBack_row_tie rfl ⟨rfl,rfl⟩ (by kernel_rfl) rfl Zng (by kernel_rfl)
end Go.Proofs.YtblihfpigjiahaaDoor

