/-
  Proved: whatever program, state and number it is handed, the statement SaveOn (H2, I2: what was saved goes on as it would have) returns true, and its arguments read afterwards as they read before. Conditions: the variable op.kinds starts as the text of the program lays it (the card ties it); nothing else beyond the own ones of the form.
-/
import Derived.Test.YtblihfpigjiahaaGreatDoorCards
import Derived.Test.YtblihfpigjiahaaGreatDoorTie
import Derived.Test.YtblihfpigjiahaaGreatDoorYB01
import Derived.Test.YtblihfpigjiahaaGreatDoorYB11
import Derived.Test.YtblihfpigjiahaaGreatDoorYB45
import Derived.Test.YtblihfpigjiahaaGreatDoorYB48
import Derived.Test.YtblihfpigjiahaaGreatDoorYB49
import Derived.Deep.DeepHandedRow
set_option maxRecDepth 100000
set_option maxHeartbeats 8000000
namespace Go.Proofs.YtblihfpigjiahaaGreatDoor
open Go.RowKit Go.ChangeShapes Go.WideShapes Go.ChangeAt

theorem Zib (p:List Fn) (s:St) (vp vs:Value) (w:World) (hp:Xa w vp p) (hs:Xo w vs s) (hk:Qv w) (hw:Xg p s=0→StB s) :
    Calls Tryz.prog 5 #[vp,vs] w fun e w'=>e=.returned (.tuple #[.string ⟨(wrS p s).toArray⟩,.int .i64 (Xg p s)])∧Za w w':=by
  have HCK:Hid (∀ u,Za w u→Calls Tryz.prog 20 #[vp,vs] u fun e w'=>e=.returned (.int .i64 (Xg p s))∧Za u w'):=Zb fun u hu=>Zfz p s vp vs u (hp.kept hu) (hs.kept hu) (hk.kept hu)
  obtain ⟨oa,n,cap,c,oo,m,co,rfl⟩:=Zgs hs
  unfold wrS
  by_cases h0:Xg p s=0
  · rw [if_pos h0,h0]
    rw [h0] at HCK
    exact Zvx vp s oa oo n m cap co c w hs (Zb (hw h0)) (Ztj (hw h0)) HCK
  · rw [if_neg h0]
    exact Xbt vp oa oo n m cap co c _ w h0 HCK
theorem Zmv (p:List Fn) (s:St) (vp:Value) (w:World) (hp:Xa w vp p) (hk:Qv w) (h0:Xg p s=0) (hb:StB s) (hl:(Qt s).length≤8192):Po 7 #[vp,.string ⟨(Qt s).toArray⟩] w s [.int .i64 0]:=by
  have hpz:=(Zao h0).1
  refine Zza vp (Qt s) s w hl (Zaz h0) (Zb fun u hu=>?_) (Zb fun u hu=>?_) (Zb fun u v hu hs=>?_)
  · have:=Zgy p vp u (hp.kept hu) (hk.kept hu)
    rwa [hpz] at this
  · have:=Zkm u (Qt s) [] s (by have:=Znn s hb [];rwa [List.append_nil] at this)
    exact this.mono fun e w' h=>by unfold Zbz at h;rwa [if_pos rfl] at h
  · have:=Zfz p s vp v u (hp.kept hu) hs (hk.kept hu)
    rwa [h0] at this
theorem Zpp (p:List Fn) (s:St) (r:List UInt8) (hr:r≠[]) (vp:Value) (w:World) (hp:Xa w vp p) (hk:Qv w) (hpz:Xq p=0) (hb:StB s) (hl:(Qt s++r).length≤8192):Po 7 #[vp,.string ⟨(Qt s++r).toArray⟩] w St.zero [.int .i64 1]:=by
  refine Zus vp (Qt s++r) w hl (Zb fun u hu=>?_) (Zb fun u hu=>?_)
  · have:=Zgy p vp u (hp.kept hu) (hk.kept hu)
    rwa [hpz] at this
  · have:=Zkm u (Qt s++r) r s (Znn s hb r)
    exact this.mono fun e w' h=>by unfold Zbz at h;rwa [if_neg hr] at h
abbrev sv6:St:=(Qf Jr 6 (Pe Jr)).1
theorem Zfa:Xg Jr sv6=0:=Zfr 6 Zgc
theorem sv6_w:StW sv6:=by unfold StW;decide +kernel
theorem Zhh:(Qt sv6).length=39:=by decide +kernel
theorem Zjl:Xg Jr St.zero=5:=by decide +kernel
theorem Zuf (w:World) (hk:Qv w):Calls Tryz.prog 6 #[] w fun e w'=>e=.returned (.bool true)∧Za w w':=by
  have hb:=Zhk Zfa sv6_w
  have e6:wrS Jr sv6=Qt sv6:=if_pos Zfa
  have ez:wrS Jr St.zero=[]:=if_neg (by rw [Zjl];decide)
  refine Zsp w Jr sv6 (Qt sv6) Zhh (Zb Xdp) (Zb fun u v hp=>?_) (Zb fun u vp v hu hp hs=>?_) (Zb fun u vp hu hp=>?_) (Zb fun u vp hu hp=>?_) (Zb fun u vp hu hp=>?_) (Zb fun u v1 v2 h1 h2=>Zoq _ v1 v2 u h1 h2)
  · refine (Zvz 6 (by omega) u v hp).mono ?_
    rintro e w' ⟨v,rfl,hs,hk'⟩
    obtain ⟨oa,n,cap,c,oo,m,co,rfl⟩:=Zgs hs
    exact ⟨oa,n,cap,c,oo,m,co,rfl,hs,hk'⟩
  · have:=Zib Jr sv6 vp v u hp hs (hk.kept hu) (fun _=>hb)
    rwa [e6,Zfa] at this
  · have:=Zib Jr St.zero vp _ u hp (Zop u) (hk.kept hu) (fun h=>by rw [Zjl] at h;cases h)
    rwa [ez,Zjl] at this
  · exact Zmv Jr sv6 vp u hp (hk.kept hu) Zfa hb (by rw [Zhh];decide)
  · exact Zpp Jr sv6 [120] (by simp) vp u hp (hk.kept hu) Zlf hb (by rw [List.length_append,Zhh];decide)
theorem Zyw (p:List Fn) (vp:Value) (s:St) (vs:Value) (fu:Int) (w:World) (hp:Xa w vp p) (hs0:Xo w vs s∧StW s) (hw:(Lit.int .i64 fu).wf=true) (hk:Qv w) :
    Calls Tryz.prog 3 #[vp,vs,.int .i64 fu] w fun e w'=>e=.returned (.bool true)∧Za w w':=by
  obtain ⟨hs,hsw⟩:=hs0
  obtain ⟨oa,n,cap,c,oo,m,co,rfl⟩:=Zgs hs
  have HSB:Hid (∀ u,Za w u→Calls Tryz.prog 6 #[] u fun e w'=>e=.returned (.bool true)∧Za u w'):=Zb fun u hu=>Zuf u (hk.kept hu)
  have HW:Hid (∀ u,Za w u→Calls Tryz.prog 5 #[vp,.agg #[.slice oa n cap,.int .i64 c,.slice oo m co]] u fun e w'=>e=.returned (.tuple #[.string ⟨(wrS p s).toArray⟩,.int .i64 (Xg p s)])∧Za u w'):=Zb fun u hu=>Zib p s vp _ u (hp.kept hu) (hs.kept hu) (hk.kept hu) (fun h0=>Zhk h0 hsw)
  by_cases h0:Xg p s=0
  · have e0:wrS p s=Qt s:=if_pos h0
    rw [e0,h0] at HW
    by_cases hl:(Qt s).length≤8192
    · refine Zuw vp w oa oo n cap m co c fu (Zbc fu 501) (Qt s) hl s (rnS p s (Zbc fu 501)).1 (rnS p s (Zbc fu 501)).2.1 (rnS p s (Zbc fu 501)).2.2 (Zb hs) HW (Zb fun u hu=>Zmv p s vp u (hp.kept hu) (hk.kept hu) h0 (Zhk h0 hsw) hl) (Zb fun u=>Xaj fu 501 hw (by omega) (by omega) u) (Zb fun u v hu hv=>?_) (Zb fun u v1 v2 h1 h2=>Zoq _ v1 v2 u h1 h2) HSB
      refine (Zup p s vp v _ u (hp.kept hu) hv (hk.kept hu)).mono ?_
      rintro e w' ⟨V,rfl,ho,hk'⟩
      obtain ⟨oa,n,cap,c,oo,m,co,h1,h2⟩:=Zxa ho Zpi
      exact ⟨oa,n,cap,c,oo,m,co,by rw [h1],h2,hk'⟩
    · exact Zmm vp w oa oo n cap m co c fu 0 (Qt s) (.inr (by omega)) HW HSB
  · exact Zmm vp w oa oo n cap m co c fu _ _ (.inl h0) HW HSB

theorem Zsh (H:Type) (enc:TypeId × Value→H) (W:World) (base:Nat) (args:Array Value) (ds gs:List (DataW H)) (before:List MemPlace)
    (hval:∀ (j:Nat) t v,Tryz.f3.params[j]?=some t→args[j]?=some v→Value.okWide Tryz.prog W .any base t v)
    (hW:DataW.Whole enc Tryz.prog Tryz.f3.params.toList Rows.saveOnSpec.vars false W args.toList ds gs before)
    (hsz:(DataW.weightsEach Tryz.prog (Tryz.f3.params.toList++(OpenSpec.ofChange Rows.saveOnSpec).bare.plain.varTypes Tryz.prog) (ds++gs)).all (·≤reachBytes)=true)
    (hL:laidMetH Tryz.prog Rows.saveOnRow.laid W) :
    Calls Tryz.prog 3 args W fun e W'=>∃ v,e=.returned v∧Rows.saveOnSpec.post enc Tryz.prog Tryz.f3 false true false false W args v W':=by
  have hW':=hW
  obtain ⟨p,q,hA0,hV,rfl,hfz,hnd⟩:=hW
  have hA:DataW.TrodAll enc Tryz.prog W 0 (fun _=>true) true Tryz.f3.params.toList args.toList ds p:=hA0
  have hlt:∀ x∈p,x.block<W.heap.size:=fun x hx=>by simpa using hW'.lt x (by simp [hx])
  have hA1:=hA
  rw [Tryz.params3] at hA hval hsz
  obtain ⟨v0,vs0,d0,ds0,p0,q0,hargs,rfl,rfl,h0,r0⟩:=trodAll_cons hA
  obtain ⟨v1,vs1,d1,ds1,p1,q1,rfl,rfl,rfl,h1,r1⟩:=trodAll_cons r0
  obtain ⟨v2,vs2,d2,ds2,p2,q2,rfl,rfl,rfl,h2,r2⟩:=trodAll_cons r1
  obtain ⟨rfl,rfl,rfl⟩:=trodAll_nil r2
  obtain rfl:args=#[v0,v1,v2]:=by cases args;simp_all
  obtain ⟨rfl,rfl⟩:=trodVars_none hV
  obtain ⟨pl0,hpl0⟩:∃ pl,Xa W v0 pl:=by
    obtain ⟨oa,len,cap,rfl⟩:=okWide_slice Tryz.underlying22 (hval 0 22 v0 rfl rfl)
    obtain ⟨fuel,hf⟩:=h0
    exact Xcf hf (fun n hn=>of_decide_eq_true (List.all_eq_true.1 hsz n (DataW.weights_mem_each (j:=0) rfl rfl n hn)))
  obtain ⟨st1,hst1⟩:∃ st,Xo W v1 st∧StW st:=by
    obtain ⟨fuel,hf⟩:=h1
    obtain ⟨cs,rfl,hc⟩:=okWide_struct Tryz.underlying26 (hval 1 26 v1 rfl rfl)
    have:=Zzu hf (fun n hn=>of_decide_eq_true (List.all_eq_true.1 hsz n (DataW.weights_mem_each (j:=1) rfl rfl n hn)))
    cases cs
    simpa [Value.cells] using this
  obtain ⟨n2,rfl,rfl,rfl,wn2⟩:=open_int Tryz.underlying3 (hval 2 3 v2 rfl rfl) h2
  refine (Zyw pl0 v0 st1 v1 n2 W hpl0 hst1 wn2 (Zvc hL)).mono fun e W' ⟨he,hg⟩=>?_
  subst he
  refine ⟨_,rfl,_,_,_,[],_,[],hW',trodAll_mk1 (shut_bool Tryz.underlying4 _),Zob hg ?_ hA1 hlt,rfl,hg.frame _,fun h=>by cases h⟩
  intro t ht
  rw [Tryz.params3] at ht
  simp only [List.mem_cons,List.not_mem_nil,or_false] at ht
  rcases ht with rfl | rfl | rfl
  · exact ⟨by kernel_rfl,of_decide_eq_true (by kernel_rfl)⟩
  · exact ⟨by kernel_rfl,of_decide_eq_true (by kernel_rfl)⟩
  · exact ⟨by kernel_rfl,of_decide_eq_true (by kernel_rfl)⟩

theorem Xbr (os:Os):laidMet Tryz.prog Rows.saveOnRow.laid ((({ World.holding Tryz.prog os ⟨#[],#[],[]⟩ with heap:=(World.holding Tryz.prog os ⟨#[],#[],[]⟩).heap.modify 0 fun | .cells _ t frozen=>.cells #[.int .i64 0,.int .i64 1,.int .i64 1,.int .i64 1,.int .i64 0,.int .i64 0,.int .i64 0,.int .i64 1,.int .i64 2,.int .i64 1,.int .i64 0,.int .i64 2,.int .i64 2,.int .i64 1,.int .i64 0,.int .i64 2,.int .i64 1,.int .i64 0,.int .i64 2,.int .i64 1,.int .i64 0,.int .i64 2,.int .i64 1,.int .i64 0,.int .i64 2,.int .i64 1,.int .i64 0,.int .i64 0,.int .i64 0,.int .i64 3,.int .i64 1,.int .i64 0,.int .i64 3,.int .i64 0,.int .i64 1,.int .i64 4,.int .i64 1,.int .i64 0,.int .i64 0,.int .i64 0,.int .i64 1,.int .i64 4,.int .i64 2,.int .i64 1,.int .i64 0,.int .i64 1,.int .i64 1,.int .i64 0,.int .i64 1,.int .i64 0,.int .i64 0] t frozen | o=>o }:World)).forCall (fun _ _=>0) ⟨#[],#[.slice none 0 0,.agg #[.slice none 0 0,.int .i64 0,.slice none 0 0],.int .i64 0],[]⟩).memory :=
  laidMet_of_run' 8 (by kernel_rfl) (by kernel_rfl)
theorem Xcr (os:Os) {H:Type} (enc:TypeId × Value→H):∃ places,DataW.whole enc Tryz.prog ((({ World.holding Tryz.prog os ⟨#[],#[],[]⟩ with heap:=(World.holding Tryz.prog os ⟨#[],#[],[]⟩).heap.modify 0 fun | .cells _ t frozen=>.cells #[.int .i64 0,.int .i64 1,.int .i64 1,.int .i64 1,.int .i64 0,.int .i64 0,.int .i64 0,.int .i64 1,.int .i64 2,.int .i64 1,.int .i64 0,.int .i64 2,.int .i64 2,.int .i64 1,.int .i64 0,.int .i64 2,.int .i64 1,.int .i64 0,.int .i64 2,.int .i64 1,.int .i64 0,.int .i64 2,.int .i64 1,.int .i64 0,.int .i64 2,.int .i64 1,.int .i64 0,.int .i64 0,.int .i64 0,.int .i64 3,.int .i64 1,.int .i64 0,.int .i64 3,.int .i64 0,.int .i64 1,.int .i64 4,.int .i64 1,.int .i64 0,.int .i64 0,.int .i64 0,.int .i64 1,.int .i64 4,.int .i64 2,.int .i64 1,.int .i64 0,.int .i64 1,.int .i64 1,.int .i64 0,.int .i64 1,.int .i64 0,.int .i64 0] t frozen | o=>o }:World)).forCall (fun _ _=>0) ⟨#[],#[.slice none 0 0,.agg #[.slice none 0 0,.int .i64 0,.slice none 0 0],.int .i64 0],[]⟩).memory Tryz.f3.params.toList Rows.saveOnSpec.vars false (#[.slice none 0 0,.agg #[.slice none 0 0,.int .i64 0,.slice none 0 0],.int .i64 0]:Array Value).toList 8=some ([.nil,.agg [.nil,.lit (.int .i64 0),.nil],.lit (.int .i64 0)],[],places) :=
  ⟨[],by kernel_rfl⟩

theorem Zqb (os:Os) (started:os.Started) (H:Type) (enc:TypeId × Value→H) (F:Stop.Interp) :
    ReturnsInHanded {} Tryz.checked os 3 .any ((OpenSpec.ofChange Rows.saveOnSpec).preRow enc Tryz.prog Tryz.f3 Rows.saveOnRow.domain false Rows.saveOnRow.laid) (((OpenSpec.ofChange Rows.saveOnSpec).at F).post enc Tryz.prog Tryz.f3 false true false false):=by
  obtain ⟨places,hx⟩:=Xcr os enc
  refine returnsInHanded_of_row (C:=Tryz.checked) (s:=OpenSpec.ofChange Rows.saveOnSpec) own started (by kernel_rfl) Tryz.func3
    (witness_row_at (enc:=enc) (C:=Tryz.checked) false ({ World.holding Tryz.prog os ⟨#[],#[],[]⟩ with heap:=(World.holding Tryz.prog os ⟨#[],#[],[]⟩).heap.modify 0 fun | .cells _ t frozen=>.cells #[.int .i64 0,.int .i64 1,.int .i64 1,.int .i64 1,.int .i64 0,.int .i64 0,.int .i64 0,.int .i64 1,.int .i64 2,.int .i64 1,.int .i64 0,.int .i64 2,.int .i64 2,.int .i64 1,.int .i64 0,.int .i64 2,.int .i64 1,.int .i64 0,.int .i64 2,.int .i64 1,.int .i64 0,.int .i64 2,.int .i64 1,.int .i64 0,.int .i64 2,.int .i64 1,.int .i64 0,.int .i64 0,.int .i64 0,.int .i64 3,.int .i64 1,.int .i64 0,.int .i64 3,.int .i64 0,.int .i64 1,.int .i64 4,.int .i64 1,.int .i64 0,.int .i64 0,.int .i64 0,.int .i64 1,.int .i64 4,.int .i64 2,.int .i64 1,.int .i64 0,.int .i64 1,.int .i64 1,.int .i64 0,.int .i64 1,.int .i64 0,.int .i64 0] t frozen | o=>o }:World) #[.slice none 0 0,.agg #[.slice none 0 0,.int .i64 0,.slice none 0 0],.int .i64 0] rfl (by kernel_rfl) (by kernel_rfl) (by kernel_rfl)
      (OpenSpec.preRow_of_cond 8 hx (by kernel_rfl) (fun k hk=>by cases hk) (by kernel_rfl) (Xbr os))) ?_
  intro W base args ds gs before hval hW _ _ hsz hL _ _
  exact Zsh H enc W base args ds gs before hval hW hsz hL

theorem Xcz:Rows.SaveOnSaid :=
  OpenClaim.holds_of_cond 3 Tryz.f3 rfl rfl rfl rfl rfl rfl rfl ⟨rfl,rfl,rfl,rfl,rfl⟩ rfl rfl rfl rfl rfl (by kernel_rfl) Tryz.func3 (by kernel_rfl)
    (of_decide_eq_true (by kernel_rfl)) (by unfold Func.isWrapper;first | (rw [if_pos (by decide +kernel)];kernel_rfl) | (rw [if_neg (by decide +kernel)];exact ⟨rfl,rfl⟩))
    (fun os started H enc _ F=>by rw [OpenClaim.pre_eq_preRow];exact Zqb os started H enc F)

theorem Zvb (f : FuncId) (fn : Func) (hf : Tryz.pinned.checked.prog.funcNamed "glebe/glebelaw.SaveOn" = some f) (hfn : Tryz.pinned.checked.prog.funcs[f]? = some fn) :
    true=Tryz.pinned.checked.prog.looks []∧∀ (j:Nat) t,fn.params[j]?=some t→Tryz.pinned.checked.prog.wantsStandIn t=false:=by
  obtain rfl : f = 3 := Option.some.inj ((show Tryz.prog.funcNamed "glebe/glebelaw.SaveOn" = some 3 by kernel_rfl).symm.trans hf) |>.symm
  obtain rfl:fn=Tryz.f3:=(Option.some.inj (Tryz.func3.symm.trans hfn)).symm
  refine ⟨by kernel_rfl,fun j t ht=>?_⟩
  rw [Tryz.params3] at ht
  have hm:=Array.mem_of_getElem? ht
  simp only [List.mem_toArray,List.mem_cons,List.not_mem_nil,or_false] at hm
  rcases hm with rfl | rfl | rfl
  · exact (show Tryz.prog.wantsStandIn 22=false by kernel_rfl)
  · exact (show Tryz.prog.wantsStandIn 26=false by kernel_rfl)
  · exact (show Tryz.prog.wantsStandIn 3=false by kernel_rfl)

theorem saveOn_card:Rows.SaveOnCardSaid :=
  Claim7.holds_tied_plain_at .later [] _ _ _ _ Xcz (fun _ h=>by cases h) (by kernel_rfl) (fun _ h=>by cases h) saveOn_row_tie rfl ⟨rfl,rfl⟩ (by kernel_rfl) rfl Zvb (by kernel_rfl)
end Go.Proofs.YtblihfpigjiahaaGreatDoor

