/-
  Proved: whatever program, state and string it is handed, the statement SaveWrites (I1: Write and Read answer just what the document says) returns true, and its arguments read afterwards as they read before. Conditions: the variable op.kinds starts as the text of the program lays it (the card ties it); nothing else beyond the own ones of the form.
-/
import Derived.Test.YtblihfpigjiahaaDoorCards
import Derived.Test.YtblihfpigjiahaaDoorTie
import Derived.Test.YtblihfpigjiahaaDoorWB01
import Derived.Test.YtblihfpigjiahaaDoorWB11
import Derived.Test.YtblihfpigjiahaaDoorWB22
import Derived.Test.YtblihfpigjiahaaDoorWB20
import Derived.Test.YtblihfpigjiahaaDoorWB44
import Derived.Test.YtblihfpigjiahaaDoorWB46
import Derived.Test.YtblihfpigjiahaaDoorWB49
import Derived.Test.YtblihfpigjiahaaDoorWB48
import Derived.Deep.DeepHandedRow
set_option maxRecDepth 100000
set_option maxHeartbeats 8000000
namespace Go.Proofs.YtblihfpigjiahaaDoor
open Go.RowKit Go.ChangeShapes Go.WideShapes Go.ChangeAt

theorem Zym (p:List Fn) (vp:Value) (s:St) (vs:Value) (sb:ByteArray) (w:World) (hp:Zw w vp p) (hs0:Zy w vs s∧StW s) (hk:Je w) :
    Calls Tryd.prog 3 #[vp,vs,.string sb] w fun e w'=>e=.returned (.bool true)∧Zb w w':=by
  obtain ⟨hs,hsw⟩:=hs0
  obtain ⟨l,rfl⟩:∃ l:List UInt8,sb=⟨l.toArray⟩:=⟨sb.data.toList,by cases sb;simp⟩
  obtain ⟨oa,n,cap,c,oo,m,co,rfl⟩:=Zet hs
  have HSB:Hid (∀ u,Zb w u→Calls Tryd.prog 11 #[] u fun e w'=>e=.returned (.bool true)∧Zb u w'):=Za fun u hu=>Ztm u (hk.kept hu)
  have HW:Hid (∀ u,Zb w u→Calls Tryd.prog 5 #[vp,.agg #[.slice oa n cap,.int .i64 c,.slice oo m co]] u fun e w'=>e=.returned (.tuple #[.string ⟨(wrS p s).toArray⟩,.int .i64 (Xa p s)])∧Zb u w'):=Za fun u hu=>Zho p s vp _ u (hp.kept hu) (hs.kept hu) (hk.kept hu) (fun h0=>Zbn h0 hsw)
  have HR:Hid (∀ u,Zb w u→Jc 8 #[vp,.string ⟨l.toArray⟩] u (Zbi p l).1 [.int .i64 (Zbi p l).2]):=Za fun u hu=>Ztt p l vp u (hp.kept hu) (hk.kept hu)
  have HE:Hid (∀ u,Zb w u→Calls Tryd.prog 6 #[vp,.agg #[.slice oa n cap,.int .i64 c,.slice oo m co]] u fun e w'=>e=.returned (.int .i64 (Xa p s))∧Zb u w'):=Za fun u hu=>Zhz p vp _ s u (hp.kept hu) (hs.kept hu)
  have HB:Xa p s=0→Hid (∀ u,Zb w u→Calls Tryd.prog 7 #[.agg #[.slice oa n cap,.int .i64 c,.slice oo m co]] u fun e w'=>e=.returned (.string ⟨(Xk s).toArray⟩)∧Zb u w'):=fun h0=>Za fun u hu=>Znf u s oa oo n m cap co c (hs.kept hu) (Za (Zbn h0 hsw)) (Zgu (Zbn h0 hsw))
  have HP:Hid (∀ u,Zb w u→Calls Tryd.prog 9 #[vp] u fun e w'=>e=.returned (.int .i64 (Xh p))∧Zb u w'):=Za fun u hu=>Zfb p vp u (hp.kept hu)
  have HF:Hid (∀ u,Zb w u→Pg u vp l ((Wt p l).getD St.zero) (Wt p l).isSome):=Za fun u hu=>Zue u vp p l (Za fun u1 v s1 h1 h2=>Zhz p vp v s1 u1 (hp.kept (hu.trans h1)) h2) (Za fun u1 v s1 _ h2 h3 h4=>by
    obtain ⟨oa,n,cap,c,oo,m,co,rfl⟩:=Zet h2
    exact Znf u1 s1 oa oo n m cap co c h2 (Za (Zbn h3 h4)) (Zgu (Zbn h3 h4)))
  have HSS:∀ y,Hid (∀ u v1 v2,Zy u v1 y→Zy u v2 y→Calls Tryd.prog 12 #[v1,v2] u fun e w'=>e=.returned (.bool true)∧Zb u w'):=fun y=>Za fun u v1 v2 h1 h2=>Zjr y v1 v2 u h1 h2
  have hfr:=Zqd p l
  generalize hq:Zbi p l=q at HR
  unfold Zbi at hq
  by_cases hz:Xh p=0
  · rw [if_pos hz] at hq
    rw [hz] at HP
    by_cases hl:l.length≤8192
    · rw [if_pos hl] at hq
      have hq2:(∃ y,Wt p l=some y∧q=(y,0))∨(Wt p l=none∧q=(St.zero,1)):=by
        rw [hfr,← hq]
        cases rdS l with
        | none=>exact .inr ⟨rfl,rfl⟩
        | some z =>
          obtain ⟨y,r⟩:=z
          cases r with
          | cons b r=>exact .inr ⟨rfl,rfl⟩
          | nil =>
            by_cases he:Xa p y=0
            · exact .inl ⟨y,by simp only [he,if_true],by simp only [he,if_true]⟩
            · exact .inr ⟨by simp only [he,if_false],by simp only [he,if_false]⟩
      rcases hq2 with ⟨y,e1,rfl⟩ | ⟨e1,rfl⟩
      · rw [e1] at HF
        by_cases h0:Xa p s=0
        · rw [h0,show wrS p s=Xk s from if_pos h0] at HW
          rw [h0] at HE
          exact Zoq vp w oa oo n cap m co c (Xk s) l y HW HE (HB h0) HR HP HF HSB (HSS y) hl
        · rw [show wrS p s=[] from if_neg h0] at HW
          exact Xbh vp w oa oo n cap m co c _ l y HW HE HR HP HF HSB (HSS y) h0 hl
      · rw [e1] at HF
        by_cases h0:Xa p s=0
        · rw [h0,show wrS p s=Xk s from if_pos h0] at HW
          rw [h0] at HE
          exact Zuf vp w oa oo n cap m co c (Xk s) l _ HW HE (HB h0) HR HP HF HSB (HSS _) hl
        · rw [show wrS p s=[] from if_neg h0] at HW
          exact Zrz vp w oa oo n cap m co c _ l _ HW HE HR HP HF HSB (HSS _) h0 hl
    · rw [if_neg hl] at hq
      subst hq
      by_cases h0:Xa p s=0
      · rw [h0,show wrS p s=Xk s from if_pos h0] at HW
        rw [h0] at HE
        exact Zso vp w oa oo n cap m co c (Xk s) l HW HE (HB h0) HR HP HSB (HSS _) (by omega)
      · rw [show wrS p s=[] from if_neg h0] at HW
        exact Zzd vp w oa oo n cap m co c _ l HW HE HR HP HSB (HSS _) h0 (by omega)
  · rw [if_neg hz] at hq
    subst hq
    by_cases h0:Xa p s=0
    · exact absurd (Zbq h0).1 hz
    · rw [show wrS p s=[] from if_neg h0] at HW
      exact Zpi vp w oa oo n cap m co c _ _ l HW HE HR HP HSB (HSS _) h0 hz

theorem Ztr (H:Type) (enc:TypeId × Value→H) (W:World) (base:Nat) (args:Array Value) (ds gs:List (DataW H)) (before:List MemPlace)
    (hval:∀ (j:Nat) t v,Tryd.f3.params[j]?=some t→args[j]?=some v→Value.okWide Tryd.prog W .any base t v)
    (hW:DataW.Whole enc Tryd.prog Tryd.f3.params.toList Rows.saveWritesSpec.vars false W args.toList ds gs before)
    (hsz:(DataW.weightsEach Tryd.prog (Tryd.f3.params.toList++(OpenSpec.ofChange Rows.saveWritesSpec).bare.plain.varTypes Tryd.prog) (ds++gs)).all (·≤reachBytes)=true)
    (hL:laidMetH Tryd.prog Rows.saveWritesRow.laid W) :
    Calls Tryd.prog 3 args W fun e W'=>∃ v,e=.returned v∧Rows.saveWritesSpec.post enc Tryd.prog Tryd.f3 false true false false W args v W':=by
  have hW':=hW
  obtain ⟨p,q,hA0,hV,rfl,hfz,hnd⟩:=hW
  have hA:DataW.TrodAll enc Tryd.prog W 0 (fun _=>true) true Tryd.f3.params.toList args.toList ds p:=hA0
  have hlt:∀ x∈p,x.block<W.heap.size:=fun x hx=>by simpa using hW'.lt x (by simp [hx])
  have hA1:=hA
  rw [Tryd.params3] at hA hval hsz
  obtain ⟨v0,vs0,d0,ds0,p0,q0,hargs,rfl,rfl,h0,r0⟩:=trodAll_cons hA
  obtain ⟨v1,vs1,d1,ds1,p1,q1,rfl,rfl,rfl,h1,r1⟩:=trodAll_cons r0
  obtain ⟨v2,vs2,d2,ds2,p2,q2,rfl,rfl,rfl,h2,r2⟩:=trodAll_cons r1
  obtain ⟨rfl,rfl,rfl⟩:=trodAll_nil r2
  obtain rfl:args=#[v0,v1,v2]:=by cases args;simp_all
  obtain ⟨rfl,rfl⟩:=trodVars_none hV
  obtain ⟨pl0,hpl0⟩:∃ pl,Zw W v0 pl:=by
    obtain ⟨oa,len,cap,rfl⟩:=okWide_slice Tryd.underlying22 (hval 0 22 v0 rfl rfl)
    obtain ⟨fuel,hf⟩:=h0
    exact Zol hf (fun n hn=>of_decide_eq_true (List.all_eq_true.1 hsz n (DataW.weights_mem_each (j:=0) rfl rfl n hn)))
  obtain ⟨st1,hst1⟩:∃ st,Zy W v1 st∧StW st:=by
    obtain ⟨fuel,hf⟩:=h1
    obtain ⟨cs,rfl,hc⟩:=okWide_struct Tryd.underlying26 (hval 1 26 v1 rfl rfl)
    have:=Zxd hf (fun n hn=>of_decide_eq_true (List.all_eq_true.1 hsz n (DataW.weights_mem_each (j:=1) rfl rfl n hn)))
    cases cs
    simpa [Value.cells] using this
  obtain ⟨sb2,rfl⟩:=okWide_string Tryd.underlying9 (hval 2 9 v2 rfl rfl)
  refine (Zym pl0 v0 st1 v1 sb2 W hpl0 hst1 (Zwb hL)).mono fun e W' ⟨he,hg⟩=>?_
  subst he
  refine ⟨_,rfl,_,_,_,[],_,[],hW',trodAll_mk1 (shut_bool Tryd.underlying4 _),Zll hg ?_ hA1 hlt,rfl,hg.frame _,fun h=>by cases h⟩
  intro t ht
  rw [Tryd.params3] at ht
  simp only [List.mem_cons,List.not_mem_nil,or_false] at ht
  rcases ht with rfl | rfl | rfl
  · exact ⟨by kernel_rfl,of_decide_eq_true (by kernel_rfl)⟩
  · exact ⟨by kernel_rfl,of_decide_eq_true (by kernel_rfl)⟩
  · exact ⟨by kernel_rfl,of_decide_eq_true (by kernel_rfl)⟩

theorem Zxq (os:Os):laidMet Tryd.prog Rows.saveWritesRow.laid ((({ World.holding Tryd.prog os ⟨#[],#[],[]⟩ with heap:=(World.holding Tryd.prog os ⟨#[],#[],[]⟩).heap.modify 0 fun | .cells _ t frozen=>.cells #[.int .i64 0,.int .i64 1,.int .i64 1,.int .i64 1,.int .i64 0,.int .i64 0,.int .i64 0,.int .i64 1,.int .i64 2,.int .i64 1,.int .i64 0,.int .i64 2,.int .i64 2,.int .i64 1,.int .i64 0,.int .i64 2,.int .i64 1,.int .i64 0,.int .i64 2,.int .i64 1,.int .i64 0,.int .i64 2,.int .i64 1,.int .i64 0,.int .i64 2,.int .i64 1,.int .i64 0,.int .i64 0,.int .i64 0,.int .i64 3,.int .i64 1,.int .i64 0,.int .i64 3,.int .i64 0,.int .i64 1,.int .i64 4,.int .i64 1,.int .i64 0,.int .i64 0,.int .i64 0,.int .i64 1,.int .i64 4,.int .i64 2,.int .i64 1,.int .i64 0,.int .i64 1,.int .i64 1,.int .i64 0,.int .i64 1,.int .i64 0,.int .i64 0] t frozen | o=>o }:World)).forCall (fun _ _=>0) ⟨#[],#[.slice none 0 0,.agg #[.slice none 0 0,.int .i64 0,.slice none 0 0],.string ⟨#[]⟩],[]⟩).memory :=
  laidMet_of_run' 8 (by kernel_rfl) (by kernel_rfl)
theorem Zqa (os:Os) {H:Type} (enc:TypeId × Value→H):∃ places,DataW.whole enc Tryd.prog ((({ World.holding Tryd.prog os ⟨#[],#[],[]⟩ with heap:=(World.holding Tryd.prog os ⟨#[],#[],[]⟩).heap.modify 0 fun | .cells _ t frozen=>.cells #[.int .i64 0,.int .i64 1,.int .i64 1,.int .i64 1,.int .i64 0,.int .i64 0,.int .i64 0,.int .i64 1,.int .i64 2,.int .i64 1,.int .i64 0,.int .i64 2,.int .i64 2,.int .i64 1,.int .i64 0,.int .i64 2,.int .i64 1,.int .i64 0,.int .i64 2,.int .i64 1,.int .i64 0,.int .i64 2,.int .i64 1,.int .i64 0,.int .i64 2,.int .i64 1,.int .i64 0,.int .i64 0,.int .i64 0,.int .i64 3,.int .i64 1,.int .i64 0,.int .i64 3,.int .i64 0,.int .i64 1,.int .i64 4,.int .i64 1,.int .i64 0,.int .i64 0,.int .i64 0,.int .i64 1,.int .i64 4,.int .i64 2,.int .i64 1,.int .i64 0,.int .i64 1,.int .i64 1,.int .i64 0,.int .i64 1,.int .i64 0,.int .i64 0] t frozen | o=>o }:World)).forCall (fun _ _=>0) ⟨#[],#[.slice none 0 0,.agg #[.slice none 0 0,.int .i64 0,.slice none 0 0],.string ⟨#[]⟩],[]⟩).memory Tryd.f3.params.toList Rows.saveWritesSpec.vars false (#[.slice none 0 0,.agg #[.slice none 0 0,.int .i64 0,.slice none 0 0],.string ⟨#[]⟩]:Array Value).toList 8=some ([.nil,.agg [.nil,.lit (.int .i64 0),.nil],.lit (.string [])],[],places) :=
  ⟨[],by kernel_rfl⟩

theorem Zuy (os:Os) (started:os.Started) (H:Type) (enc:TypeId × Value→H) (F:Stop.Interp) :
    ReturnsInHanded {} Tryd.checked os 3 .any ((OpenSpec.ofChange Rows.saveWritesSpec).preRow enc Tryd.prog Tryd.f3 Rows.saveWritesRow.domain false Rows.saveWritesRow.laid) (((OpenSpec.ofChange Rows.saveWritesSpec).at F).post enc Tryd.prog Tryd.f3 false true false false):=by
  obtain ⟨places,hx⟩:=Zqa os enc
  refine returnsInHanded_of_row (C:=Tryd.checked) (s:=OpenSpec.ofChange Rows.saveWritesSpec) own started (by kernel_rfl) Tryd.func3
    (witness_row_at (enc:=enc) (C:=Tryd.checked) false ({ World.holding Tryd.prog os ⟨#[],#[],[]⟩ with heap:=(World.holding Tryd.prog os ⟨#[],#[],[]⟩).heap.modify 0 fun | .cells _ t frozen=>.cells #[.int .i64 0,.int .i64 1,.int .i64 1,.int .i64 1,.int .i64 0,.int .i64 0,.int .i64 0,.int .i64 1,.int .i64 2,.int .i64 1,.int .i64 0,.int .i64 2,.int .i64 2,.int .i64 1,.int .i64 0,.int .i64 2,.int .i64 1,.int .i64 0,.int .i64 2,.int .i64 1,.int .i64 0,.int .i64 2,.int .i64 1,.int .i64 0,.int .i64 2,.int .i64 1,.int .i64 0,.int .i64 0,.int .i64 0,.int .i64 3,.int .i64 1,.int .i64 0,.int .i64 3,.int .i64 0,.int .i64 1,.int .i64 4,.int .i64 1,.int .i64 0,.int .i64 0,.int .i64 0,.int .i64 1,.int .i64 4,.int .i64 2,.int .i64 1,.int .i64 0,.int .i64 1,.int .i64 1,.int .i64 0,.int .i64 1,.int .i64 0,.int .i64 0] t frozen | o=>o }:World) #[.slice none 0 0,.agg #[.slice none 0 0,.int .i64 0,.slice none 0 0],.string ⟨#[]⟩] rfl (by kernel_rfl) (by kernel_rfl) (by kernel_rfl)
      (OpenSpec.preRow_of_cond 8 hx (by kernel_rfl) (fun k hk=>by cases hk) (by kernel_rfl) (Zxq os))) ?_
  intro W base args ds gs before hval hW _ _ hsz hL _ _
  exact Ztr H enc W base args ds gs before hval hW hsz hL

theorem Zzl:Rows.SaveWritesSaid :=
  OpenClaim.holds_of_cond 3 Tryd.f3 rfl rfl rfl rfl rfl rfl rfl ⟨rfl,rfl,rfl,rfl,rfl⟩ rfl rfl rfl rfl rfl (by kernel_rfl) Tryd.func3 (by kernel_rfl)
    (of_decide_eq_true (by kernel_rfl)) (by unfold Func.isWrapper;first | (rw [if_pos (by decide +kernel)];kernel_rfl) | (rw [if_neg (by decide +kernel)];exact ⟨rfl,rfl⟩))
    (fun os started H enc _ F=>by rw [OpenClaim.pre_eq_preRow];exact Zuy os started H enc F)

theorem Xal (f : FuncId) (fn : Func) (hf : Tryd.pinned.checked.prog.funcNamed "glebe/glebelaw.SaveWrites" = some f) (hfn : Tryd.pinned.checked.prog.funcs[f]? = some fn) :
    true=Tryd.pinned.checked.prog.looks []∧∀ (j:Nat) t,fn.params[j]?=some t→Tryd.pinned.checked.prog.wantsStandIn t=false:=by
  obtain rfl : f = 3 := Option.some.inj ((show Tryd.prog.funcNamed "glebe/glebelaw.SaveWrites" = some 3 by kernel_rfl).symm.trans hf) |>.symm
  obtain rfl:fn=Tryd.f3:=(Option.some.inj (Tryd.func3.symm.trans hfn)).symm
  refine ⟨by kernel_rfl,fun j t ht=>?_⟩
  rw [Tryd.params3] at ht
  have hm:=Array.mem_of_getElem? ht
  simp only [List.mem_toArray,List.mem_cons,List.not_mem_nil,or_false] at hm
  rcases hm with rfl | rfl | rfl
  · exact (show Tryd.prog.wantsStandIn 22=false by kernel_rfl)
  · exact (show Tryd.prog.wantsStandIn 26=false by kernel_rfl)
  · exact (show Tryd.prog.wantsStandIn 9=false by kernel_rfl)

theorem saveWrites_card : Rows.SaveWritesCardSaid :=
  Claim7.holds_tied_plain_at .later [] _ _ _ _ Zzl (fun _ h=>by cases h) (by kernel_rfl) (fun _ h=>by cases h) saveWrites_row_tie rfl ⟨rfl,rfl⟩ (by kernel_rfl) rfl Xal (by kernel_rfl)
end Go.Proofs.YtblihfpigjiahaaDoor

