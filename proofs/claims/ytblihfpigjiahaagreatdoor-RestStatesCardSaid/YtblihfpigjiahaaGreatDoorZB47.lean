/- StateO, StepU, StepV, OpenG, Open, StateB -/
import Derived.Test.YtblihfpigjiahaaGreatDoorZB46
import Derived.Test.YtblihfpigjiahaaGreatDoorZB39
import Derived.Test.YtblihfpigjiahaaGreatDoorZB29
import Derived.Test.YtblihfpigjiahaaGreatDoorZB15
import Derived.Test.YtblihfpigjiahaaGreatDoorRows
import Derived.Test.YtblihfpigjiahaaGreatDoorZB01
import Derived.ProofKit
import Derived.OpenShut
import Derived.Deep.Slices
import Derived.SizedLaws
import Derived.Deep.Strs
import Derived.Lib.LaidTab
import Derived.Test.YtblihfpigjiahaaGreatDoorZB11
import Derived.Lib.SmallJoins
set_option maxRecDepth 100000
set_option maxHeartbeats 8000000
namespace Go.Proofs.YtblihfpigjiahaaGreatDoor
open Go.RowKit
theorem href_of {p:List Fn} {vp:Value} {w:World} (hp:ProgAt w vp p) (hz:Zx p=0):HRef w vp p:=by
 intro k u hk hu
 obtain ⟨_,_,hck⟩:=Ka hz
 refine (refHeights_at p vp k u (hp.kept hu) (hck k hk)).mono ?_
 intro e u' h
 have hs:=progS_heights hz hk
 unfold RefPost at h
 rw [hs] at h
 exact h
theorem stateError_any (p:List Fn) (vp v:Value) (s:St) (w:World) (hp:ProgAt w vp p) (hs:StAt w v s) :
  Calls Tryz.prog 11 #[vp,v] w fun e w'=>e=.returned (.int .i64 (Zy p s))∧Kept w w':=by
 obtain ⟨vf,vo,rfl,hf,ho⟩:=hs
 by_cases hz:Zx p=0
 ·obtain ⟨oa,cap,rfl,_,hc⟩:=id hf
  by_cases h0:s.fibers.length=0
  ·obtain ⟨oo,co,rfl,_,_⟩:=id ho
   rw [h0]
   refine stateError_none p vp oa oo cap _ co s.now w hp hz _ ?_
   by_cases h30:s.out.length≤30
   ·rw [if_pos h30,st_lim hz (lim_tail ⟨by omega,h30⟩ (fun k hk=>by omega)) (by rw [if_neg (by omega)]; decide),if_neg (by omega)]
   ·rw [if_neg h30,st_lim hz (lim_many (by omega)) (by decide)]
  ·obtain ⟨b,o,_,rfl,-⟩:=hc 0 _ (Zm s.fibers 0 Fb.zero (by omega))
   exact stateError_go p vp s b o cap vo w hp (href_of hp hz) hz (by omega) hf ho
 ·have:Zy p s=Zx p:=by unfold Zy; rw [if_neg hz]
  rw [this]
  exact stateError_prog p vp _ _ _ w hp hz
theorem runOf_on (p:List Fn) (s:St) (vp v:Value) (fuel:Nat) (w:World) (hp:ProgAt w vp p) (hs:StAt w v s) (hsm:Small s) (hf:fuel≤500) (hz:Zy p s=0) (hok:runOk p fuel s) :
  Calls Tryz.prog 18 #[vp,v,.int .i64 fuel] w (RunPost (runS p fuel s) w):=by
 obtain ⟨oa,cp,rfl,_,_⟩:=id hp
 have HP:=hide hp
 have HS:=hide hs
 obtain ⟨vf,vo,rfl,hF,hO⟩:=hs
 obtain ⟨oF,cF,rfl,_,_⟩:=hF
 obtain ⟨oO,cO,rfl,_,_⟩:=hO
 have HOK:=hide hok
 have HSM:=hide hsm
 have HZ:=hide hz
 have hin:inB (fuel:Int) 0 500=true:=Qu (by omega) (by omega)
 clear hp hok hsm hz
 generalize hR0:runS p fuel s=RR
 have HRR:=hide hR0
 clear hR0
 go_enter Tryz.func18,Tryz.ntmps18
 go_wp2_with (go_at_call 30; refine (Xc _ _ _ _).mono ?_; rw [hin]; rintro e w' ⟨rfl,rfl⟩)
 generalize hw1:(w.alloc (.cells #[.slice oF s.fibers.length cF,.int .i64 s.now,.slice oO s.out.length cO] 26)).alloc (.cells #[.slice none 0 0,.int .i64 0,.slice none 0 0] 26)=w1
 have LA:w1.heap[w.heap.size]?=some (.cells #[.slice oF s.fibers.length cF,.int .i64 s.now,.slice oO s.out.length cO] 26):=by rw [← hw1]; exact Zg (Zd rfl) _
 have LR:w1.heap[w.heap.size + 1]?=some (.cells #[.slice none 0 0,.int .i64 0,.slice none 0 0] 26):=by rw [← hw1]; exact Zd (by simp)
 have hk1:Kept w w1:=by rw [← hw1]; exact ((Kept.refl w).alloc _).alloc _
 have hs1:w1.heap.size=w.heap.size + 2:=by rw [← hw1]; simp
 have HE:=hide (stateError_any p _ _ s w1 ((un HP).kept hk1) ((un HS).kept hk1))
 have HK1:=hide hk1
 have HLA:=hide LA
 have HLR:=hide LR
 have HSZ:=hide hs1
 clear hw1 hk1 hs1 LA LR
 refine (un HE).mono ?_
 rintro _ w2 ⟨rfl,hk2⟩
 rw [un HZ]
 have hk12:=(un HK1).trans hk2
 have a0:=Zb (Zj hk2 (un HLA)) 0
 have a1:=Zb (Zj hk2 (un HLA)) 1
 have a2:=Zb (Zj hk2 (un HLA)) 2
 have HLR2:=hide (Zj hk2 (un HLR))
 have hrc:=run_any p s _ _ fuel w2 ((un HP).kept hk12) ((un HS).kept hk12) (un HSM) hf (un HOK)
 rw [un HRR] at hrc
 have HC:=hide hrc
 clear hrc
 have HK2:=hide hk12
 have HG:=hide hk2.size
 clear hk2 hk12 HE
 go_wp2_with fail
 refine (un HC).mono ?_
 rintro _ w3 ⟨V,rfl,ho3,hk3⟩
 obtain ⟨xsF,hrF,_⟩:=ho3.piece .fibers trivial
 obtain ⟨oX,cX,hVf,_⟩:=Zo hrF
 have hrO:_:=ho3.piece .out trivial
 obtain ⟨oY,cY,hVo,_⟩:=Zo hrO
 have LR3:=Zj hk3 (un HLR2)
 generalize hR2:w.heap.size + 1=R2 at *
 have r0:=Zb LR3 0
 have r1:=Zb LR3 1
 have r2:=Zb LR3 2
 have f0:=Zi LR3 0
 have f1:=Zi LR3 1
 have f2:=Zi LR3 2
 have HLZ:=hide (lay3 (x:=.slice oX RR.1.fibers.length cX) (y:=.int .i64 RR.1.now) (z:=.slice oY RR.1.out.length cY) LR3)
 have HVF:=hide hVf
 have HVO:=hide hVo
 have HO3:=hide ho3
 have HK3:=hide ((un HK2).trans hk3)
 have HRZ:Hid (w.heap.size + 1=R2∧w2.heap.size ≥ w.heap.size + 2):=hide ⟨hR2,by have:=un HG; have:=un HSZ; omega⟩
 rw [hVf,hVo]
 clear ho3 hk3 hrF hrO hVf hVo LR3 HC a0 a1 a2 hR2
 go_wp2_with fail
 have k0:=Zb (un HLZ) 0
 have k1:=Zb (un HLZ) 1
 have k2:=Zb (un HLZ) 2
 have hwR:w.heap.size≤R2:=by have:=un HRZ; omega
 have hkf:Kept w (((w3.setCell ⟨R2,0,none⟩ (.slice oX RR.1.fibers.length cX)).setCell ⟨R2,1,none⟩ (.int .i64 RR.1.now)).setCell ⟨R2,2,none⟩ (.slice oY RR.1.out.length cY)):=(((un HK3).setCell (p:=⟨R2,0,none⟩) hwR _).setCell (p:=⟨R2,1,none⟩) hwR _).setCell (p:=⟨R2,2,none⟩) hwR _
 have hwf:∀ (y:Nat),w2.heap.size≤y→(((w3.setCell ⟨R2,0,none⟩ (.slice oX RR.1.fibers.length cX)).setCell ⟨R2,1,none⟩ (.int .i64 RR.1.now)).setCell ⟨R2,2,none⟩ (.slice oY RR.1.out.length cY)).heap[y]?=w3.heap[y]?:=fun y hy=>by
  have:=un HRZ
  rw [Below.heap_setCell _ _ _ _ (by simp only; omega),Below.heap_setCell _ _ _ _ (by simp only; omega),Below.heap_setCell _ _ _ _ (by simp only; omega)]
 refine bodyPost_ret (v:=.tuple #[.agg #[.slice oX RR.1.fibers.length cX,.int .i64 RR.1.now,.slice oY RR.1.out.length cY],.int .i64 RR.2.1,.int .i64 RR.2.2]) (by simp [results,Tryz.results18,go_sem,k0,k1,k2]) rfl ?_
 exact ⟨V,by rw [un HVF,un HVO],Own.base (base:=w2.heap.size) ((un HO3).same (fun kk g hkk hg=>hwf g (((un HO3).piece kk hkk).block g hg).1)) (by have:=un HRZ; omega),hkf⟩
theorem after_on (p:List Fn) (vp:Value) (fuel:Nat) (w:World) (hp:ProgAt w vp p) (hpz:Zx p=0) (hsm:Small (Xw p)) (hf:fuel≤500) (hz:Zy p (Xw p)=0) (hok:runOk p fuel (Xw p)) :
  Calls Tryz.prog 23 #[vp,.int .i64 fuel] w (OwnPost (runS p fuel (Xw p)).1 w):=by
 obtain ⟨oa,cp,rfl,_,_⟩:=id hp
 have HP:=hide hp
 have HOK:=hide hok
 have HSM:=hide hsm
 have HZ:=hide hz
 have HPZ:=hide hpz
 clear hp hok hsm hz hpz
 generalize hR0:runS p fuel (Xw p)=RR
 have HRR:=hide hR0
 clear hR0
 go_enter Tryz.func23,Tryz.ntmps23
 go_wp2_with fail
 generalize hw1:w.alloc (.cells #[.slice none 0 0,.int .i64 0,.slice none 0 0] 26)=w1
 have LR:w1.heap[w.heap.size]?=some (.cells #[.slice none 0 0,.int .i64 0,.slice none 0 0] 26):=by rw [← hw1]; exact Zd rfl
 have hk1:Kept w w1:=by rw [← hw1]; exact (Kept.refl w).alloc _
 have hs1:w1.heap.size=w.heap.size + 1:=by rw [← hw1]; simp
 have HB:=hide (beginOf_any p _ w1 ((un HP).kept hk1) (un HPZ))
 have HK1:=hide hk1
 have HLR:=hide LR
 have HSZ:=hide hs1
 clear hw1 hk1 hs1 LR
 refine (un HB).mono ?_
 rintro _ w2 ⟨vb,rfl,hst2,hk2⟩
 obtain ⟨vf,vo,rfl,hF,hO⟩:=id hst2
 obtain ⟨oF,cF,rfl,_,_⟩:=hF
 obtain ⟨oO,cO,rfl,_,_⟩:=hO
 have hrc:=runOf_on p (Xw p) _ _ fuel w2 ((un HP).kept ((un HK1).trans hk2)) hst2 (un HSM) hf (un HZ) (un HOK)
 rw [un HRR] at hrc
 have HC:=hide hrc
 clear hrc
 have HK2:=hide ((un HK1).trans hk2)
 have HLR2:=hide (Zj hk2 (un HLR))
 have HG:=hide hk2.size
 clear hk2 hst2 HB
 go_wp2_with fail
 refine (un HC).mono ?_
 rintro _ w3 ⟨V,rfl,ho3,hk3⟩
 obtain ⟨xsF,hrF,_⟩:=ho3.piece .fibers trivial
 obtain ⟨oX,cX,hVf,_⟩:=Zo hrF
 have hrO:_:=ho3.piece .out trivial
 obtain ⟨oY,cY,hVo,_⟩:=Zo hrO
 rw [hVf,hVo]
 have LR3:=Zj hk3 (un HLR2)
 have HVF:=hide hVf
 have HVO:=hide hVo
 have HO3:=hide ho3
 have HK3:=hide ((un HK2).trans hk3)
 have HG3:=hide hk3.size
 clear hrF hrO hVf hVo HC hk3
 go_upto_region 2 with fail
 generalize hw4:w3.alloc (.cells #[.slice oX RR.1.fibers.length cX,.int .i64 RR.1.now,.slice oY RR.1.out.length cY] 26)=w4
 have hk4:Kept w3 w4:=by rw [← hw4]; exact (Kept.refl w3).alloc _
 have hB:w4.heap[w3.heap.size]?=some (.cells #[.slice oX RR.1.fibers.length cX,.int .i64 RR.1.now,.slice oY RR.1.out.length cY] 26):=by rw [← hw4]; exact Zd rfl
 have LR4:=Zj hk4 LR3
 have HO4:=hide (show Own w2.heap.size w4 V RR.1 from (un HO3).same (fun kk g hkk hg=>hk4.block g (((un HO3).piece kk hkk).block g hg).2))
 have HK4:=hide ((un HK3).trans hk4)
 generalize hR2:w.heap.size=R2 at *
 have r0:=Zb LR4 0
 have r1:=Zb LR4 1
 have r2:=Zb LR4 2
 have f0:=Zi LR4 0
 have f1:=Zi LR4 1
 have f2:=Zi LR4 2
 have b0:=Zb hB 0
 have b1:=Zb hB 1
 have b2:=Zb hB 2
 have HLZ:=hide (lay3 (x:=.slice oX RR.1.fibers.length cX) (y:=.int .i64 RR.1.now) (z:=.slice oY RR.1.out.length cY) LR4)
 have HRZ:Hid (w.heap.size=R2∧w2.heap.size ≥ w.heap.size + 1):=hide ⟨hR2,by have:=un HG; have:=un HSZ; omega⟩
 clear hw4 hk4 hB LR4 LR3 hR2 HO3 HK3 ho3
 go_wp2_with fail
 have k0:=Zb (un HLZ) 0
 have k1:=Zb (un HLZ) 1
 have k2:=Zb (un HLZ) 2
 have hwR:w.heap.size≤R2:=by have:=un HRZ; omega
 have hkf:Kept w (((w4.setCell ⟨R2,0,none⟩ (.slice oX RR.1.fibers.length cX)).setCell ⟨R2,1,none⟩ (.int .i64 RR.1.now)).setCell ⟨R2,2,none⟩ (.slice oY RR.1.out.length cY)):=(((un HK4).setCell (p:=⟨R2,0,none⟩) hwR _).setCell (p:=⟨R2,1,none⟩) hwR _).setCell (p:=⟨R2,2,none⟩) hwR _
 have hwf:∀ (y:Nat),w2.heap.size≤y→(((w4.setCell ⟨R2,0,none⟩ (.slice oX RR.1.fibers.length cX)).setCell ⟨R2,1,none⟩ (.int .i64 RR.1.now)).setCell ⟨R2,2,none⟩ (.slice oY RR.1.out.length cY)).heap[y]?=w4.heap[y]?:=fun y hy=>by
  have:=un HRZ
  rw [Below.heap_setCell _ _ _ _ (by simp only; omega),Below.heap_setCell _ _ _ _ (by simp only; omega),Below.heap_setCell _ _ _ _ (by simp only; omega)]
 refine bodyPost_ret (v:=.agg #[.slice oX RR.1.fibers.length cX,.int .i64 RR.1.now,.slice oY RR.1.out.length cY]) (by simp [results,Tryz.results23,go_sem,k0,k1,k2]) rfl ?_
 exact ⟨V,by rw [un HVF,un HVO],Own.base (base:=w2.heap.size) ((un HO4).same (fun kk g hkk hg=>hwf g (((un HO4).piece kk hkk).block g hg).1)) (by have:=un HRZ; omega),hkf⟩
theorem cnt_right:Zx cntL=0:=by decide +kernel
theorem cnt_small:Small (Xw cntL):=by unfold Small; decide +kernel
theorem cnt_begin:Zy cntL (Xw cntL)=0:=by decide +kernel
end Go.Proofs.YtblihfpigjiahaaGreatDoor
namespace Go.Proofs.YtblihfpigjiahaaGreatDoor
open Go.RowKit Go.ChangeShapes Go.WideShapes Go.ChangeAt
theorem own:ownKnob Tryz.prog.godebug=none:=by kernel_rfl
theorem laidOut:laidOutB Tryz.prog=true:=by kernel_rfl
theorem Jt:Tryz.prog.cellsOf 3=1:=by kernel_rfl
theorem reach_eq:reachBytes=140737488351232:=rfl
section
variable {H:Type} {enc:TypeId × Value→H} {w:World} {base:Nat} {spare:Nat→Bool} {held:Bool}
theorem spot_none {a:Addr} {v:Value} (h:w.cell? a=some v):a.spot=none:=by
 unfold World.cell? at h
 split at h
 ·split at h
  ·cases h
  ·rename_i hs; simpa using hs
 ·cases h
theorem Ju {a:Addr} (h:a.spot=none) (n:Nat):a.add n=⟨a.block,a.off + n,none⟩:=by
 unfold Addr.add
 split
 ·rename_i e; subst e; cases a; simp_all
 ·rfl
theorem weightsAll_mem {P:Program} {e:TypeId}:∀ {l:List (DataW H)} {d:DataW H},d∈l→∀ n∈d.weights P e,n∈DataW.weightsAll P e l
 | d' :: r,d,hd,n,hn=>by
  simp only [DataW.weightsAll,List.mem_append]
  rcases List.mem_cons.1 hd with rfl | h
  ·exact Or.inl hn
  ·exact Or.inr (weightsAll_mem h n hn)
end
theorem trodAll_below {H:Type} {enc:TypeId × Value→H} {W W':World} (hb:Kept W W'):∀ {ts:List TypeId} {vs:List Value} {ds:List (DataW H)} {ps:List MemPlace},(∀ t,t∈ts→Tryz.prog.readableRec t=true∧t < Tryz.prog.types.size) →
  DataW.TrodAll enc Tryz.prog W 0 (fun _=>true) true ts vs ds ps→(∀ x,x∈ps→x.block < W.heap.size)→DataW.TrodAll enc Tryz.prog W' 0 (fun b=>decide (b < W.heap.size)) true ts vs ds ps
 | [],vs,ds,ps,_,h,_=>by
  obtain ⟨rfl,rfl,rfl⟩:=trodAll_nil h
  exact trodAll_mk0
 | t :: ts,vs,ds,ps,hr,h,hl=>by
  obtain ⟨v,vs',d,ds',p,q,rfl,rfl,rfl,h0,h1⟩:=trodAll_cons h
  obtain ⟨r1,r2⟩:=hr t (by simp)
  exact trodAll_cons_mk (Below.trod laidOut r1 r2 h0 hb (fun x hx=>hl x (by simp [hx]))) (trodAll_below hb (fun t ht=>hr t (by simp [ht])) h1 (fun x hx=>hl x (by simp [hx])))
end Go.Proofs.YtblihfpigjiahaaGreatDoor
namespace Go.Proofs.YtblihfpigjiahaaGreatDoor
open Go.RowKit Go.ChangeShapes Go.WideShapes Go.ChangeAt
theorem cellsOp:Tryz.prog.cellsOf 66=2:=by kernel_rfl
theorem cellsOps:Tryz.prog.cellsOf 68=1:=by kernel_rfl
theorem cellsFunc:Tryz.prog.cellsOf 70=3:=by kernel_rfl
theorem cellsKind:Tryz.prog.cellsOf 141=3:=by kernel_rfl
theorem bytesOp:Tryz.prog.bytesOf 66=16:=by kernel_rfl
theorem bytesFunc:Tryz.prog.bytesOf 70=40:=by kernel_rfl
theorem typeOp:∃ f0 f1:Field,Tryz.prog.underlying 66=some (.struct #[f0,f1])∧f0.type=3∧f0.offset=0∧f1.type=3∧f1.offset=1:=⟨_,_,Tryz.underlying66,rfl,rfl,rfl,rfl⟩
theorem typeFunc:∃ f0 f1 f2:Field,Tryz.prog.underlying 70=some (.struct #[f0,f1,f2])∧f0.type=3∧f0.offset=0∧f1.type=3∧f1.offset=1∧f2.type=68∧f2.offset=2:=⟨_,_,_,Tryz.underlying70,rfl,rfl,rfl,rfl,rfl,rfl⟩
theorem typeKind:∃ f0 f1 f2:Field,Tryz.prog.underlying 141=some (.struct #[f0,f1,f2])∧f0.type=3∧f0.offset=0∧f1.type=3∧f1.offset=1∧f2.type=3∧f2.offset=2:=⟨_,_,_,Tryz.underlying141,rfl,rfl,rfl,rfl,rfl,rfl⟩
section
variable {H:Type} {enc:TypeId × Value→H} {w:World} {base:Nat} {spare:Nat→Bool} {held:Bool}
theorem trod_op {fuel:Nat} {cs:List Value} {x:DataW H × List MemPlace} (h:DataW.trod enc Tryz.prog w base spare held fuel 66 cs=some x) :
  ∃ k a:Int,cs=[.int .i64 k,.int .i64 a]∧x=(.agg [.lit (.int .i64 k),.lit (.int .i64 a)],[])∧(Lit.int .i64 k).wf=true∧(Lit.int .i64 a).wf=true:=by
 obtain ⟨f0,f1,hu,t0,o0,t1,o1⟩:=typeOp
 obtain ⟨y0,y1,n,hx,hl,h0,h1⟩:=trod_struct2 hu h
 rw [t0,o0,Jt] at h0
 rw [t1,o1,Jt] at h1
 obtain ⟨k,e0,r0,w0⟩:=DataW.trod_int Tryz.underlying3 h0
 obtain ⟨a,e1,r1,w1⟩:=DataW.trod_int Tryz.underlying3 h1
 rw [cellsOp] at hl
 match cs,hl with
 | [c0,c1],_ =>
  simp at e0 e1
  subst e0 e1
  subst r0 r1
  exact ⟨k,a,rfl,by simpa using hx,w0,w1⟩
theorem open_code {fuel:Nat} {v:Value} {x:DataW H × List MemPlace} (h:DataW.trod enc Tryz.prog w base spare held fuel 68 [v]=some x) (hw:∀ n,n∈x.1.weights Tryz.prog 68→n≤reachBytes):∃ c,CodeAt w v c:=by
 rcases Deep.open_slice Tryz.underlying68 h with ⟨e,_⟩ | ⟨a,len,cap,m,n,D,Pl,e,_,hlc,_,hm,hx,hi⟩
 ·simp at e
  subst e
  exact ⟨[],none,0,rfl,by simp,fun i x h=>by simp at h⟩
 ·simp at e
  subst e
  have hlm:len≤m:=by rw [hm]; split <;> omega
  have hlen:len * 16≤140737488351232:=by
   have:=hw ((((List.range len).map D).length + ((List.range (m - len)).map fun j=>D (len + j)).length) * Tryz.prog.bytesOf 66) (by rw [hx]; simp [DataW.weights,Tryz.underlying68])
   rw [bytesOp,reach_eq] at this
   simp at this
   omega
  have hall:∀ i,i < len→∃ y:Int × Int,w.cell? (a.add (i * 2))=some (.int .i64 y.1)∧w.cell? (a.add (i * 2 + 1))=some (.int .i64 y.2):=by
   intro i hil
   obtain ⟨cs',hc,ht⟩:=hi i (by omega)
   rw [cellsOp] at hc
   obtain ⟨_,_,hcell⟩:=World.cells?_some hc
   obtain ⟨k,av,rfl,_⟩:=trod_op ht
   refine ⟨(k,av),?_,?_⟩
   ·have:=hcell 0 (by omega); rw [Deep.add_add] at this; simpa using this
   ·have:=hcell 1 (by omega); rw [Deep.add_add] at this; simpa using this
  obtain ⟨g,hg⟩:=Deep.choose_lt hall
  refine ⟨(List.range len).map g,some a,cap,by simp,by simp; omega,fun i y hy=>?_⟩
  rw [List.getElem?_map,Option.map_eq_some_iff] at hy
  obtain ⟨j,hj,rfl⟩:=hy
  have hjl:i < len:=by simpa using (List.getElem?_eq_some_iff.1 hj).1
  obtain rfl:i=j:=by simpa [hjl] using hj
  have hs:a.spot=none:=by
   have:=(hg 0 (by omega)).1
   simp only [Nat.zero_mul] at this
   exact spot_none (by simpa [Addr.add] using this)
  refine ⟨a.block,a.off,by cases a; simp_all,?_,?_⟩
  ·have:=(hg i hjl).1; rwa [Ju hs] at this
  ·have:=(hg i hjl).2; rwa [Ju hs,← Nat.add_assoc] at this
theorem open_prog {fuel:Nat} {v:Value} {x:DataW H × List MemPlace} (h:DataW.trod enc Tryz.prog w base spare held fuel 22 [v]=some x) (hw:∀ n,n∈x.1.weights Tryz.prog 22→n≤reachBytes):∃ p,ProgAt w v p:=by
 rcases Deep.open_slice Tryz.underlying22 h with ⟨e,_⟩ | ⟨a,len,cap,m,n,D,Pl,e,_,hlc,_,hm,hx,hi⟩
 ·simp at e
  subst e
  exact ⟨[],none,0,rfl,by simp,fun i x h=>by simp at h⟩
 ·simp at e
  subst e
  have hlm:len≤m:=by rw [hm]; split <;> omega
  have hlen:len * 40≤140737488351232:=by
   have:=hw ((((List.range len).map D).length + ((List.range (m - len)).map fun j=>D (len + j)).length) * Tryz.prog.bytesOf 70) (by rw [hx]; simp [DataW.weights,Tryz.underlying22])
   rw [bytesFunc,reach_eq] at this
   simp at this
   omega
  have hall:∀ i,i < len→∃ y:Fn × Value,w.cell? (a.add (i * 3))=some (.int .i64 y.1.args)∧w.cell? (a.add (i * 3 + 1))=some (.int .i64 y.1.locals)∧w.cell? (a.add (i * 3 + 2))=some y.2∧CodeAt w y.2 y.1.code:=by
   intro i hil
   obtain ⟨cs',hc,ht⟩:=hi i (by omega)
   rw [cellsFunc] at hc
   obtain ⟨_,hcl,hcell⟩:=World.cells?_some hc
   obtain ⟨f0,f1,f2,hu,t0,o0,t1,o1,t2,o2⟩:=typeFunc
   obtain ⟨y0,y1,y2,n',hy,_,g0,g1,g2⟩:=Deep.trod_struct3 hu ht
   rw [t0,o0,Jt] at g0
   rw [t1,o1,Jt] at g1
   rw [t2,o2,cellsOps] at g2
   obtain ⟨ar,e0,r0,_⟩:=DataW.trod_int Tryz.underlying3 g0
   obtain ⟨lo,e1,r1,_⟩:=DataW.trod_int Tryz.underlying3 g1
   match cs',hcl with
   | [c0,c1,c2],_ =>
    simp at e0 e1
    subst e0 e1
    simp only [List.drop,List.take] at g2
    have hD:D i=.agg [y0.1,y1.1,y2.1]:=congrArg Prod.fst hy
    obtain ⟨c,hcode⟩:=open_code g2 (fun q hq=>hw q (by
     rw [hx]
     simp only [DataW.weights,Tryz.underlying22,List.mem_cons,List.mem_append]
     refine Or.inr (Or.inl (weightsAll_mem (d:=D i) (List.mem_map.2 ⟨i,by simpa using hil,rfl⟩) q ?_))
     rw [hD]
     simp only [DataW.weights,hu,DataW.weightsEach,List.map_cons,List.map_nil,t0,t1,t2,List.mem_append]
     exact Or.inr (Or.inr (Or.inl hq))))
    refine ⟨(⟨ar,lo,c⟩,c2),?_,?_,?_,hcode⟩
    ·have:=hcell 0 (by omega); rw [Deep.add_add] at this; simpa using this
    ·have:=hcell 1 (by omega); rw [Deep.add_add] at this; simpa using this
    ·have:=hcell 2 (by omega); rw [Deep.add_add] at this; simpa using this
  have:Inhabited (Fn × Value):=⟨(Fn.zero,.nilIface)⟩
  obtain ⟨g,hg⟩:=Deep.choose_lt hall
  refine ⟨(List.range len).map fun i=>(g i).1,some a,cap,by simp,by simp; omega,fun i y hy=>?_⟩
  rw [List.getElem?_map,Option.map_eq_some_iff] at hy
  obtain ⟨j,hj,rfl⟩:=hy
  have hjl:i < len:=by simpa using (List.getElem?_eq_some_iff.1 hj).1
  obtain rfl:i=j:=by simpa [hjl] using hj
  have hs:a.spot=none:=by
   have:=(hg 0 (by omega)).1
   simp only [Nat.zero_mul] at this
   exact spot_none (by simpa [Addr.add] using this)
  obtain ⟨k0,k1,k2,k3⟩:=hg i hjl
  refine ⟨a.block,a.off,(g i).2,by cases a; simp_all,?_,?_,?_,k3⟩
  ·rwa [Ju hs] at k0
  ·rwa [Ju hs,← Nat.add_assoc] at k1
  ·rwa [Ju hs,← Nat.add_assoc] at k2
end
theorem gKinds : Tryz.prog.globalNamed "glebe/op.kinds" = some 0 := by kernel_rfl
theorem gKindsType:(Tryz.prog.globals[0]?).map (·.type)=some 142:=by kernel_rfl
theorem laid_at {H:Type} (i:Nat) (h:i < 17):([.agg [.lit (.int .i64 0),.lit (.int .i64 1),.lit (.int .i64 1)],.agg [.lit (.int .i64 1),.lit (.int .i64 0),.lit (.int .i64 0)],.agg [.lit (.int .i64 0),.lit (.int .i64 1),.lit (.int .i64 2)],.agg [.lit (.int .i64 1),.lit (.int .i64 0),.lit (.int .i64 2)],.agg [.lit (.int .i64 2),.lit (.int .i64 1),.lit (.int .i64 0)],.agg [.lit (.int .i64 2),.lit (.int .i64 1),.lit (.int .i64 0)],.agg [.lit (.int .i64 2),.lit (.int .i64 1),.lit (.int .i64 0)],.agg [.lit (.int .i64 2),.lit (.int .i64 1),.lit (.int .i64 0)],.agg [.lit (.int .i64 2),.lit (.int .i64 1),.lit (.int .i64 0)],.agg [.lit (.int .i64 0),.lit (.int .i64 0),.lit (.int .i64 3)],.agg [.lit (.int .i64 1),.lit (.int .i64 0),.lit (.int .i64 3)],.agg [.lit (.int .i64 0),.lit (.int .i64 1),.lit (.int .i64 4)],.agg [.lit (.int .i64 1),.lit (.int .i64 0),.lit (.int .i64 0)],.agg [.lit (.int .i64 0),.lit (.int .i64 1),.lit (.int .i64 4)],.agg [.lit (.int .i64 2),.lit (.int .i64 1),.lit (.int .i64 0)],.agg [.lit (.int .i64 1),.lit (.int .i64 1),.lit (.int .i64 0)],.agg [.lit (.int .i64 1),.lit (.int .i64 0),.lit (.int .i64 0)]]:List (DataW H))[i]?=some (.agg [.lit (.int .i64 (tk i)),.lit (.int .i64 (lv i)),.lit (.int .i64 (opd i))]):=by
 have:i=0∨i=1∨i=2∨i=3∨i=4∨i=5∨i=6∨i=7∨i=8∨i=9∨i=10∨i=11∨i=12∨i=13∨i=14∨i=15∨i=16:=by omega
 rcases this with rfl | rfl | rfl | rfl | rfl | rfl | rfl | rfl | rfl | rfl | rfl | rfl | rfl | rfl | rfl | rfl | rfl <;> rfl
theorem kinds_of_laid {W : World} (h : laidMetH Tryz.prog [("glebe/op.kinds", Rows.laid_glebe_op_kinds)] W) : KindsAt W := by
 obtain ⟨ps, ⟨g', t', cs, fuel, p, q, hg', ht', hvar, hd, _, _⟩, _⟩ := (h : laidMet Tryz.prog [("glebe/op.kinds", Rows.laid_glebe_op_kinds)] W)
 obtain rfl:=Option.some.inj (gKinds.symm.trans hg')
 obtain rfl:=Option.some.inj (gKindsType.symm.trans ht')
 obtain ⟨xs,m,_,hx,_,hxl,hi⟩:=DataW.trod_array Tryz.underlying142 hd
 have hagg:(Rows.laid_glebe_op_kinds:DataW Unit)=.agg (xs.map (·.1)):=congrArg Prod.fst hx
 have hl:∀ i,i < 17→(xs[i]?).map (·.1)=some (.agg [.lit (.int .i64 (tk i)),.lit (.int .i64 (lv i)),.lit (.int .i64 (opd i))]):=by
  intro i hi17
  rw [← List.getElem?_map,← laid_at i hi17]
  unfold Rows.laid_glebe_op_kinds at hagg
  rw [← DataW.agg.inj hagg]
 have hc:∀ i,i < 17→cs[i * 3]?=some (.int .i64 (tk i))∧cs[i * 3 + 1]?=some (.int .i64 (lv i))∧cs[i * 3 + 2]?=some (.int .i64 (opd i)):=by
  intro i hi17
  have h1:=hi i hi17
  obtain ⟨x,hxi,hx1⟩:=Option.map_eq_some_iff.1 (hl i hi17)
  rw [hxi,cellsKind] at h1
  obtain ⟨f0,f1,f2,hu,t0,o0,t1,o1,t2,o2⟩:=typeKind
  obtain ⟨y0,y1,y2,n',hy,_,g0,g1,g2⟩:=Deep.trod_struct3 hu h1
  rw [t0,o0,Jt] at g0
  rw [t1,o1,Jt] at g1
  rw [t2,o2,Jt] at g2
  obtain ⟨z0,e0,r0,_⟩:=DataW.trod_int Tryz.underlying3 g0
  obtain ⟨z1,e1,r1,_⟩:=DataW.trod_int Tryz.underlying3 g1
  obtain ⟨z2,e2,r2,_⟩:=DataW.trod_int Tryz.underlying3 g2
  rw [hy,r0,r1,r2] at hx1
  simp at hx1
  obtain ⟨rfl,rfl,rfl⟩:=hx1
  refine ⟨?_,?_,?_⟩
  ·have:=congrArg (·[0]?) e0
   simpa [List.getElem?_take,List.getElem?_drop] using this
  ·have:=congrArg (·[0]?) e1
   simpa [List.getElem?_take,List.getElem?_drop,Nat.add_comm,Nat.add_left_comm] using this
  ·have:=congrArg (·[0]?) e2
   simpa [List.getElem?_take,List.getElem?_drop,Nat.add_comm,Nat.add_left_comm] using this
 intro k hk
 rw [World.var?_cell gKinds hvar k]
 obtain ⟨h0,h1,h2⟩:=hc (k / 3) (by omega)
 have:k=k / 3 * 3∨k=k / 3 * 3 + 1∨k=k / 3 * 3 + 2:=by omega
 rcases this with e | e | e
 ·rw [e,h0]; unfold tk; rw [← e]
 ·rw [e,h1]; unfold lv; rw [← e]
 ·rw [e,h2]; unfold opd; rw [← e]
end Go.Proofs.YtblihfpigjiahaaGreatDoor
namespace Go.Proofs.YtblihfpigjiahaaGreatDoor
open Go.RowKit Go.ChangeShapes Go.WideShapes Go.ChangeAt
theorem cellsInts:Tryz.prog.cellsOf 24=1:=by kernel_rfl
theorem cellsFrame:Tryz.prog.cellsOf 48=4:=by kernel_rfl
theorem cellsFrames:Tryz.prog.cellsOf 44=1:=by kernel_rfl
theorem cellsFiber:Tryz.prog.cellsOf 46=2:=by kernel_rfl
theorem cellsFibers:Tryz.prog.cellsOf 23=1:=by kernel_rfl
theorem cellsState:Tryz.prog.cellsOf 26=3:=by kernel_rfl
theorem bytesIntT:Tryz.prog.bytesOf 3=8:=by kernel_rfl
theorem bytesFrame:Tryz.prog.bytesOf 48=64:=by kernel_rfl
theorem bytesFiber:Tryz.prog.bytesOf 46=32:=by kernel_rfl
theorem typeFrame:∃ f0 f1 f2 f3:Field,Tryz.prog.underlying 48=some (.struct #[f0,f1,f2,f3])∧f0.type=3∧f0.offset=0∧f1.type=3∧f1.offset=1∧f2.type=24∧f2.offset=2∧f3.type=24∧f3.offset=3:=⟨_,_,_,_,Tryz.underlying48,rfl,rfl,rfl,rfl,rfl,rfl,rfl,rfl⟩
theorem typeFiber:∃ f0 f1:Field,Tryz.prog.underlying 46=some (.struct #[f0,f1])∧f0.type=44∧f0.offset=0∧f1.type=3∧f1.offset=1:=⟨_,_,Tryz.underlying46,rfl,rfl,rfl,rfl⟩
theorem typeState:∃ f0 f1 f2:Field,Tryz.prog.underlying 26=some (.struct #[f0,f1,f2])∧f0.type=23∧f0.offset=0∧f1.type=3∧f1.offset=1∧f2.type=24∧f2.offset=2:=⟨_,_,_,Tryz.underlying26,rfl,rfl,rfl,rfl,rfl,rfl⟩
section
variable {H:Type} {enc:TypeId × Value→H} {w:World} {base:Nat} {spare:Nat→Bool} {held:Bool}
theorem open_ints {fuel:Nat} {v:Value} {x:DataW H × List MemPlace} (h:DataW.trod enc Tryz.prog w base spare held fuel 24 [v]=some x) (hw:∀ n,n∈x.1.weights Tryz.prog 24→n≤reachBytes):∃ l,IntsW w v l:=by
 rcases Deep.open_slice Tryz.underlying24 h with ⟨e,_⟩ | ⟨a,len,cap,m,n,D,Pl,e,_,hlc,_,hm,hx,hi⟩
 ·simp at e
  subst e
  exact ⟨[],IntsW.nil _⟩
 ·simp at e
  subst e
  have hlm:len≤m:=by rw [hm]; split <;> omega
  have hlen:len * 8≤140737488351232:=by
   have:=hw ((((List.range len).map D).length + ((List.range (m - len)).map fun j=>D (len + j)).length) * Tryz.prog.bytesOf 3) (by rw [hx]; simp [DataW.weights,Tryz.underlying24])
   rw [bytesIntT,reach_eq] at this
   simp at this
   omega
  have hall:∀ i,i < len→∃ y:Int,w.cell? (a.add (i * 1))=some (.int .i64 y):=by
   intro i hil
   obtain ⟨cs',hc,ht⟩:=hi i (by omega)
   rw [Jt] at hc
   obtain ⟨_,hcl,hcell⟩:=World.cells?_some hc
   obtain ⟨k,e0,_,_⟩:=DataW.trod_int Tryz.underlying3 ht
   subst e0
   refine ⟨k,?_⟩
   have:=hcell 0 (by omega); rw [Deep.add_add] at this; simpa using this
  obtain ⟨g,hg⟩:=Deep.choose_lt hall
  refine ⟨(List.range len).map g,some a,cap,by simp,by simp; omega,fun i y hy=>?_⟩
  rw [List.getElem?_map,Option.map_eq_some_iff] at hy
  obtain ⟨j,hj,rfl⟩:=hy
  have hjl:i < len:=by simpa using (List.getElem?_eq_some_iff.1 hj).1
  obtain rfl:i=j:=by simpa [hjl] using hj
  have hs:a.spot=none:=by
   have:=hg 0 (by omega)
   exact spot_none (by simpa [Addr.add] using this)
  refine ⟨a.block,a.off,by cases a; simp_all,?_⟩
  have:=hg i hjl; rwa [Ju hs,Nat.mul_one] at this
theorem open_frames {fuel:Nat} {v:Value} {x:DataW H × List MemPlace} (h:DataW.trod enc Tryz.prog w base spare held fuel 44 [v]=some x) (hw:∀ n,n∈x.1.weights Tryz.prog 44→n≤reachBytes):∃ l,FramesAt w v l:=by
 rcases Deep.open_slice Tryz.underlying44 h with ⟨e,_⟩ | ⟨a,len,cap,m,n,D,Pl,e,_,hlc,_,hm,hx,hi⟩
 ·simp at e
  subst e
  exact ⟨[],FramesAt.nil _⟩
 ·simp at e
  subst e
  have hlm:len≤m:=by rw [hm]; split <;> omega
  have hlen:len * 64≤140737488351232:=by
   have:=hw ((((List.range len).map D).length + ((List.range (m - len)).map fun j=>D (len + j)).length) * Tryz.prog.bytesOf 48) (by rw [hx]; simp [DataW.weights,Tryz.underlying44])
   rw [bytesFrame,reach_eq] at this
   simp at this
   omega
  have hall:∀ i,i < len→∃ y:Fr × Value × Value,w.cell? (a.add (i * 4))=some (.int .i64 y.1.fn)∧w.cell? (a.add (i * 4 + 1))=some (.int .i64 y.1.at_)∧w.cell? (a.add (i * 4 + 2))=some y.2.1∧w.cell? (a.add (i * 4 + 3))=some y.2.2∧IntsW w y.2.1 y.1.locals∧IntsW w y.2.2 y.1.stack:=by
   intro i hil
   obtain ⟨cs',hc,ht⟩:=hi i (by omega)
   rw [cellsFrame] at hc
   obtain ⟨_,hcl,hcell⟩:=World.cells?_some hc
   obtain ⟨f0,f1,f2,f3,hu,t0,o0,t1,o1,t2,o2,t3,o3⟩:=typeFrame
   obtain ⟨y0,y1,y2,y3,n',hy,_,g0,g1,g2,g3⟩:=Joins.trod_struct4 hu ht
   rw [t0,o0,Jt] at g0
   rw [t1,o1,Jt] at g1
   rw [t2,o2,cellsInts] at g2
   rw [t3,o3,cellsInts] at g3
   obtain ⟨fn,e0,r0,_⟩:=DataW.trod_int Tryz.underlying3 g0
   obtain ⟨at_,e1,r1,_⟩:=DataW.trod_int Tryz.underlying3 g1
   match cs',hcl with
   | [c0,c1,c2,c3],_ =>
    simp at e0 e1
    subst e0 e1
    simp only [List.drop,List.take] at g2 g3
    have hD:D i=.agg [y0.1,y1.1,y2.1,y3.1]:=congrArg Prod.fst hy
    have hmem:∀ q,(q∈y2.1.weights Tryz.prog 24∨q∈y3.1.weights Tryz.prog 24)→q≤reachBytes:=fun q hq=>hw q (by
     rw [hx]
     simp only [DataW.weights,Tryz.underlying44,List.mem_cons,List.mem_append]
     refine Or.inr (Or.inl (weightsAll_mem (d:=D i) (List.mem_map.2 ⟨i,by simpa using hil,rfl⟩) q ?_))
     rw [hD]
     simp only [DataW.weights,hu,DataW.weightsEach,List.map_cons,List.map_nil,t0,t1,t2,t3,List.mem_append]
     rcases hq with hq | hq
     ·exact Or.inr (Or.inr (Or.inl hq))
     ·exact Or.inr (Or.inr (Or.inr (Or.inl hq))))
    obtain ⟨l2,h2⟩:=open_ints g2 (fun q hq=>hmem q (.inl hq))
    obtain ⟨l3,h3⟩:=open_ints g3 (fun q hq=>hmem q (.inr hq))
    refine ⟨(⟨fn,at_,l2,l3⟩,c2,c3),?_,?_,?_,?_,h2,h3⟩
    ·have:=hcell 0 (by omega); rw [Deep.add_add] at this; simpa using this
    ·have:=hcell 1 (by omega); rw [Deep.add_add] at this; simpa using this
    ·have:=hcell 2 (by omega); rw [Deep.add_add] at this; simpa using this
    ·have:=hcell 3 (by omega); rw [Deep.add_add] at this; simpa using this
  have:Inhabited (Fr × Value × Value):=⟨(Fr.zero,.nilIface,.nilIface)⟩
  obtain ⟨g,hg⟩:=Deep.choose_lt hall
  refine ⟨(List.range len).map fun i=>(g i).1,some a,cap,by simp,⟨by simp; omega,by simpa using hlc⟩,fun i y hy=>?_⟩
  rw [List.getElem?_map,Option.map_eq_some_iff] at hy
  obtain ⟨j,hj,rfl⟩:=hy
  have hjl:i < len:=by simpa using (List.getElem?_eq_some_iff.1 hj).1
  obtain rfl:i=j:=by simpa [hjl] using hj
  have hs:a.spot=none:=by
   have:=(hg 0 (by omega)).1
   simp only [Nat.zero_mul] at this
   exact spot_none (by simpa [Addr.add] using this)
  obtain ⟨k0,k1,k2,k3,k4,k5⟩:=hg i hjl
  refine ⟨a.block,a.off,(g i).2.1,(g i).2.2,by cases a; simp_all,?_,?_,?_,?_,k4,k5⟩
  ·rwa [Ju hs] at k0
  ·rwa [Ju hs,← Nat.add_assoc] at k1
  ·rwa [Ju hs,← Nat.add_assoc] at k2
  ·rwa [Ju hs,← Nat.add_assoc] at k3
theorem open_fibers {fuel:Nat} {v:Value} {x:DataW H × List MemPlace} (h:DataW.trod enc Tryz.prog w base spare held fuel 23 [v]=some x) (hw:∀ n,n∈x.1.weights Tryz.prog 23→n≤reachBytes):∃ l,FibersAt w v l:=by
 rcases Deep.open_slice Tryz.underlying23 h with ⟨e,_⟩ | ⟨a,len,cap,m,n,D,Pl,e,_,hlc,_,hm,hx,hi⟩
 ·simp at e
  subst e
  exact ⟨[],FibersAt.nil _⟩
 ·simp at e
  subst e
  have hlm:len≤m:=by rw [hm]; split <;> omega
  have hlen:len * 32≤140737488351232:=by
   have:=hw ((((List.range len).map D).length + ((List.range (m - len)).map fun j=>D (len + j)).length) * Tryz.prog.bytesOf 46) (by rw [hx]; simp [DataW.weights,Tryz.underlying23])
   rw [bytesFiber,reach_eq] at this
   simp at this
   omega
  have hall:∀ i,i < len→∃ y:Fb × Value,w.cell? (a.add (i * 2))=some y.2∧w.cell? (a.add (i * 2 + 1))=some (.int .i64 y.1.caller)∧FramesAt w y.2 y.1.frames:=by
   intro i hil
   obtain ⟨cs',hc,ht⟩:=hi i (by omega)
   rw [cellsFiber] at hc
   obtain ⟨_,hcl,hcell⟩:=World.cells?_some hc
   obtain ⟨f0,f1,hu,t0,o0,t1,o1⟩:=typeFiber
   obtain ⟨y0,y1,n',hy,_,g0,g1⟩:=trod_struct2 hu ht
   rw [t0,o0,cellsFrames] at g0
   rw [t1,o1,Jt] at g1
   obtain ⟨ca,e1,r1,_⟩:=DataW.trod_int Tryz.underlying3 g1
   match cs',hcl with
   | [c0,c1],_ =>
    simp at e1
    subst e1
    simp only [List.drop,List.take] at g0
    have hD:D i=.agg [y0.1,y1.1]:=congrArg Prod.fst hy
    obtain ⟨l0,h0⟩:=open_frames g0 (fun q hq=>hw q (by
     rw [hx]
     simp only [DataW.weights,Tryz.underlying23,List.mem_cons,List.mem_append]
     refine Or.inr (Or.inl (weightsAll_mem (d:=D i) (List.mem_map.2 ⟨i,by simpa using hil,rfl⟩) q ?_))
     rw [hD]
     simp only [DataW.weights,hu,DataW.weightsEach,List.map_cons,List.map_nil,t0,t1,List.mem_append]
     exact Or.inl hq))
    refine ⟨(⟨l0,ca⟩,c0),?_,?_,h0⟩
    ·have:=hcell 0 (by omega); rw [Deep.add_add] at this; simpa using this
    ·have:=hcell 1 (by omega); rw [Deep.add_add] at this; simpa using this
  have:Inhabited (Fb × Value):=⟨(Fb.zero,.nilIface)⟩
  obtain ⟨g,hg⟩:=Deep.choose_lt hall
  refine ⟨(List.range len).map fun i=>(g i).1,some a,cap,by simp,by simp; omega,fun i y hy=>?_⟩
  rw [List.getElem?_map,Option.map_eq_some_iff] at hy
  obtain ⟨j,hj,rfl⟩:=hy
  have hjl:i < len:=by simpa using (List.getElem?_eq_some_iff.1 hj).1
  obtain rfl:i=j:=by simpa [hjl] using hj
  have hs:a.spot=none:=by
   have:=(hg 0 (by omega)).1
   simp only [Nat.zero_mul] at this
   exact spot_none (by simpa [Addr.add] using this)
  obtain ⟨k0,k1,k2⟩:=hg i hjl
  refine ⟨a.block,a.off,(g i).2,by cases a; simp_all,?_,?_,k2⟩
  ·rwa [Ju hs] at k0
  ·rwa [Ju hs,← Nat.add_assoc] at k1
theorem open_state {fuel:Nat} {cs:List Value} {x:DataW H × List MemPlace} (h:DataW.trod enc Tryz.prog w base spare held fuel 26 cs=some x) (hw:∀ n,n∈x.1.weights Tryz.prog 26→n≤reachBytes):∃ s,StAt w (.agg cs.toArray) s:=by
 obtain ⟨f0,f1,f2,hu,t0,o0,t1,o1,t2,o2⟩:=typeState
 obtain ⟨y0,y1,y2,n',hy,hl,g0,g1,g2⟩:=Deep.trod_struct3 hu h
 rw [t0,o0,cellsFibers] at g0
 rw [t1,o1,Jt] at g1
 rw [t2,o2,cellsInts] at g2
 obtain ⟨nw,e1,r1,_⟩:=DataW.trod_int Tryz.underlying3 g1
 rw [cellsState] at hl
 match cs,hl with
 | [c0,c1,c2],_ =>
  simp at e1
  subst e1
  simp only [List.drop,List.take] at g0 g2
  have hD:x.1=.agg [y0.1,y1.1,y2.1]:=congrArg Prod.fst hy
  have hmem:∀ q,(q∈y0.1.weights Tryz.prog 23∨q∈y2.1.weights Tryz.prog 24)→q≤reachBytes:=fun q hq=>hw q (by
   rw [hD]
   simp only [DataW.weights,hu,DataW.weightsEach,List.map_cons,List.map_nil,t0,t1,t2,List.mem_append]
   rcases hq with hq | hq
   ·exact Or.inl hq
   ·exact Or.inr (Or.inr (Or.inl hq)))
  obtain ⟨lf,h0⟩:=open_fibers g0 (fun q hq=>hmem q (.inl hq))
  obtain ⟨lo,h2⟩:=open_ints g2 (fun q hq=>hmem q (.inr hq))
  exact ⟨⟨lf,nw,lo⟩,c0,c2,rfl,h0,h2⟩
end
end Go.Proofs.YtblihfpigjiahaaGreatDoor
