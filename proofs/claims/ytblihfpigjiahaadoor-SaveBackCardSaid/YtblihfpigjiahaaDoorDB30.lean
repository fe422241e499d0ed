/- StepQ -/
import Derived.Test.YtblihfpigjiahaaDoorDB28
import Derived.Test.YtblihfpigjiahaaDoorDB29
set_option maxRecDepth 100000
set_option maxHeartbeats 8000000
namespace Go.Proofs.YtblihfpigjiahaaDoor
open Go.RowKit
theorem Zon (N:Nat) (w:World):Own N w (fun _=>.slice none 0 0) St.zero:=by
 refine ⟨fun k hk=>?_,fun k k' g hk hk' e e'=>by cases e⟩
 cases k using Key.by with
 | fibers=>exact ⟨[],World.ownsRow_nil _ _ _ _,fun i hi=>by simp [St.zero] at hi⟩
 | out=>exact World.ownsRow_nil _ _ _ _
 | frames t=>simp [live,St.zero] at hk
 | locals t q=>simp [live,St.zero] at hk
 | stack t q=>simp [live,St.zero] at hk
def Zre (r:St × Int) (w:World) (e:Ending) (w':World):Prop:=∃ V,e=.returned (.tuple #[.agg #[V .fibers,.int .i64 r.1.now,V .out],.int .i64 r.2])∧Own w.heap.size w' V r.1∧Za w w'
theorem Zty (p:List Fn) (s:St) (vp v:Value) (w:World) (hp:Zv w vp p) (hs:Xj w v s) (hsm:Yc s) (hok:OkS p s) :
  Calls Tryd.prog 86 #[vp,v] w (Zre (Xf p s) w):=by
 obtain ⟨oa,cp,rfl,_,_⟩:=id hp
 have hpos:¬ s.now<0:=by have:=hok.1.1;omega
 have HP:=Zb hp
 have HS:=Zb hs
 obtain ⟨vf,vo,rfl,hF,hO⟩:=hs
 obtain ⟨oF,cF,rfl,_,_⟩:=hF
 obtain ⟨oO,cO,rfl,_,_⟩:=hO
 have HOK:=Zb hok
 have HSM:=Zb hsm
 clear hp hok hsm
 generalize hR:Xf p s=R
 have HR:=Zb hR
 clear hR
 go_enter Tryd.func86,Tryd.ntmps86
 go_wp2_with fail
 generalize hw1:(w.alloc (.cells #[.slice oF s.fibers.length cF,.int .i64 s.now,.slice oO s.out.length cO] 26)).alloc (.cells #[.slice none 0 0,.int .i64 0,.slice none 0 0] 26)=w1
 have LR:w1.heap[w.heap.size+1]?=some (.cells #[.slice none 0 0,.int .i64 0,.slice none 0 0] 26):=by rw [← hw1];exact Zj (by simp)
 have hk1:Za w w1:=by rw [← hw1];exact ((Za.refl w).alloc _).alloc _
 have hs1:w1.heap.size=w.heap.size+2:=by rw [← hw1];simp
 have HC:=Zb (Zje s _ w1 ((un HS).kept hk1) (un HSM))
 have HK1:=Zb hk1
 have HS1:=Zb hs1
 have HLR:=Zb LR
 clear hw1 hk1 hs1 LR
 generalize hR2:w.heap.size+1=R2 at *
 have HR2:=Zb hR2
 clear hR2
 refine (un HC).mono ?_
 rintro _ w2 ⟨V,rfl,ho2,hk2⟩
 obtain ⟨xsF,hrF,_⟩:=ho2.piece .fibers trivial
 obtain ⟨oV,cV,hVf,_⟩:=Xl hrF
 have hrO:_:=ho2.piece .out trivial
 obtain ⟨oW,cW,hVo,_⟩:=Xl hrO
 have hov:Zi w1.heap.size (w2.alloc (.cells #[.slice oV s.fibers.length cV,.int .i64 s.now,.slice oW s.out.length cW] 26)) w2.heap.size V s:=by
  refine ⟨?_,ho2.alloc _,ho2.new_off (.inl (Nat.le_refl _)),hk2.size⟩
  rw [hVf,hVo]
  exact Zj rfl
 have hk3:Za w1 (w2.alloc (.cells #[.slice oV s.fibers.length cV,.int .i64 s.now,.slice oW s.out.length cW] 26)):=hk2.alloc _
 have HD:=Zb (Xab w1.heap.size w2.heap.size V p s (.slice oa p.length cp) _ w hov (un HP) ((un HK1).trans hk3) (un HK1).size (un HOK))
 rw [hVf,hVo]
 have HK3:=Zb hk3
 have HD4:Hid (w1.heap.size≤w2.heap.size∧True):=Zb ⟨hk2.size,trivial⟩
 clear hov hk3 ho2 hk2 hrF hrO hVf hVo HC
 go_wp2_with fail
 refine (un HD).mono ?_
 rw [un HR]
 rintro _ w4 ⟨rfl,hb4,hov4⟩
 have HK4:Hid (Za w1 w4):=Zb (Below.trans (un HK3) hb4)
 have LR4:=Zq (un HK4) (un HLR)
 have r0:=Zd LR4 0
 have r1:=Zd LR4 1
 have r2:=Zd LR4 2
 have f0:=Zk LR4 0
 have f1:=Zk LR4 1
 have f2:=Zk LR4 2
 have HOV4:=Zb hov4
 generalize hbs:w2.heap.size=bs at *
 have hbR:¬ bs=R2:=by have:=(un HD4).1;have:=un HS1;have:=un HR2;omega
 have hbR':¬ R2=bs:=fun e=>hbR e.symm
 clear hb4 hov4 hbs HD HK3
 by_cases he:R.2=0
 ·obtain ⟨V4,hv4⟩:=(un HOV4) he
  obtain ⟨xsF,hrF,_⟩:=hv4.own.piece .fibers trivial
  obtain ⟨oX,cX,hVf,_⟩:=Xl hrF
  have hrO:_:=hv4.own.piece .out trivial
  obtain ⟨oY,cY,hVo,_⟩:=Xl hrO
  obtain ⟨d0,d1,d2,_⟩:=hv4.cells
  rw [hVf] at d0
  rw [hVo] at d2
  have HV4:=Zb hv4
  have HVF:=Zb hVf
  have HVO:=Zb hVo
  rw [he]
  have HE:=Zb he
  clear hv4 hrF hrO hVf hVo he
  have LZ:=Wv (x:=.slice oX R.1.fibers.length cX) (y:=.int .i64 R.1.now) (z:=.slice oY R.1.out.length cY) LR4
  have HLZ:=Zb LZ
  clear LZ LR4
  go_wp2_with fail
  have k0:=Zd (un HLZ) 0
  have k1:=Zd (un HLZ) 1
  have k2:=Zd (un HLZ) 2
  have hwf:∀ (y:Nat),w1.heap.size≤y→(((w4.setCell ⟨R2,0,none⟩ (.slice oX R.1.fibers.length cX)).setCell ⟨R2,1,none⟩ (.int .i64 R.1.now)).setCell ⟨R2,2,none⟩ (.slice oY R.1.out.length cY)).heap[y]?=w4.heap[y]?:=fun y hy=>by
   have:=un HS1
   have:=un HR2
   rw [Below.heap_setCell _ _ _ _ (by simp only;omega),Below.heap_setCell _ _ _ _ (by simp only;omega),Below.heap_setCell _ _ _ _ (by simp only;omega)]
  have hkr:Za w w4:=(un HK1).trans (un HK4)
  have hwR:w.heap.size≤R2:=by have:=un HR2;omega
  have hkf:Za w (((w4.setCell ⟨R2,0,none⟩ (.slice oX R.1.fibers.length cX)).setCell ⟨R2,1,none⟩ (.int .i64 R.1.now)).setCell ⟨R2,2,none⟩ (.slice oY R.1.out.length cY)):=((hkr.setCell (p:=⟨R2,0,none⟩) hwR _).setCell (p:=⟨R2,1,none⟩) hwR _).setCell (p:=⟨R2,2,none⟩) hwR _
  refine bodyPost_ret (v:=.tuple #[.agg #[.slice oX R.1.fibers.length cX,.int .i64 R.1.now,.slice oY R.1.out.length cY],.int .i64 0]) (by simp [results,Tryd.results86,go_sem,k0,k1,k2]) rfl ?_
  exact ⟨V4,by rw [un HVF,un HVO,un HE],Own.base (base:=w1.heap.size) ((un HV4).own.same (fun kk g hkk hg=>hwf g (((un HV4).own.piece kk hkk).block g hg).1)) (by have:=un HS1;omega),hkf⟩
 ·have hz:R.1=St.zero:=by rw [← un HR] at he ⊢;exact Zqf he
  have hbe:(R.2 != 0)=true:=bne_iff_ne.2 he
  have HZ:=Zb hz
  clear hz he
  have LZ:=Wv (x:=.slice none 0 0) (y:=.int .i64 0) (z:=.slice none 0 0) LR4
  have HLZ:=Zb LZ
  clear LZ LR4
  go_wp2_with fail
  have k0:=Zd (un HLZ) 0
  have k1:=Zd (un HLZ) 1
  have k2:=Zd (un HLZ) 2
  have hwf:∀ (y:Nat),w1.heap.size≤y→(((w4.setCell ⟨R2,0,none⟩ (.slice none 0 0)).setCell ⟨R2,1,none⟩ (.int .i64 0)).setCell ⟨R2,2,none⟩ (.slice none 0 0)).heap[y]?=w4.heap[y]?:=fun y hy=>by
   have:=un HS1
   have:=un HR2
   rw [Below.heap_setCell _ _ _ _ (by simp only;omega),Below.heap_setCell _ _ _ _ (by simp only;omega),Below.heap_setCell _ _ _ _ (by simp only;omega)]
  have hkr:Za w w4:=(un HK1).trans (un HK4)
  have hwR:w.heap.size≤R2:=by have:=un HR2;omega
  have hkf:Za w (((w4.setCell ⟨R2,0,none⟩ (.slice none 0 0)).setCell ⟨R2,1,none⟩ (.int .i64 0)).setCell ⟨R2,2,none⟩ (.slice none 0 0)):=((hkr.setCell (p:=⟨R2,0,none⟩) hwR _).setCell (p:=⟨R2,1,none⟩) hwR _).setCell (p:=⟨R2,2,none⟩) hwR _
  refine bodyPost_ret (v:=.tuple #[.agg #[.slice none 0 0,.int .i64 0,.slice none 0 0],.int .i64 R.2]) (by simp [results,Tryd.results86,go_sem,k0,k1,k2]) rfl ?_
  exact ⟨fun _=>.slice none 0 0,by rw [un HZ];rfl,by rw [un HZ];exact Zon _ _,hkf⟩
end Go.Proofs.YtblihfpigjiahaaDoor
