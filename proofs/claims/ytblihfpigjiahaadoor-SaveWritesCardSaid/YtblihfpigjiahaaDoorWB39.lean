/- StepQ -/
import Derived.Test.YtblihfpigjiahaaDoorWB37
import Derived.Test.YtblihfpigjiahaaDoorWB38
set_option maxRecDepth 100000
set_option maxHeartbeats 8000000
namespace Go.Proofs.YtblihfpigjiahaaDoor
open Go.RowKit
theorem Zyv (N:Nat) (w:World):Own N w (fun _=>.slice none 0 0) St.zero:=by
 refine ⟨fun k hk=>?_,fun k k' g hk hk' e e'=>by cases e⟩
 cases k using Key.by with
 | fibers=>exact ⟨[],World.ownsRow_nil _ _ _ _,fun i hi=>by simp [St.zero] at hi⟩
 | out=>exact World.ownsRow_nil _ _ _ _
 | frames t=>simp [live,St.zero] at hk
 | locals t q=>simp [live,St.zero] at hk
 | stack t q=>simp [live,St.zero] at hk
def Zsn (r:St × Int) (w:World) (e:Ending) (w':World):Prop:=∃ V,e=.returned (.tuple #[.agg #[V .fibers,.int .i64 r.1.now,V .out],.int .i64 r.2])∧Own w.heap.size w' V r.1∧Zb w w'
theorem Zvb (p:List Fn) (s:St) (vp v:Value) (w:World) (hp:Zw w vp p) (hs:Zy w v s) (hsm:Yi s) (hok:OkS p s) :
  Calls Tryd.prog 86 #[vp,v] w (Zsn (Xj p s) w):=by
 obtain ⟨oa,cp,rfl,_,_⟩:=id hp
 have hpos:¬ s.now<0:=by have:=hok.1.1;omega
 have HP:=Za hp
 have HS:=Za hs
 obtain ⟨vf,vo,rfl,hF,hO⟩:=hs
 obtain ⟨oF,cF,rfl,_,_⟩:=hF
 obtain ⟨oO,cO,rfl,_,_⟩:=hO
 have HOK:=Za hok
 have HSM:=Za hsm
 clear hp hok hsm
 generalize hR:Xj p s=R
 have HR:=Za hR
 clear hR
 go_enter Tryd.func86,Tryd.ntmps86
 go_wp2_with fail
 generalize hw1:(w.alloc (.cells #[.slice oF s.fibers.length cF,.int .i64 s.now,.slice oO s.out.length cO] 26)).alloc (.cells #[.slice none 0 0,.int .i64 0,.slice none 0 0] 26)=w1
 have LR:w1.heap[w.heap.size+1]?=some (.cells #[.slice none 0 0,.int .i64 0,.slice none 0 0] 26):=by rw [← hw1];exact Zg (by simp)
 have hk1:Zb w w1:=by rw [← hw1];exact ((Zb.refl w).alloc _).alloc _
 have hs1:w1.heap.size=w.heap.size+2:=by rw [← hw1];simp
 have HC:=Za (Zkq s _ w1 ((un HS).kept hk1) (un HSM))
 have HK1:=Za hk1
 have HS1:=Za hs1
 have HLR:=Za LR
 clear hw1 hk1 hs1 LR
 generalize hR2:w.heap.size+1=R2 at *
 have HR2:=Za hR2
 clear hR2
 refine (un HC).mono ?_
 rintro _ w2 ⟨V,rfl,ho2,hk2⟩
 obtain ⟨xsF,hrF,_⟩:=ho2.piece .fibers trivial
 obtain ⟨oV,cV,hVf,_⟩:=Xq hrF
 have hrO:_:=ho2.piece .out trivial
 obtain ⟨oW,cW,hVo,_⟩:=Xq hrO
 have hov:Zi w1.heap.size (w2.alloc (.cells #[.slice oV s.fibers.length cV,.int .i64 s.now,.slice oW s.out.length cW] 26)) w2.heap.size V s:=by
  refine ⟨?_,ho2.alloc _,ho2.new_off (.inl (Nat.le_refl _)),hk2.size⟩
  rw [hVf,hVo]
  exact Zg rfl
 have hk3:Zb w1 (w2.alloc (.cells #[.slice oV s.fibers.length cV,.int .i64 s.now,.slice oW s.out.length cW] 26)):=hk2.alloc _
 have HD:=Za (Zsi w1.heap.size w2.heap.size V p s (.slice oa p.length cp) _ w hov (un HP) ((un HK1).trans hk3) (un HK1).size (un HOK))
 rw [hVf,hVo]
 have HK3:=Za hk3
 have HD4:Hid (w1.heap.size≤w2.heap.size∧True):=Za ⟨hk2.size,trivial⟩
 clear hov hk3 ho2 hk2 hrF hrO hVf hVo HC
 go_wp2_with fail
 refine (un HD).mono ?_
 rw [un HR]
 rintro _ w4 ⟨rfl,hb4,hov4⟩
 have HK4:Hid (Zb w1 w4):=Za (Below.trans (un HK3) hb4)
 have LR4:=Zm (un HK4) (un HLR)
 have r0:=Zd LR4 0
 have r1:=Zd LR4 1
 have r2:=Zd LR4 2
 have f0:=Zk LR4 0
 have f1:=Zk LR4 1
 have f2:=Zk LR4 2
 have HOV4:=Za hov4
 generalize hbs:w2.heap.size=bs at *
 have hbR:¬ bs=R2:=by have:=(un HD4).1;have:=un HS1;have:=un HR2;omega
 have hbR':¬ R2=bs:=fun e=>hbR e.symm
 clear hb4 hov4 hbs HD HK3
 by_cases he:R.2=0
 ·obtain ⟨V4,hv4⟩:=(un HOV4) he
  obtain ⟨xsF,hrF,_⟩:=hv4.own.piece .fibers trivial
  obtain ⟨oX,cX,hVf,_⟩:=Xq hrF
  have hrO:_:=hv4.own.piece .out trivial
  obtain ⟨oY,cY,hVo,_⟩:=Xq hrO
  obtain ⟨d0,d1,d2,_⟩:=hv4.cells
  rw [hVf] at d0
  rw [hVo] at d2
  have HV4:=Za hv4
  have HVF:=Za hVf
  have HVO:=Za hVo
  rw [he]
  have HE:=Za he
  clear hv4 hrF hrO hVf hVo he
  have LZ:=Ue (x:=.slice oX R.1.fibers.length cX) (y:=.int .i64 R.1.now) (z:=.slice oY R.1.out.length cY) LR4
  have HLZ:=Za LZ
  clear LZ LR4
  go_wp2_with fail
  have k0:=Zd (un HLZ) 0
  have k1:=Zd (un HLZ) 1
  have k2:=Zd (un HLZ) 2
  have hwf:∀ (y:Nat),w1.heap.size≤y→(((w4.setCell ⟨R2,0,none⟩ (.slice oX R.1.fibers.length cX)).setCell ⟨R2,1,none⟩ (.int .i64 R.1.now)).setCell ⟨R2,2,none⟩ (.slice oY R.1.out.length cY)).heap[y]?=w4.heap[y]?:=fun y hy=>by
   have:=un HS1
   have:=un HR2
   rw [Below.heap_setCell _ _ _ _ (by simp only;omega),Below.heap_setCell _ _ _ _ (by simp only;omega),Below.heap_setCell _ _ _ _ (by simp only;omega)]
  have hkr:Zb w w4:=(un HK1).trans (un HK4)
  have hwR:w.heap.size≤R2:=by have:=un HR2;omega
  have hkf:Zb w (((w4.setCell ⟨R2,0,none⟩ (.slice oX R.1.fibers.length cX)).setCell ⟨R2,1,none⟩ (.int .i64 R.1.now)).setCell ⟨R2,2,none⟩ (.slice oY R.1.out.length cY)):=((hkr.setCell (p:=⟨R2,0,none⟩) hwR _).setCell (p:=⟨R2,1,none⟩) hwR _).setCell (p:=⟨R2,2,none⟩) hwR _
  refine bodyPost_ret (v:=.tuple #[.agg #[.slice oX R.1.fibers.length cX,.int .i64 R.1.now,.slice oY R.1.out.length cY],.int .i64 0]) (by simp [results,Tryd.results86,go_sem,k0,k1,k2]) rfl ?_
  exact ⟨V4,by rw [un HVF,un HVO,un HE],Own.base (base:=w1.heap.size) ((un HV4).own.same (fun kk g hkk hg=>hwf g (((un HV4).own.piece kk hkk).block g hg).1)) (by have:=un HS1;omega),hkf⟩
 ·have hz:R.1=St.zero:=by rw [← un HR] at he ⊢;exact Zrc he
  have hbe:(R.2 != 0)=true:=bne_iff_ne.2 he
  have HZ:=Za hz
  clear hz he
  have LZ:=Ue (x:=.slice none 0 0) (y:=.int .i64 0) (z:=.slice none 0 0) LR4
  have HLZ:=Za LZ
  clear LZ LR4
  go_wp2_with fail
  have k0:=Zd (un HLZ) 0
  have k1:=Zd (un HLZ) 1
  have k2:=Zd (un HLZ) 2
  have hwf:∀ (y:Nat),w1.heap.size≤y→(((w4.setCell ⟨R2,0,none⟩ (.slice none 0 0)).setCell ⟨R2,1,none⟩ (.int .i64 0)).setCell ⟨R2,2,none⟩ (.slice none 0 0)).heap[y]?=w4.heap[y]?:=fun y hy=>by
   have:=un HS1
   have:=un HR2
   rw [Below.heap_setCell _ _ _ _ (by simp only;omega),Below.heap_setCell _ _ _ _ (by simp only;omega),Below.heap_setCell _ _ _ _ (by simp only;omega)]
  have hkr:Zb w w4:=(un HK1).trans (un HK4)
  have hwR:w.heap.size≤R2:=by have:=un HR2;omega
  have hkf:Zb w (((w4.setCell ⟨R2,0,none⟩ (.slice none 0 0)).setCell ⟨R2,1,none⟩ (.int .i64 0)).setCell ⟨R2,2,none⟩ (.slice none 0 0)):=((hkr.setCell (p:=⟨R2,0,none⟩) hwR _).setCell (p:=⟨R2,1,none⟩) hwR _).setCell (p:=⟨R2,2,none⟩) hwR _
  refine bodyPost_ret (v:=.tuple #[.agg #[.slice none 0 0,.int .i64 0,.slice none 0 0],.int .i64 R.2]) (by simp [results,Tryd.results86,go_sem,k0,k1,k2]) rfl ?_
  exact ⟨fun _=>.slice none 0 0,by rw [un HZ];rfl,by rw [un HZ];exact Zyv _ _,hkf⟩
end Go.Proofs.YtblihfpigjiahaaDoor
