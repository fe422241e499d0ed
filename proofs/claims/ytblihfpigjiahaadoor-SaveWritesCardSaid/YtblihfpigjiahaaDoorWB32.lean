/- EngT, EngU, EngV, EngW, StateM, StateN, EngX, SameW, EngY, GoodF, RunSt, RunP, SameS, RunLs, StepA, StepB, StepC -/
import Derived.Test.YtblihfpigjiahaaDoorWB29
import Derived.Test.YtblihfpigjiahaaDoorWB30
import Derived.Test.YtblihfpigjiahaaDoorWB31
import Derived.Test.YtblihfpigjiahaaDoorWB12
import Derived.Test.YtblihfpigjiahaaDoorWB13
import Derived.Test.YtblihfpigjiahaaDoorWB22
import Derived.Test.YtblihfpigjiahaaDoorWB16
import Derived.Test.YtblihfpigjiahaaDoorWB26
import Derived.Test.YtblihfpigjiahaaDoorWB11
import Derived.Test.YtblihfpigjiahaaDoorWB18
import Derived.Test.YtblihfpigjiahaaDoorWB08
import Derived.Test.YtblihfpigjiahaaDoorWB24
import Derived.Deep.RegionHeld3
import Derived.Deep.DeepCutAuto
import Derived.StillTailTactics
set_option maxRecDepth 100000
set_option maxHeartbeats 8000000
namespace Go.Proofs.YtblihfpigjiahaaDoor
open Go.RowKit
theorem Own.low {base base':Nat} {w:World} {V:Key→Value} {s:St} (h:Own base' w V s) (hb:base≤base'):Own base w V s:=⟨fun k hk=>(h.piece k hk).low hb,h.apart⟩
def Zlo (s:St) (w:World) (e:Ending) (w':World):Prop:=∃ v,e=.returned v∧Zy w' v s∧Zb w w'
theorem Zqk {w:World} {b1 b2 b3 lo:Nat} (h1:w.heap[b1]?=some (.cells (ints (List.replicate lo 0)).toArray 3)) (h2:w.heap[b2]?=some (.cells #[.int .i64 0,.int .i64 0,.slice (some ⟨b1,0,none⟩) lo lo,.slice none 0 0] 53))
  (h3:w.heap[b3]?=some (.cells #[.slice (some ⟨b2,0,none⟩) 1 1,.int .i64 (-1)] 46)) (hlo:lo≤1000) :
  Zy w (.agg #[.slice (some ⟨b3,0,none⟩) 1 1,.int .i64 0,.slice none 0 0]) ⟨[⟨[⟨0,0,List.replicate lo 0,[]⟩],-1⟩],0,[]⟩:=by
 refine ⟨_,_,rfl,⟨some ⟨b3,0,none⟩,1,rfl,by simp,fun i b hb=>?_⟩,Xn.nil _⟩
 have hi:i=0:=by
  have:=(List.getElem?_eq_some_iff.1 hb).1
  simpa using this
 subst hi
 simp at hb
 subst hb
 refine ⟨b3,0,_,rfl,Zo h3 rfl,Zo h3 rfl,some ⟨b2,0,none⟩,1,rfl,⟨by simp,by simp⟩,fun j f hf=>?_⟩
 have hj:j=0:=by
  have:=(List.getElem?_eq_some_iff.1 hf).1
  simpa using this
 subst hj
 simp at hf
 subst hf
 refine ⟨b2,0,_,_,rfl,Zo h2 rfl,Zo h2 rfl,Zo h2 rfl,Zo h2 rfl,⟨some ⟨b1,0,none⟩,lo,by simp,by simp;omega,fun q z hz=>⟨b1,0,rfl,?_⟩⟩,Xn.nil _⟩
 rw [Nat.zero_add]
 exact Zo h1 (by rw [List.getElem?_toArray];exact Zes hz)
theorem Zxe (b o n cp lo:Nat) (w:World) (c1:w.cell? ⟨b,o+1,none⟩=some (.int .i64 lo)) (hn:0<n) (hlo:lo≤1000) :
  Calls Tryd.prog 50 #[.slice (some ⟨b,o,none⟩) n cp] w fun e w'=>Zlo ⟨[⟨[⟨0,0,List.replicate lo 0,[]⟩],-1⟩],0,[]⟩ w e w':=by
 have hmk:=Zbf lo (by omega)
 have hn1:(0:Int)<(n:Int):=by omega
 have lb:=Xo c1
 simp only at lb
 go_enter Tryd.func50,Tryd.ntmps50
 go_wp2
 generalize hB:w.heap.size=B0 at *
 have hrep:Array.replicate lo (Value.int .i64 0)=(ints (List.replicate lo 0)).toArray:=by simp [ints]
 rw [hrep]
 generalize hw:(((w.alloc (.cells #[.slice (some ⟨B0+1+1+1,0,none⟩) 1 1,.int .i64 0,.slice none 0 0] 26)).alloc (.cells (ints (List.replicate lo 0)).toArray 3)).alloc (.cells #[.int .i64 0,.int .i64 0,.slice (some ⟨B0+1,0,none⟩) lo lo,.slice none 0 0] 53)).alloc (.cells #[.slice (some ⟨B0+1+1,0,none⟩) 1 1,.int .i64 (-1)] 46)=wz
 have L0:wz.heap[B0]?=some (.cells #[.slice (some ⟨B0+1+1+1,0,none⟩) 1 1,.int .i64 0,.slice none 0 0] 26):=by rw [← hw];exact Zr (Zr (Zr (Zg hB) _) _) _
 have L1:wz.heap[B0+1]?=some (.cells (ints (List.replicate lo 0)).toArray 3):=by rw [← hw];exact Zr (Zr (Zg (by simp [hB])) _) _
 have L2:wz.heap[B0+1+1]?=some (.cells #[.int .i64 0,.int .i64 0,.slice (some ⟨B0+1,0,none⟩) lo lo,.slice none 0 0] 53):=by rw [← hw];exact Zr (Zg (by simp [hB])) _
 have L3:wz.heap[B0+1+1+1]?=some (.cells #[.slice (some ⟨B0+1+1,0,none⟩) 1 1,.int .i64 (-1)] 46):=by rw [← hw];exact Zg (by simp [hB])
 have hk:Zb w wz:=by rw [← hw];exact ((((Zb.refl w).alloc _).alloc _).alloc _).alloc _
 have k0:wz.cell? ⟨B0,0,none⟩=some (.slice (some ⟨B0+1+1+1,0,none⟩) 1 1):=Zo L0 rfl
 have k1:wz.cell? ⟨B0,1,none⟩=some (.int .i64 0):=Zo L0 rfl
 have k2:wz.cell? ⟨B0,2,none⟩=some (.slice none 0 0):=Zo L0 rfl
 refine bodyPost_ret (v:=.agg #[.slice (some ⟨B0+1+1+1,0,none⟩) 1 1,.int .i64 0,.slice none 0 0]) (by simp [results,Tryd.results50,go_sem,k0,k1,k2]) rfl ?_
 exact ⟨_,rfl,Zqk L1 L2 L3 hlo,hk⟩
theorem Zpy (p:List Fn) (vp:Value) (w:World) (hp:Zw w vp p) (hz:Xh p=0) :
  Calls Tryd.prog 50 #[vp] w fun e w'=>Zlo (Ur p) w e w':=by
 obtain ⟨_,hp0,hck⟩:=Zaa hz
 obtain ⟨oa,cp,rfl,_,hcell⟩:=id hp
 obtain ⟨b,o,cv,rfl,_,c1,_,_⟩:=hcell 0 _ (Zq p 0 Fn.zero hp0)
 have hroom:0≤(p.getD 0 Fn.zero).locals∧(p.getD 0 Fn.zero).locals≤4:=by
  obtain ⟨i,hi,_,_,hr,_⟩:=Zcz (hck 0 hp0)
  obtain rfl:i=0:=by omega
  have:=Ws.1 hr
  omega
 obtain ⟨lo,hlo⟩:∃ lo:Nat,(p.getD 0 Fn.zero).locals=lo:=⟨(p.getD 0 Fn.zero).locals.toNat,by omega⟩
 unfold Ur
 rw [hlo] at c1 hroom ⊢
 rw [Int.toNat_natCast]
 exact Zxe b o _ cp lo w (by simpa using c1) hp0 (by omega)
theorem Ps (w:World):Zy w (.agg #[.slice none 0 0,.int .i64 0,.slice none 0 0]) St.zero:=⟨_,_,rfl,Wu.nil _,Xn.nil _⟩
theorem Zii (l1 l2:List Int) (v1 v2:Value) (w:World) (h1:Xn w v1 l1) (h2:Xn w v2 l2) :
  Calls Tryd.prog 28 #[v1,v2] w fun e w'=>e=.returned (.bool (decide (l1=l2)))∧Zb w w':=by
 obtain ⟨oa,ca,rfl,n1,i1⟩:=h1
 obtain ⟨ob,cb,rfl,n2,i2⟩:=h2
 by_cases hl:l1.length=l2.length
 ·have HI1:=Za i1
  have HI2:=Za i2
  have HL:=Za hl
  have hl':((l1.length:Int) != (l2.length:Int))=false:=by rw [hl];simp
  clear i1 i2 hl
  go_enter Tryd.func28,Tryd.ntmps28
  go_wp2
  go_loopw [5] (fun s5 wr=>∃ k:Nat,k≤l1.length∧s5=.int .i64 k∧Hid (∀ i,i<k→l1.getD i 0=l2.getD i 0)∧Hid (Zb w wr)) (fun s5 _=>l1.length - (intOf s5).toNat)
  case atStart=>exact ⟨0,Nat.zero_le _,rfl,(fun i hi=>by omega),Zb.refl _⟩
  case round =>
   obtain ⟨k,hkm,rfl,HA,HKr⟩:=hrel
   by_cases hlt:k<l1.length
   ·have hlt2:k<l2.length:=by have:=un HL;omega
    obtain ⟨b1,o1,e1,c1⟩:=(un HI1) k _ (Zq l1 k 0 hlt)
    obtain ⟨b2,o2,e2,c2⟩:=(un HI2) k _ (Zq l2 k 0 hlt2)
    have d1:=(un HKr).cell c1
    have d2:=(un HKr).cell c2
    generalize hz1:l1.getD k 0=z1 at *
    generalize hz2:l2.getD k 0=z2 at *
    have Z1:=Za hz1
    have Z2:=Za hz2
    subst e1 e2
    clear c1 c2 hz1 hz2
    by_cases hz:z1=z2
    ·have hzb:(z1 != z2)=false:=by rw [hz];simp
     have HZ:=Za hz
     clear hz
     go_wp2
     go_quiet (fail)
     go_wp2
     go_roundw
     case rel =>
      refine ⟨k+1,by omega,by go_num,?_,(un HKr).drewN _⟩
      intro i hi
      by_cases e:i=k
      ·subst e;rw [un Z1,un Z2,un HZ]
      ·exact (un HA) i (by omega)
     case measure=>simp [intOf];omega
    ·have hzb:(z1 != z2)=true:=by rw [bne_iff_ne];exact hz
     have HZ:=Za hz
     clear hz
     go_wp2
     go_quiet (fail)
     go_wp2
     go_ret
     refine ⟨?_,(un HKr).drewN _⟩
     rw [decide_eq_false]
     ·rfl
     ·intro e
      apply un HZ
      rw [← un Z1,← un Z2,e]
   ·go_wp2
    go_ret
    refine ⟨?_,un HKr⟩
    rw [decide_eq_true]
    ·rfl
    ·exact Zrs (un HL) (fun i hi=>(un HA) i (by omega))
 ·have hl':((l1.length:Int) != (l2.length:Int))=true:=by rw [bne_iff_ne];omega
  have HL:=Za hl
  clear i1 i2 hl
  go_enter Tryd.func28,Tryd.ntmps28
  go_wp2
  go_ret
  refine ⟨?_,Zb.refl _⟩
  rw [decide_eq_false]
  ·rfl
  ·intro e;exact (un HL) (by rw [e])
theorem Zjr (s:St) (v1 v2:Value) (w:World) (h1:Zy w v1 s) (h2:Zy w v2 s) :
  Calls Tryd.prog 12 #[v1,v2] w fun e w'=>e=.returned (.bool true)∧Zb w w':=by
 obtain ⟨vf1,vo1,rfl,hf1,ho1⟩:=h1
 obtain ⟨vf2,vo2,rfl,hf2,ho2⟩:=h2
 obtain ⟨oa1,cap1,rfl,hl,i1⟩:=hf1
 obtain ⟨oa2,cap2,rfl,_,i2⟩:=hf2
 have HSI:Hid (∀ u,Zb w u→Calls Tryd.prog 28 #[vo1,vo2] u fun e w'=>e=.returned (.bool true)∧Zb u w'):=Za (fun u hu=>by
  have:=Zii s.out s.out vo1 vo2 u (ho1.kept hu) (ho2.kept hu)
  rwa [decide_eq_true rfl] at this)
 obtain ⟨oo1,co1,rfl,_,_⟩:=ho1
 obtain ⟨oo2,co2,rfl,_,_⟩:=ho2
 have hn1:(s.now != s.now)=false:=by simp
 have hn2:((s.fibers.length:Int) != (s.fibers.length:Int))=false:=by simp
 generalize hN:s.fibers.length=N at *
 generalize s.out.length=M at *
 have HI1:=Za i1
 have HI2:=Za i2
 have HN:=Za hN
 clear i1 i2 hN
 go_enter Tryd.func12,Tryd.ntmps12
 go_wp2_with fail
 refine ((un HSI) _ (((Zb.refl w).alloc _).alloc _)).mono ?_
 rintro e w1 ⟨rfl,hk1⟩
 have hkw:=(((Zb.refl w).alloc (.cells #[.slice oa1 N cap1,.int .i64 s.now,.slice oo1 M co1] 26)).alloc (.cells #[.slice oa2 N cap2,.int .i64 s.now,.slice oo2 M co2] 26)).trans hk1
 have L0:=Zm hk1 (Zr (Zg (w:=w) (o:=.cells #[.slice oa1 N cap1,.int .i64 s.now,.slice oo1 M co1] 26) rfl) (.cells #[.slice oa2 N cap2,.int .i64 s.now,.slice oo2 M co2] 26))
 have L1:w1.heap[w.heap.size+1]?=some (.cells #[.slice oa2 N cap2,.int .i64 s.now,.slice oo2 M co2] 26):=Zm hk1 (Zg (by simp))
 have X0:Hid (w1.cell? ⟨w.heap.size,0,none⟩=some (.slice oa1 N cap1)):=Za (Zo L0 rfl)
 have Y0:Hid (w1.cell? ⟨w.heap.size+1,0,none⟩=some (.slice oa2 N cap2)):=Za (Zo L1 rfl)
 have HKW:=Za hkw
 clear hk1 hkw L0 L1 HSI
 go_wp2
 go_loopw [5] (fun s5 wr=>∃ k:Nat,k≤N∧s5=.int .i64 k∧Hid (Zb w1 wr)) (fun s5 _=>N - (intOf s5).toNat)
 case atStart=>exact ⟨0,Nat.zero_le _,rfl,Zb.refl _⟩
 case round =>
  obtain ⟨k,hkm,rfl,HKr⟩:=hrel
  have dx:=(un HKr).cell (un X0)
  have dy:=(un HKr).cell (un Y0)
  by_cases hlt:k<N
  ·obtain ⟨f,hx⟩:∃ f,s.fibers[k]?=some f:=⟨_,List.getElem?_eq_getElem (by rw [un HN];exact hlt)⟩
   obtain ⟨p1,o1,vf1,rfl,x0,x1,hc1⟩:=(un HI1) k _ hx
   obtain ⟨p2,o2,vf2,rfl,y0,y1,hc2⟩:=(un HI2) k _ hx
   have hk:=(un HKW).trans (un HKr)
   obtain ⟨oc1,cc1,rfl,hlf,j1⟩:=hc1
   obtain ⟨oc2,cc2,rfl,_,j2⟩:=hc2
   have HJ1:=Za j1
   have HJ2:=Za j2
   have hk1:(k:Int)<(N:Int):=by omega
   have hk0:(0:Int)≤(k:Int):=by omega
   have HY:Hid (∀ u,Zb wr u→u.cell? ⟨w.heap.size,0,none⟩=some (.slice (some ⟨p1,o1,none⟩) N cap1)∧u.cell? ⟨w.heap.size+1,0,none⟩=some (.slice (some ⟨p2,o2,none⟩) N cap2)∧u.cell? ⟨p1,o1+k*2,none⟩=some (.slice oc1 f.frames.length cc1)∧u.cell? ⟨p1,o1+k*2+1,none⟩=some (.int .i64 f.caller)∧u.cell? ⟨p2,o2+k*2,none⟩=some (.slice oc2 f.frames.length cc2)∧u.cell? ⟨p2,o2+k*2+1,none⟩=some (.int .i64 f.caller)) :=
    Za (fun u hu=>⟨hu.cell dx,hu.cell dy,hu.cell (hk.cell x0),hu.cell (hk.cell x1),hu.cell (hk.cell y0),hu.cell (hk.cell y1)⟩)
   have HKW2:=Za hk
   clear j1 j2 x0 x1 y0 y1 hk
   go_wp2_with fail
   go_cut [6,7] from 33 to 108 (fun s6 s7 wx=>∃ b6 b7,s6=.pointer (some ⟨b6,0,none⟩)∧s7=.pointer (some ⟨b7,0,none⟩)∧Hid (wx.cell? ⟨b6,0,none⟩=some (.slice oc1 f.frames.length cc1)∧wx.cell? ⟨b6,1,none⟩=some (.int .i64 f.caller)∧wx.cell? ⟨b7,0,none⟩=some (.slice oc2 f.frames.length cc2)∧wx.cell? ⟨b7,1,none⟩=some (.int .i64 f.caller)∧Zb wr wx))
   case first =>
    go_region_held3 (fun u=>u.cell? ⟨w.heap.size,0,none⟩=some (.slice (some ⟨p1,o1,none⟩) N cap1)∧u.cell? ⟨w.heap.size+1,0,none⟩=some (.slice (some ⟨p2,o2,none⟩) N cap2)∧u.cell? ⟨p1,o1+k*2,none⟩=some (.slice oc1 f.frames.length cc1)∧u.cell? ⟨p1,o1+k*2+1,none⟩=some (.int .i64 f.caller)∧u.cell? ⟨p2,o2+k*2,none⟩=some (.slice oc2 f.frames.length cc2)∧u.cell? ⟨p2,o2+k*2+1,none⟩=some (.int .i64 f.caller))
     (exact (un HY) _ (by repeat (first | exact Zb.refl _ | refine Zb.drew ?_ | refine Zb.alloc ?_ _ | refine Zb.setCell ?_ (by simp) _))) (fail)
    all_goals go_wp2_with fail
    all_goals go_meet
    all_goals exact ⟨_,_,rfl,rfl,Za ⟨by simp,by simp,by simp,by simp,(((Zb.refl wr).alloc _).alloc _).drew⟩⟩
   case rest =>
    obtain ⟨b6,b7,rfl,rfl,HC⟩:=hcut
    obtain ⟨z0,z1,z2,z3,hkc⟩:=un HC
    have hn3:(f.caller != f.caller)=false:=by simp
    have HZ0:=Za z0
    have HZ2:=Za z2
    have HKC:=Za hkc
    have HKr0:=HKr
    have HFW:=Za ((un HKW2).trans hkc)
    generalize hq:f.frames.length=q at *
    have HQ:=Za hq
    have hn4:((q:Int) != (q:Int))=false:=by simp
    clear HC hkc hq dx dy HY
    go_wp2
    clear z0 z1 z2 z3
    go_loopw [8] (fun s8 wr=>∃ i:Nat,i≤q∧s8=.int .i64 i∧Hid (Zb wc wr)) (fun s8 _=>q - (intOf s8).toNat)
    case atStart=>exact ⟨0,Nat.zero_le _,rfl,Zb.refl _⟩
    case round =>
     obtain ⟨i,hiq,rfl,HKi⟩:=hrel
     have dz:=(un HKi).cell (un HZ0)
     have dw:=(un HKi).cell (un HZ2)
     by_cases hil:i<q
     ·obtain ⟨x,hx2⟩:∃ x,f.frames[i]?=some x:=⟨_,List.getElem?_eq_getElem (by rw [un HQ];exact hil)⟩
      obtain ⟨g1,t1,vl1,vs1,rfl,a0,a1,a2,a3,hvl1,hvs1⟩:=(un HJ1) i _ hx2
      obtain ⟨g2,t2,vl2,vs2,rfl,e0,e1,e2,e3,hvl2,hvs2⟩:=(un HJ2) i _ hx2
      have hk:=(un HFW).trans (un HKi)
      have HSL:Hid (∀ u,Zb wr u→Calls Tryd.prog 28 #[vl1,vl2] u fun e w'=>e=.returned (.bool true)∧Zb u w'):=Za (fun u hu=>by
       have:=Zii x.locals x.locals vl1 vl2 u (hvl1.kept (hk.trans hu)) (hvl2.kept (hk.trans hu))
       rwa [decide_eq_true rfl] at this)
      have HSS:Hid (∀ u,Zb wr u→Calls Tryd.prog 28 #[vs1,vs2] u fun e w'=>e=.returned (.bool true)∧Zb u w'):=Za (fun u hu=>by
       have:=Zii x.stack x.stack vs1 vs2 u (hvs1.kept (hk.trans hu)) (hvs2.kept (hk.trans hu))
       rwa [decide_eq_true rfl] at this)
      obtain ⟨ol1,cl1,rfl,_,_⟩:=hvl1
      obtain ⟨os1,cs1,rfl,_,_⟩:=hvs1
      obtain ⟨ol2,cl2,rfl,_,_⟩:=hvl2
      obtain ⟨os2,cs2,rfl,_,_⟩:=hvs2
      have HYi:Hid (∀ u,Zb wr u→u.cell? ⟨b6,0,none⟩=some (.slice (some ⟨g1,t1,none⟩) q cc1)∧u.cell? ⟨b7,0,none⟩=some (.slice (some ⟨g2,t2,none⟩) q cc2)∧u.cell? ⟨g1,t1+i*4,none⟩=some (.int .i64 x.fn)∧u.cell? ⟨g1,t1+i*4+1,none⟩=some (.int .i64 x.at_)∧u.cell? ⟨g1,t1+i*4+2,none⟩=some (.slice ol1 x.locals.length cl1)∧u.cell? ⟨g1,t1+i*4+3,none⟩=some (.slice os1 x.stack.length cs1)∧u.cell? ⟨g2,t2+i*4,none⟩=some (.int .i64 x.fn)∧u.cell? ⟨g2,t2+i*4+1,none⟩=some (.int .i64 x.at_)∧u.cell? ⟨g2,t2+i*4+2,none⟩=some (.slice ol2 x.locals.length cl2)∧u.cell? ⟨g2,t2+i*4+3,none⟩=some (.slice os2 x.stack.length cs2)) :=
       Za (fun u hu=>⟨hu.cell dz,hu.cell dw,hu.cell (hk.cell a0),hu.cell (hk.cell a1),hu.cell (hk.cell a2),hu.cell (hk.cell a3),hu.cell (hk.cell e0),hu.cell (hk.cell e1),hu.cell (hk.cell e2),hu.cell (hk.cell e3)⟩)
      have hi1:(i:Int)<(q:Int):=by omega
      have hi0:(0:Int)≤(i:Int):=by omega
      have hn5:(x.fn != x.fn)=false:=by simp
      have hn6:(x.at_ != x.at_)=false:=by simp
      clear a0 a1 a2 a3 e0 e1 e2 e3 hk hx2
      go_wp2_with fail
      go_cut [9,10] from 64 to 108 (fun s9 s10 wx=>∃ b9 b10,s9=.pointer (some ⟨b9,0,none⟩)∧s10=.pointer (some ⟨b10,0,none⟩)∧Hid (wx.heap[b9]?=some (.cells #[.int .i64 x.fn,.int .i64 x.at_,.slice ol1 x.locals.length cl1,.slice os1 x.stack.length cs1] 53)∧wx.heap[b10]?=some (.cells #[.int .i64 x.fn,.int .i64 x.at_,.slice ol2 x.locals.length cl2,.slice os2 x.stack.length cs2] 53)∧Zb wr wx))
      case first =>
       go_region_held3 (fun u=>u.cell? ⟨b6,0,none⟩=some (.slice (some ⟨g1,t1,none⟩) q cc1)∧u.cell? ⟨b7,0,none⟩=some (.slice (some ⟨g2,t2,none⟩) q cc2)∧u.cell? ⟨g1,t1+i*4,none⟩=some (.int .i64 x.fn)∧u.cell? ⟨g1,t1+i*4+1,none⟩=some (.int .i64 x.at_)∧u.cell? ⟨g1,t1+i*4+2,none⟩=some (.slice ol1 x.locals.length cl1)∧u.cell? ⟨g1,t1+i*4+3,none⟩=some (.slice os1 x.stack.length cs1)∧u.cell? ⟨g2,t2+i*4,none⟩=some (.int .i64 x.fn)∧u.cell? ⟨g2,t2+i*4+1,none⟩=some (.int .i64 x.at_)∧u.cell? ⟨g2,t2+i*4+2,none⟩=some (.slice ol2 x.locals.length cl2)∧u.cell? ⟨g2,t2+i*4+3,none⟩=some (.slice os2 x.stack.length cs2))
        (exact (un HYi) _ (by repeat (first | exact Zb.refl _ | refine Zb.drew ?_ | refine Zb.alloc ?_ _ | refine Zb.setCell ?_ (by simp) _))) (fail)
       all_goals go_wp2_with fail
       all_goals go_meet
       all_goals first
        | exact ⟨_,_,rfl,rfl,Za ⟨Zr (Zg rfl) _,Zg (by simp),(((Zb.refl wr).alloc _).alloc _).drew⟩⟩
        | exact ⟨_,_,rfl,rfl,Za ⟨Zg (by simp),Zr (Zg rfl) _,(((Zb.refl wr).alloc _).alloc _).drew⟩⟩
      case rest =>
       obtain ⟨b9,b10,rfl,rfl,HD⟩:=hcut
       obtain ⟨l9,l10,hkd⟩:=un HD
       have y0:=Zo l9 (i:=0) rfl
       have y1:=Zo l9 (i:=1) rfl
       have y2:=Zo l9 (i:=2) rfl
       have y4:=Zo l10 (i:=0) rfl
       have y5:=Zo l10 (i:=1) rfl
       have y6:=Zo l10 (i:=2) rfl
       have HL9:=Za l9
       have HL10:=Za l10
       have HKD:=Za hkd
       clear HD l9 l10 hkd dz dw HYi
       go_wp2_with fail
       refine ((un HSL) _ (un HKD)).mono ?_
       rintro e w4 ⟨rfl,hk4⟩
       have y3:=Zo (Zm hk4 (un HL9)) (i:=3) rfl
       have y7:=Zo (Zm hk4 (un HL10)) (i:=3) rfl
       have HK4:=Za ((un HKD).trans hk4)
       clear hk4
       go_wp2_with fail
       refine ((un HSS) _ (un HK4)).mono ?_
       rintro e w5 ⟨rfl,hk5⟩
       have HK5:=Za ((un HK4).trans hk5)
       clear hk5
       go_wp2
       go_roundw
       case rel=>exact ⟨i+1,by omega,by go_num,(un HKi).trans (un HK5)⟩
       case measure=>simp [intOf];omega
     ·have hi1:¬ ((i:Int)<(q:Int)):=by omega
      go_wp2
      go_roundw
      case rel=>exact ⟨k+1,by omega,by go_num,(un HKr0).trans ((un HKC).trans (un HKi))⟩
      case measure=>simp [intOf];omega
  ·go_wp2
   go_ret
   exact ⟨rfl,(un HKW).trans (un HKr)⟩
def Zdr (base bs:Nat) (s':St) (r:Value) (w:World) (e:Ending) (w':World):Prop:=e=.returned r∧∃ V',Zi base w' bs V' s'∧Below base w w'
theorem Zsb (bs N capF gF i q cap g:Nat) (w:World) (hi:i<N) (hq:0<q) (hqs:q≤1000)
  (c0:w.cell? ⟨bs,0,none⟩=some (.slice (some ⟨gF,0,none⟩) N capF)) (c1:w.cell? ⟨gF,i*2,none⟩=some (.slice (some ⟨g,0,none⟩) q cap)) :
  Calls Tryd.prog 90 #[.pointer (some ⟨bs,0,none⟩),.int .i64 i] w fun e w'=>e=.returned (.pointer (some ⟨g,(q - 1)*4,none⟩))∧∃ m,w'=w.drewN m:=by
 obtain ⟨t,rfl⟩:∃ t,q=t+1:=⟨q - 1,by omega⟩
 have hi1:(i:Int)<(N:Int):=by omega
 have hi0:(0:Int)≤(i:Int):=by omega
 have hw:IntKind.i64.wrap (((t+1:Nat):Int) - 1)=(t:Int):=by rw [IntKind.wrap_i64];omega
 have hw2:IntKind.i64.wrap ((t:Int)+1 - 1)=(t:Int):=by rw [IntKind.wrap_i64];omega
 have ht:(t:Int)+1 - 1=(t:Int):=by omega
 have ht1:(t:Int)<(t:Int)+1:=by omega
 have ht0:(0:Int)≤(t:Int):=by omega
 go_enter Tryd.func90,Tryd.ntmps90
 go_wp2
 go_quiet (fail)
 go_wp2
 go_ret
 exact ⟨rfl,_,rfl⟩
theorem Yu {base bs:Nat} {w:World} {V:Key→Value} {s:St} (h:Zi base w bs V s) {i:Nat} (hi:i<s.fibers.length) (hq:0<(Zc s i).frames.length) (hqs:(Zc s i).frames.length≤1000) :
  ∃ g cap,V (.frames i)=.slice (some ⟨g,0,none⟩) (Zc s i).frames.length cap∧Calls Tryd.prog 90 #[.pointer (some ⟨bs,0,none⟩),.int .i64 i] w fun e w'=>e=.returned (.pointer (some ⟨g,((Zc s i).frames.length - 1)*4,none⟩))∧∃ m,w'=w.drewN m:=by
 obtain ⟨gF,capF,eF,_,k0,_⟩:=h.own.fib hi
 obtain ⟨g,cap,eg,_,_⟩:=h.own.fr hi (j:=0) hq
 obtain ⟨c0,_⟩:=h.cells
 rw [eF] at c0
 rw [eg] at k0
 exact ⟨g,cap,eg,Zsb bs _ capF gF i _ cap g w hi hq hqs c0 k0⟩
theorem Zbd (base bs:Nat) (V:Key→Value) (s:St) (i:Nat) (z:Int) (w:World) (h:Zi base w bs V s) (hi:i<s.fibers.length) (hq:0<(Zc s i).frames.length) (hqs:(Zc s i).frames.length≤1000) (hst:(Ze s i ((Zc s i).frames.length - 1)).stack.length≤1000) :
  Calls Tryd.prog 91 #[.pointer (some ⟨bs,0,none⟩),.int .i64 i,.int .i64 z] w fun e w'=>Zdr base bs (Qb s i z) (.tuple #[]) w e w':=by
 obtain ⟨i0,hi0,hz0,hz1,hz2⟩:=info_parts Zaw
 obtain ⟨g,cap,eg,htop⟩:=Yu h hi hq hqs
 unfold Qb
 rw [Py]
 generalize hj:(Zc s i).frames.length - 1=j at *
 have hjl:j<(Zc s i).frames.length:=by omega
 have HT:=Za htop
 have HO:=Za h
 have HEG:=Za eg
 clear htop h
 go_enter Tryd.func91,Tryd.ntmps91
 go_wp2_with fail
 refine (un HT).mono ?_
 rintro e w1 ⟨rfl,m,rfl⟩
 generalize hw1:w.drewN m=w1
 have ho1:Zi base w1 bs V s:=(un HO).same (by rw [← hw1];rfl)
 have hb1:Below base w w1:=by rw [← hw1];exact below_drewN (Below.refl _ w) m
 obtain ⟨g',cap',eg',_,f0,f1,f2,f3,ffz,hbg⟩:=ho1.own.fr hi hjl
 rw [un HEG] at eg'
 obtain ⟨⟨rfl⟩,-,rfl⟩:=(by simpa using eg':(g=g')∧True∧cap=cap')
 have hs:=ho1.own.stk hi hjl
 have hlg:=Xo f0
 simp only at hlg
 have hbw:base≤w1.heap.size:=by omega
 have hgs:(V (.stack i j)).ownBlock≠some g:=fun e=>by
  have:=ho1.own.apart (.stack i j) (.frames i) g ⟨hi,hjl⟩ hi e (by rw [un HEG];rfl)
  cases this
 have HO1:=Za ho1
 have HB1:=Za hb1
 have HS:=Za hs
 have hfz:=ffz (j*4+3)
 generalize hvs:V (.stack i j)=vs0 at *
 have HVS:=Za hvs
 generalize hl:(Ze s i j).stack=l at *
 have HL:=Za hl
 clear hw1 hb1 ho1 hvs hl hs f0 f1 f2 ffz eg'
 go_wp2_with (at_builtin;refine wpList_append_own_at _ rfl _ _ 24 rfl base 3 i0 (.int .i64 0) 1 8 Tryd.underlying24 hi0 hz0 hz1 hz2 rfl (by decide) _ _ _ rfl ((un HS).alloc _) ⟨w1.heap.size,0,none⟩ 1 1 [.int .i64 z] rfl rfl (Zft _ _ _) (Zff _) (by unfold maxLen;omega) (by omega) (by simp;omega) ?_;intro v' w2 hown' hgrow _ hat;obtain ⟨o2,c2,rfl,-⟩:=Xq hown';have g3:w2.cell? ⟨g,j*4+3,none⟩=some vs0:=hgrow.cell (((Zb.refl w1).alloc _).cell f3) (fun e=>hgs e.symm);have gz:w2.frozen? ⟨g,j*4+3,none⟩=false:=(World.frozen?_of_block (hgrow.block g (by simp;omega) (fun e=>hgs e.symm))).trans ((World.frozen?_of_block (Below.heap_alloc w1 _ g hlg)).trans hfz);have HOW:=Za hown';have HGR:=Za hgrow;have HAT:=Za hat;clear hown' hgrow hat)
 go_end0
 have hfin:=((un HO1).alloc (.cells #[.int .i64 z] 3)).turnStack (w2:=w2) hi hjl (un HEG) (.slice o2 (l.length+1) c2) (l++[z]) (by rw [un HVS];exact un HGR) (by rw [Zdm,List.length_append];exact un HOW) (by rw [un HVS];exact un HAT)
 unfold Zdr
 refine ⟨rfl,upd V (.stack i j) (.slice o2 (l.length+1) c2),?_,?_⟩
 ·rw [un HL]
  exact hfin.1
 ·exact Below.trans (un HB1) (Below.trans (Below.alloc (Below.refl _ w1) hbw _) hfin.2)
def Zmy (base bs:Nat) (s':St) (r:Value) (V:Key→Value) (i:Nat) (w:World) (e:Ending) (w':World):Prop :=
 e=.returned r∧∃ V',Zi base w' bs V' s'∧Below base w w'∧V' (.frames i)=V (.frames i)∧(∀ k,(V' k).ownBlock=(V k).ownBlock)∧∀ b,(V (.frames i)).ownBlock≠some b→w'.heap[b]?=w.heap[b]?
theorem Px (base bs:Nat) (V:Key→Value) (s:St) (i:Nat) (w:World) (h:Zi base w bs V s) (hn:s.now=i) (hi:i<s.fibers.length) (hq:0<(Zc s i).frames.length) (hqs:(Zc s i).frames.length≤1000) (hst:(Ze s i ((Zc s i).frames.length - 1)).stack.length≤1000) (hst0:0<(Ze s i ((Zc s i).frames.length - 1)).stack.length) :
  Calls Tryd.prog 92 #[.pointer (some ⟨bs,0,none⟩)] w fun e w'=>Zmy base bs (Zj s) (.int .i64 (Zv s)) V i w e w':=by
 obtain ⟨g,cap,eg,htop⟩:=Yu h hi hq hqs
 have hlast:Zv s=(Ze s i ((Zc s i).frames.length - 1)).stack.getD ((Ze s i ((Zc s i).frames.length - 1)).stack.length - 1) 0:=by
  unfold Zv St.top St.fib
  rw [hn,Int.toNat_natCast,show s.fibers.getD i Fb.zero=Zc s i from rfl,Zdq,List.getLast?_eq_getElem?]
  rfl
 have hpull:Zj s=Qu s i ((Zc s i).frames.length - 1) { Ze s i ((Zc s i).frames.length - 1) with stack:=(Ze s i ((Zc s i).frames.length - 1)).stack.dropLast }:=by
  unfold Zj
  rw [hn,Py]
 rw [hpull]
 generalize hzz:Zv s=z at *
 clear hpull hzz
 generalize hj:(Zc s i).frames.length - 1=j at *
 have hjl:j<(Zc s i).frames.length:=by omega
 obtain ⟨_,c1,_,_⟩:=h.cells
 rw [hn] at c1
 have HT:=Za htop
 have HO:=Za h
 have HEG:=Za eg
 clear htop h
 go_enter Tryd.func92,Tryd.ntmps92
 go_wp2_with fail
 refine (un HT).mono ?_
 rintro e w1 ⟨rfl,m,rfl⟩
 generalize hw1:w.drewN m=w1
 have ho1:Zi base w1 bs V s:=(un HO).same (by rw [← hw1];rfl)
 have hb1:Below base w w1:=by rw [← hw1];exact below_drewN (Below.refl _ w) m
 have HSM:Hid (w1.heap=w.heap):=by rw [← hw1];exact Za rfl
 obtain ⟨g',cap',eg',_,f0,f1,f2,f3,ffz,hbg⟩:=ho1.own.fr hi hjl
 rw [un HEG] at eg'
 obtain ⟨⟨rfl⟩,-,rfl⟩:=(by simpa using eg':(g=g')∧True∧cap=cap')
 have hs:=ho1.own.stk hi hjl
 obtain ⟨gs,cs,es,hcs,hcell,_,_⟩:=Zbx hs hst0
 have hfz:=ffz (j*4+3)
 have HO1:=Za ho1
 have HB1:=Za hb1
 rw [es] at f3 hs
 have HS:=Za hs
 have HES:=Za es
 have hlt:(Ze s i j).stack.length - 1<(Ze s i j).stack.length:=by omega
 have hcl:=hcell ((Ze s i j).stack.length - 1) (.int .i64 ((Ze s i j).stack.getD ((Ze s i j).stack.length - 1) 0)) (Zci (Zq _ _ 0 hlt))
 generalize hl:(Ze s i j).stack=l at *
 have HL:=Za hl
 obtain ⟨t,ht⟩:∃ t,l.length=t+1:=⟨l.length - 1,by omega⟩
 rw [← hlast] at hcl
 rw [ht] at f3 hcl
 simp only [Nat.add_sub_cancel] at hcl
 have hw:IntKind.i64.wrap ((t:Int)+1 - 1)=(t:Int):=by rw [IntKind.wrap_i64];omega
 have hts:(t:Int)+1 - 1=(t:Int):=by omega
 have ht1:(t:Int)<(t:Int)+1:=by omega
 have ht0:(0:Int)≤(t:Int):=by omega
 have htc:(t:Int)≤(cs:Int):=by omega
 have HTL:=Za ht
 clear hw1 hb1 ho1 es hl hs f0 f1 f2 ffz eg' hcell hlast
 go_wp2
 go_quiet (fail)
 go_wp2
 generalize hw3:w1.drewN nq=w3
 have ho3:Zi base w3 bs V s:=(un HO1).same (by rw [← hw3];rfl)
 have k3:w3.cell? ⟨g,j*4+3,none⟩=some (.slice (some ⟨gs,0,none⟩) (t+1) cs):=by rw [← hw3];exact f3
 have kz:w3.frozen? ⟨g,j*4+3,none⟩=false:=by rw [← hw3];exact hfz
 have HB3:Hid (Below base w w3):=by rw [← hw3];exact Za (below_drewN (un HB1) nq)
 have HSM3:Hid (w3.heap=w.heap):=by rw [← hw3];exact Za (un HSM)
 have HO3:=Za ho3
 clear hw3 ho3 f3 hfz hcl HB1 HO1
 go_region
 all_goals go_wp2_with fail
 go_ret
 have hdl:l.dropLast=l.take t:=by rw [List.dropLast_eq_take,un HTL,Nat.add_sub_cancel]
 have hrow:w3.ownsRow base 3 1 (.slice (some ⟨gs,0,none⟩) t cs) (l.take t).length (ints (l.take t)):=by
  have h3:=(un HO3).own.stk hi hjl
  rw [un HES,un HL] at h3
  have hlt':(l.take t).length=t:=by rw [List.length_take];have:=un HTL;omega
  rw [hlt']
  exact Zze h3 rfl t (by have:=un HTL;omega)
 have hfin:=(un HO3).turnStack (w2:=w3) hi hjl (un HEG) (.slice (some ⟨gs,0,none⟩) t cs) (l.take t) (Zsj _ _) hrow (.inl (by rw [un HES];rfl))
 unfold Zmy
 refine ⟨rfl,upd V (.stack i j) (.slice (some ⟨gs,0,none⟩) t cs),?_,?_,Zp V _ (by simp),fun k=>?_,fun b hb=>?_⟩
 ·rw [un HL,hdl]
  exact Zi.same hfin.1 rfl
 ·exact Below.drew (Below.trans (un HB3) hfin.2)
 ·by_cases e:k=.stack i j
  ·subst e;rw [Qk,un HES];rfl
  ·rw [Zp V _ e]
 ·show (w3.setCell _ _).heap[b]?=_
  rw [Below.heap_setCell _ _ _ _ (fun e=>hb (by rw [un HEG];exact congrArg some e.symm)),un HSM3]
theorem Zgh (base bs:Nat) (V:Key→Value) (s:St) (i:Nat) (w:World) (h:Zi base w bs V s) (hn:s.now=i) (hi:i<s.fibers.length) (hq:0<(Zc s i).frames.length) (hqs:(Zc s i).frames.length≤1000) (hst:(Ze s i ((Zc s i).frames.length - 1)).stack.length≤1000) (hst0:0<(Ze s i ((Zc s i).frames.length - 1)).stack.length) :
  Calls Tryd.prog 92 #[.pointer (some ⟨bs,0,none⟩)] w fun e w'=>Zdr base bs (Zj s) (.int .i64 (Zv s)) w e w' :=
 (Px base bs V s i w h hn hi hq hqs hst hst0).mono fun _ _ ⟨h1,V',h2,h3,_⟩=>⟨h1,V',h2,h3⟩
def Zqr (base bs:Nat) (s:St) (v:Int) (w:World) (e:Ending) (w':World):Prop :=
 e=.returned (.int .i64 (Jv s v).2)∧Below base w w'∧((Jv s v).2=0→∃ V',Zi base w' bs V' (Jv s v).1)
theorem Zmh (base bs:Nat) (V:Key→Value) (s:St) (z:Int) (w:World) (h:Zi base w bs V s) (ho:s.out.length≤30) :
  Calls Tryd.prog 97 #[.pointer (some ⟨bs,0,none⟩),.int .i64 z] w fun e w'=>Zqr base bs s z w e w':=by
 obtain ⟨i0,hi0,hz0,hz1,hz2⟩:=info_parts Zaw
 obtain ⟨_,_,c2,fz⟩:=h.cells
 have hs:w.ownsRow base 3 1 (V .out) s.out.length (ints s.out):=h.own.piece .out trivial
 have hbsw:=lt_of_block h.var
 have hlow:=h.low
 have hbs:(V .out).ownBlock≠some bs:=h.off .out trivial
 have f2:=fz 2
 obtain ⟨oo,co,eo,hrow⟩:=Xq hs
 have HO:=Za h
 have HS:=Za hs
 have HEO:=Za eo
 rw [eo] at c2
 clear h fz hrow
 by_cases h30:s.out.length=30
 ·have hp:Jv s z=(St.zero,2):=by unfold Jv;rw [if_pos h30]
  have HP:=Za hp
  rw [h30] at c2
  clear hp h30
  go_enter Tryd.func97,Tryd.ntmps97
  go_wp2
  go_ret
  exact ⟨by rw [un HP];rfl,Below.refl _ _,fun e=>by rw [un HP] at e;cases e⟩
 ·have hp:Jv s z=({ s with out:=s.out++[z] },0):=by unfold Jv;rw [if_neg h30]
  have HP:=Za hp
  have hb:((s.out.length:Int) == 30)=false:=by rw [beq_eq_false_iff_ne];omega
  rw [eo] at hs hbs
  have HS2:=Za hs
  have hlw:base≤w.heap.size:=by omega
  clear hp hs
  generalize hl:s.out=l at *
  have HL:=Za hl
  clear hl
  go_enter Tryd.func97,Tryd.ntmps97
  go_wp2_with (at_builtin;refine wpList_append_own_at _ rfl _ _ 24 rfl base 3 i0 (.int .i64 0) 1 8 Tryd.underlying24 hi0 hz0 hz1 hz2 rfl (by decide) _ _ _ rfl ((un HS2).alloc _) ⟨w.heap.size,0,none⟩ 1 1 [.int .i64 z] rfl rfl (Zft _ _ _) (Zff _) (by unfold maxLen;omega) (by omega) (by simp;omega) ?_;intro v' w2 hown' hgrow _ hat;obtain ⟨o2,q2,rfl,-⟩:=Xq hown';have g2:w2.cell? ⟨bs,2,none⟩=some (.slice oo l.length co):=hgrow.cell (((Zb.refl w).alloc _).cell c2) (fun e=>hbs e.symm);have gz:w2.frozen? ⟨bs,2,none⟩=false:=(World.frozen?_of_block (hgrow.block bs (by simp;omega) (fun e=>hbs e.symm))).trans ((World.frozen?_of_block (Below.heap_alloc w _ bs hbsw)).trans f2);have HOW:=Za hown';have HGR:=Za hgrow;have HAT:=Za hat;clear hown' hgrow hat)
  go_ret
  have hfin:=((un HO).alloc (.cells #[.int .i64 z] 3)).turnOut (w2:=w2) (l++[z]) (.slice o2 (l.length+1) q2) (by rw [un HEO];exact un HGR) (by rw [Zdm,List.length_append];exact un HOW) (by rw [un HEO];exact un HAT)
  refine ⟨by rw [un HP];rfl,Below.trans (Below.alloc (Below.refl _ w) hlw _) hfin.2,fun _=>⟨upd V .out (.slice o2 (l.length+1) q2),?_⟩⟩
  rw [un HP]
  exact hfin.1
def Jj (base bs:Nat) (r:St × Int) (w:World) (e:Ending) (w':World):Prop :=
 e=.returned (.int .i64 r.2)∧Below base w w'∧(r.2=0→∃ V',Zi base w' bs V' r.1)
theorem Zup (base bs:Nat) (V:Key→Value) (s:St) (i:Nat) (w:World) (h:Zi base w bs V s) (hn:s.now=i) (hr:Qa s i) (hst0:0<(Ze s i ((Zc s i).frames.length - 1)).stack.length)
  (hc:∀ c:Int,(Zc s i).caller=c→0≤c→∃ k:Nat,c=k∧k≠i∧Qa s k) :
  Calls Tryd.prog 96 #[.pointer (some ⟨bs,0,none⟩)] w fun e w'=>Jj base bs (Uk s) w e w':=by
 have hpl:=Zgh base bs V s i w h hn hr.lt hr.fr hr.frs hr.st hst0
 have hps:=Zbl hn
 have hcal:(Zc (Zj s) i).caller=(Zc s i).caller:=by rw [hps,Zbe _ hr.lt]
 have hlen:(Zj s).fibers.length=s.fibers.length:=by rw [hps];exact Xf _ _ _
 have hnow:(Zj s).now=i:=by rw [hps];exact hn
 have hoth:∀ k,k≠i→Zc (Zj s) k=Zc s k:=fun k hk=>by rw [hps];exact Zda _ (fun e=>hk e.symm)
 have hys:Uk s=if (Zc s i).caller<0 then (St.zero,7) else (Qb { (Zh (Zj s) i { Zc (Zj s) i with caller:=-1 }) with now:=(Zc s i).caller } (Zc s i).caller (Zv s),0):=by
  unfold Uk
  simp only
  rw [hn,Wg,Uu,hcal]
 rw [hys]
 generalize hcc:(Zc s i).caller=c at *
 have hc':=hc c rfl
 have HPL:=Za hpl
 have HLT:=Za hr.lt
 have HHO:=Za hoth
 clear hpl hps hys hc h
 generalize hs1:Zj s=s1 at *
 generalize Zv s=z at *
 have HC:=Za hc'
 clear hc' hr hst0 hs1 hcc
 generalize hL:s.fibers.length=L at *
 have HRK:Hid (∀ k,Qa s k→k≠i→Qa { (Zh s1 i { Zc s1 i with caller:=-1 }) with now:=(k:Int) } k):=Za (fun k hrk hki=>by
  refine hrk.other ?_ ?_
  ·show (Zh s1 i _).fibers.length=_
   rw [Xf,hlen,hL]
  ·show Zc (Zh s1 i _) k=_
   rw [Jb _ (fun e=>hki e.symm)]
   exact (un HHO) k hki)
 clear HHO hL
 generalize hR:(if c<0 then (St.zero,(7:Int)) else (Qb { (Zh s1 i { Zc s1 i with caller:=-1 }) with now:=c } c z,0))=R
 have HR:=Za hR
 clear hR
 go_enter Tryd.func96,Tryd.ntmps96
 go_wp2_with fail
 refine (un HPL).mono ?_
 rintro e w1 ⟨rfl,V1,ho1,hb1⟩
 obtain ⟨c0,c1,_,fz⟩:=ho1.cells
 obtain ⟨gF,capF,eF,hcF,_,k1,fzF,hbF⟩:=ho1.own.fib (i:=i) (by rw [hlen];exact un HLT)
 rw [eF] at c0
 rw [hnow] at c1
 rw [hcal] at k1
 have hne:¬ gF=bs:=fun e=>ho1.off .fibers trivial (by rw [eF,← e];rfl)
 have hne':¬ bs=gF:=fun e=>hne e.symm
 have hi1:(i:Int)<(L:Int):=by have:=un HLT;omega
 have hi0:(0:Int)≤(i:Int):=by omega
 rw [hlen] at c0
 have f1:=fz 1
 have fF:=fzF (i*2+1)
 have HO1:=Za ho1
 have HB1:=Za hb1
 have HEF:=Za eF
 clear ho1 hb1 eF fz fzF
 by_cases hneg:c<0
 ·have hR:=un HR
  rw [if_pos hneg] at hR
  subst hR
  have hd:decide (c<0)=true:=decide_eq_true hneg
  go_wp2
  go_quiet (fail)
  go_wp2
  go_ret
  exact ⟨rfl,below_drewN (un HB1) _,fun e=>by cases e⟩
 ·have hd:decide (c<0)=false:=decide_eq_false hneg
  obtain ⟨k,hk,hki,hrk⟩:=(un HC) (by omega)
  have hR:=un HR
  rw [if_neg hneg] at hR
  subst hR hk
  have HRK2:=Za ((un HRK) k hrk hki)
  clear hrk HC HRK HR
  go_wp2
  go_quiet (fail)
  go_wp2_with fail
  have hd1:Zi base (w1.drewN nq) bs V1 s1:=(un HO1).same rfl
  have ho2:=hd1.setNow (k:Int)
  obtain ⟨ho3,hb3⟩:=ho2.setCaller (i:=i) (by show i<s1.fibers.length;rw [hlen];exact un HLT) (show V1 .fibers=.slice (some ⟨gF,0,none⟩) s1.fibers.length capF from un HEF) (-1)
  have hrk:=un HRK2
  refine (Zbd base bs V1 _ k z _ ho3 hrk.lt hrk.fr hrk.frs hrk.st).mono ?_
  rintro e w4 ⟨rfl,V4,ho4,hb4⟩
  have hb5:Below base w w4:=Below.trans (Below.trans (Below.trans (below_drewN (un HB1) nq) (Below.setCell (Below.refl _ _) hd1.low _)) hb3) hb4
  have HB5:=Za hb5
  have HO4:=Za ho4
  clear ho2 ho3 hb3 hb4 hb5 ho4 hd1 hrk
  go_wp2
  go_ret
  exact ⟨rfl,un HB5,fun _=>⟨V4,un HO4⟩⟩
end Go.Proofs.YtblihfpigjiahaaDoor
