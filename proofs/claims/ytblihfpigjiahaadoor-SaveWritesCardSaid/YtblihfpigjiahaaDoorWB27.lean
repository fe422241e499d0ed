/- StateW, Bools, StateX, StateY -/
import Derived.Test.YtblihfpigjiahaaDoorWB26
import Derived.Test.YtblihfpigjiahaaDoorWB11
import Derived.Test.YtblihfpigjiahaaDoorWB08
import Derived.Test.YtblihfpigjiahaaDoorChecked
set_option maxRecDepth 100000
set_option maxHeartbeats 8000000
namespace Go.Proofs.YtblihfpigjiahaaDoor
open Go.RowKit
theorem Zkd (p:List Fn) (s:St) (v:Value) (w:World) (hj:Wj w v p s) (hl:Um p) (r:Bool) (hr:(s.fibers.all fun b=>b.frames.all (Xb p))=r) :
  Calls Tryd.prog 54 #[v] w fun e w'=>e=Yv 1 r∧Zb w w':=by
 have hh:∀ (u:Value) (x:Fr) (y:World),Zb w y→FrV y u x→Yg p x→Calls Tryd.prog 73 #[v,u] y fun e w'=>e=.returned (.int .i64 (hAt p x))∧Zb y w':=fun u x y hy hx hin=>Zfr p s v u x y (hj.kept hy) hx hl hin
 obtain ⟨vF,vO,vp,vh,rfl,h1,h2,h3,_⟩:=hj
 obtain ⟨of,cf,rfl,hfl,hcell⟩:=h1
 obtain ⟨op,cp,rfl,hpl,hpc⟩:=h3
 have HH:=Za hh
 have HC:=Za hcell
 have HPC:=Za hpc
 have HR:=Za hr
 clear hh hcell hpc h2 hr
 generalize hN:s.fibers.length=n at *
 have HN:=Za hN
 clear hN
 go_enter Tryd.func54,Tryd.ntmps54
 go_wp2
 generalize hw0:w.alloc (.cells #[.slice of n cf,.int .i64 s.now,vO,.slice op p.length cp,vh] 95)=w0 at *
 generalize hB:w.heap.size=B0 at *
 have L0:w0.heap[B0]?=some (.cells #[.slice of n cf,.int .i64 s.now,vO,.slice op p.length cp,vh] 95):=by rw [← hw0];exact Zg hB
 have HY:Hid (∀ u,Zb w0 u→u.cell? ⟨B0,0,none⟩=some (.slice of n cf)∧u.cell? ⟨B0,1,none⟩=some (.int .i64 s.now)∧u.cell? ⟨B0,2,none⟩=some vO∧u.cell? ⟨B0,3,none⟩=some (.slice op p.length cp)∧u.cell? ⟨B0,4,none⟩=some vh) :=
  Za (fun u hu=>⟨hu.cell (Zo L0 rfl),hu.cell (Zo L0 rfl),hu.cell (Zo L0 rfl),hu.cell (Zo L0 rfl),hu.cell (Zo L0 rfl)⟩)
 have HK0:Hid (Zb w w0):=by rw [← hw0];exact Za ((Zb.refl w).alloc _)
 clear hw0 hB L0
 go_loopw [11] (fun s11 wr=>∃ k:Nat,k≤n∧s11=.int .i64 k∧Hid (∀ i,i<k→(s.fibers.getD i Fb.zero).frames.all (Xb p)=true)∧Hid (Zb w0 wr)) (fun s11 _=>n - (intOf s11).toNat)
 case atStart=>exact ⟨0,Nat.zero_le _,rfl,(fun i hi=>by omega),Zb.refl _⟩
 case round =>
  obtain ⟨k,hkm,rfl,HA,HKr⟩:=hrel
  by_cases hlt:k<n
  ·have hki:k<s.fibers.length:=by rw [un HN];exact hlt
   obtain ⟨bf,off,vf,e1,k0,k1,hfr⟩:=(un HC) k _ (Zq s.fibers k Fb.zero hki)
   obtain ⟨ofr,cfr,rfl,hfl2,hfc⟩:=hfr
   subst e1
   have hk:=(un HK0).trans (un HKr)
   have l0:=hk.cell k0
   have l1:=hk.cell k1
   have HKI:=Za hki
   have HFC:=Za hfc
   have HKW:=Za hk
   generalize hb:s.fibers.getD k Fb.zero=b at *
   have HB:=Za hb
   generalize hq:b.frames.length=q at *
   have HQ:=Za hq
   clear hk k0 k1 hb hq hki hfc
   go_wp2
   generalize hw1:wr.alloc (.cells #[.slice ofr q cfr,.int .i64 b.caller] 46)=w1 at *
   have HK1:Hid (Zb w0 w1):=by rw [← hw1];exact Za ((un HKr).alloc _)
   clear hw1 l0 l1
   go_loopw [18] (fun s18 wq=>∃ j:Nat,j≤q∧s18=.int .i64 j∧Hid (∀ i,i<j→Xb p (b.frames.getD i Fr.zero)=true)∧Hid (Zb w0 wq)) (fun s18 _=>q - (intOf s18).toNat)
   case atStart=>exact ⟨0,Nat.zero_le _,rfl,(fun i hi=>by omega),HK1⟩
   case round =>
    obtain ⟨j,hjm,rfl,HJ,HKq⟩:=hrel
    by_cases hjl:j<q
    ·have hji:j<b.frames.length:=by rw [un HQ];exact hjl
     obtain ⟨bg,og,vl,vs,e2,m0,m1,m2,m3,hvl,hvs⟩:=(un HFC) j _ (Zq b.frames j Fr.zero hji)
     subst e2
     have hkq:=(un HK0).trans (un HKq)
     have HJI:=Za hji
     have hfx:Hid (Xb p (b.frames.getD j Fr.zero)=false→r=false):=Za (fun h=>by
      rw [← un HR]
      have:=Zfq (P:=Xb p) (d:=Fr.zero) (un HJI) h
      exact Zfq (d:=Fb.zero) (un HKI) (by rw [un HB];exact this))
     generalize hx:b.frames.getD j Fr.zero=x at *
     have HX:=Za hx
     have hfv:FrV wr (.agg #[.int .i64 x.fn,.int .i64 x.at_,vl,vs]) x:=⟨vl,vs,rfl,hvl.kept hkq,hvs.kept hkq⟩
     have HFV:=Za hfv
     obtain ⟨ol,cl,rfl,hnl,-⟩:=hvl
     obtain ⟨os,cs,rfl,hns,-⟩:=hvs
     have q0:=hkq.cell m0
     have q1:=hkq.cell m1
     have q2:=hkq.cell m2
     have q3:=hkq.cell m3
     obtain ⟨y0,y1,y2,y3,y4⟩:=(un HY) _ (un HKq)
     have ly:=Xo y0
     simp only at ly
     have HKQ:=Za hkq
     generalize hnle:x.locals.length=nl at *
     generalize hnse:x.stack.length=ns at *
     have HNL:=Za hnle
     clear hji hx hfv m0 m1 m2 m3 hkq hnle hnse
     by_cases c1:ixB x.fn p.length=true
     ·have hc1:=Jq.1 c1
      obtain ⟨i,hi⟩:∃ i:Nat,x.fn=i:=⟨x.fn.toNat,by omega⟩
      have hip:i<p.length:=by omega
      obtain ⟨bp,op',cv,e3,f0,f1,f2,hcv⟩:=(un HPC) i _ (Zq p i Fn.zero hip)
      obtain ⟨oc,cc,rfl,hcm,-⟩:=hcv
      subst e3
      have g0:=(un HKQ).cell f0
      have g1:=(un HKQ).cell f1
      have g2:=(un HKQ).cell f2
      have lb:=Xo g0
      simp only at lb
      have HIF:Hid (∀ u,Calls Tryd.prog 72 #[.int .i64 i,.int .i64 p.length] u fun e w'=>e=.returned (.bool true)∧u=w'):=Za (fun u=>by have:=Zbr x.fn p.length u;rwa [c1,hi] at this)
      have hfb:=Zng (p:=p) (x:=x) hi hip
      have HFB:=Za hfb
      have HI:=Za hi
      have HIP:=Za hip
      have hi1:(i:Int)<(p.length:Int):=by omega
      have hi0:(0:Int)≤(i:Int):=by omega
      rw [hi] at q0
      generalize har:(p.getD i Fn.zero).args=ar at *
      generalize hlo:(p.getD i Fn.zero).locals=lo at *
      have hme:(p.getD i Fn.zero).code.length=(Zx p i).length:=rfl
      generalize hm:(p.getD i Fn.zero).code.length=m at *
      have HM:=Za hme
      have HLO:=Za hlo
      clear f0 f1 f2 hfb har hlo hm hme c1 hc1
      clear hip hi
      go_wp2_with (first | (go_at_call 72;refine ((un HIF) _).mono ?_;rintro e wI ⟨rfl,rfl⟩) | (go_at_call 70;refine (Wo _ _ _ _ (by simp)).mono ?_;rintro e wC ⟨rfl,rfl⟩))
      generalize hwz:((wr.alloc (.cells #[.int .i64 i,.int .i64 x.at_,.slice ol nl cl,.slice os ns cs] 53)).alloc (.cells #[.bool true] 4)).alloc (.cells #[.int .i64 ar,.int .i64 lo,.slice oc m cc] 58)=wz at *
      generalize hBX:wr.heap.size=BX at *
      generalize hBF:BX+1+1=BF at *
      have LX:wz.heap[BX]?=some (.cells #[.int .i64 i,.int .i64 x.at_,.slice ol nl cl,.slice os ns cs] 53):=by rw [← hwz];exact Zr (Zr (Zg hBX) _) _
      have LF:wz.heap[BF]?=some (.cells #[.int .i64 ar,.int .i64 lo,.slice oc m cc] 58):=by rw [← hwz];exact Zg (by simp [hBX,hBF])
      have HKX:Hid (Zb wr wz):=by rw [← hwz];exact Za ((((Zb.refl wr).alloc _).alloc _).alloc _)
      have HY9:Hid (∀ u,Zb wz u→u.cell? ⟨BX,1,none⟩=some (.int .i64 x.at_)∧u.cell? ⟨BX,2,none⟩=some (.slice ol nl cl)∧u.cell? ⟨BF,1,none⟩=some (.int .i64 lo)∧u.cell? ⟨BF,2,none⟩=some (.slice oc m cc)):=Za (fun u hu=>⟨hu.cell (Zo LX rfl),hu.cell (Zo LX rfl),hu.cell (Zo LF rfl),hu.cell (Zo LF rfl)⟩)
      have HYX:Hid (∀ u,Zb wz u→u.cell? ⟨BX,0,none⟩=some (.int .i64 i)∧u.cell? ⟨BX,1,none⟩=some (.int .i64 x.at_)∧u.cell? ⟨BX,2,none⟩=some (.slice ol nl cl)∧u.cell? ⟨BX,3,none⟩=some (.slice os ns cs)):=Za (fun u hu=>⟨hu.cell (Zo LX rfl),hu.cell (Zo LX rfl),hu.cell (Zo LX rfl),hu.cell (Zo LX rfl)⟩)
      have HKZ:=Za ((un HKQ).trans (un HKX))
      clear hwz hBX hBF LX LF q0 q1 q2 q3 g0 g1 g2 y0 y1 y2 y3 y4 ly lb
      by_cases c2:(nl:Int)=lo
      ·have d2:((nl:Int) == lo)=true:=by rw [beq_iff_eq];exact c2
       by_cases c3:ixB x.at_ m=true
       ·have HIX:Hid (∀ u,Calls Tryd.prog 72 #[.int .i64 x.at_,.int .i64 m] u fun e w'=>e=.returned (.bool true)∧u=w'):=Za (fun u=>by have:=Zbr x.at_ m u;rwa [c3] at this)
        go_region_held2 (fun u=>u.cell? ⟨BX,1,none⟩=some (.int .i64 x.at_)∧u.cell? ⟨BX,2,none⟩=some (.slice ol nl cl)∧u.cell? ⟨BF,1,none⟩=some (.int .i64 lo)∧u.cell? ⟨BF,2,none⟩=some (.slice oc m cc))
         (exact (un HY9) _ (by repeat (first | exact Zb.refl _ | refine Zb.drew ?_ | refine Zb.alloc ?_ _)))
         (first | (go_at_call 72;refine ((un HIX) _).mono ?_;rintro e wI ⟨rfl,rfl⟩) | (go_at_call 70;refine (Zek _ _ _ _ (by simp) (by simp)).mono ?_;rintro e wC ⟨rfl,rfl⟩))
        have hin:Yg p x:=by
         have:=Jq.1 c3
         exact ⟨by have:=un HI;omega,by have:=un HI;have:=un HIP;omega,this.1,by rw [un HI,Int.toNat_natCast,← un HM];exact this.2⟩
        have HHX:Hid (∀ u,Zb wz u→Calls Tryd.prog 73 #[.agg #[.slice (some ⟨bf,off,none⟩) n cf,.int .i64 s.now,vO,.slice (some ⟨bp,op',none⟩) p.length cp,vh],.agg #[.int .i64 i,.int .i64 x.at_,.slice ol nl cl,.slice os ns cs]] u fun e w'=>e=.returned (.int .i64 (hAt p x))∧Zb u w'):=Za (fun u hu=>by
         have:=(un HH) _ x u ((un HKZ).trans hu) ((un HFV).kept ((un HKX).trans hu)) hin
         rwa [un HI] at this)
        have hfe:Xb p x=decide (0≤hAt p x):=by
         rw [un HFB,un HNL,decide_eq_true c2,← un HM,c3,Bool.true_and,Bool.true_and]
         unfold hAt
         rw [un HI,Int.toNat_natCast]
        have HFE:=Za hfe
        clear hin hfe c2 c3 d2 HIX
        generalize hAt p x=z at *
        generalize hwy:(wz.alloc (.cells #[.bool true,.bool true] 4)).drew=wy at *
        have hky:Zb wz wy:=by rw [← hwy];exact ((Zb.refl wz).alloc _).drew
        obtain ⟨y0,y1,y2,y3,y4⟩:=(un HY) wy (((un HKq).trans (un HKX)).trans hky)
        obtain ⟨x0,x1,x2,x3⟩:=(un HYX) wy hky
        have HHY:=Za ((un HHX) wy hky)
        have HKY:=Za (((un HKq).trans (un HKX)).trans hky)
        clear hwy hky HHX HY9 HYX
        by_cases hz:0≤z
        ·have dz:decide (0≤z)=true:=decide_eq_true hz
         have HFT:=Za ((un HFE).trans dz)
         go_wp2_with (first | (go_at_call 73;refine (un HHY).mono ?_;rintro e w5 ⟨rfl,hk5⟩) | (go_at_call 70;refine (Wo _ _ _ _ (by simp)).mono ?_;rintro e wC ⟨rfl,rfl⟩))
         go_roundw
         case rel =>
          refine ⟨j+1,by omega,by go_num,?_,Za ((Zb.trans (un HKY) hk5).alloc _)⟩
          intro i hi
          by_cases e:i=j
          ·subst e;rw [un HX];exact un HFT
          ·exact (un HJ) i (by omega)
         case measure=>simp [intOf];omega
        ·have dz:decide (0≤z)=false:=decide_eq_false hz
         have hrf:r=false:=(un hfx) ((un HFE).trans dz)
         subst hrf
         clear hz
         go_wp2_with (first | (go_at_call 73;refine (un HHY).mono ?_;rintro e w5 ⟨rfl,hk5⟩) | (go_at_call 70;refine (Ul _ _ _ _ (by simp)).mono ?_;rintro e wC ⟨rfl,rfl⟩;dsimp only [left]))
         exact ⟨rfl,rfl,(Zb.trans (un HK0) (Zb.trans (un HKY) hk5)).alloc _⟩
       ·have c3f:ixB x.at_ m=false:=by simpa using c3
        have HIX:Hid (∀ u,Calls Tryd.prog 72 #[.int .i64 x.at_,.int .i64 m] u fun e w'=>e=.returned (.bool false)∧u=w'):=Za (fun u=>by have:=Zbr x.at_ m u;rwa [c3f] at this)
        have hrf:r=false:=(un hfx) (by rw [un HFB,← un HM,c3f];simp)
        subst hrf
        clear c3 c3f
        go_region_held2 (fun u=>u.cell? ⟨BX,1,none⟩=some (.int .i64 x.at_)∧u.cell? ⟨BX,2,none⟩=some (.slice ol nl cl)∧u.cell? ⟨BF,1,none⟩=some (.int .i64 lo)∧u.cell? ⟨BF,2,none⟩=some (.slice oc m cc))
         (first | exact hF.elim | exact (un HY9) _ (by repeat (first | exact Zb.refl _ | refine Zb.drew ?_ | refine Zb.alloc ?_ _)))
         (first | (go_at_call 72;refine ((un HIX) _).mono ?_;rintro e wI ⟨rfl,rfl⟩) | (go_at_call 70;refine (Zel _ _ _ true _ (by simp) (by simp)).mono ?_;rintro e wC ⟨rfl,rfl⟩;dsimp only [left];refine (Classical.em False).elim (fun hF=>?_) (fun _=>⟨rfl,rfl,Zb.trans (un HKZ) (by repeat (first | exact Zb.refl _ | refine Zb.drew ?_ | refine Zb.alloc ?_ _))⟩);refine Ud ‹Shut _› hF ⟨#[],[]⟩ wz ?_))
        all_goals exact hF.elim
      ·have d2:((nl:Int) == lo)=false:=by rw [beq_eq_false_iff_ne];exact c2
       have hrf:r=false:=(un hfx) (by rw [un HFB,un HNL,decide_eq_false c2];rfl)
       subst hrf
       clear c2
       by_cases c3:ixB x.at_ m=true
       ·have HIX:Hid (∀ u,Calls Tryd.prog 72 #[.int .i64 x.at_,.int .i64 m] u fun e w'=>e=.returned (.bool true)∧u=w'):=Za (fun u=>by have:=Zbr x.at_ m u;rwa [c3] at this)
        go_region_held2 (fun u=>u.cell? ⟨BX,1,none⟩=some (.int .i64 x.at_)∧u.cell? ⟨BX,2,none⟩=some (.slice ol nl cl)∧u.cell? ⟨BF,1,none⟩=some (.int .i64 lo)∧u.cell? ⟨BF,2,none⟩=some (.slice oc m cc))
         (first | exact hF.elim | exact (un HY9) _ (by repeat (first | exact Zb.refl _ | refine Zb.drew ?_ | refine Zb.alloc ?_ _)))
         (first | (go_at_call 72;refine ((un HIX) _).mono ?_;rintro e wI ⟨rfl,rfl⟩) | (go_at_call 70;refine (Zbo _ _ _ true _ (by simp) (by simp)).mono ?_;rintro e wC ⟨rfl,rfl⟩;dsimp only [left];refine (Classical.em False).elim (fun hF=>?_) (fun _=>⟨rfl,rfl,Zb.trans (un HKZ) (by repeat (first | exact Zb.refl _ | refine Zb.drew ?_ | refine Zb.alloc ?_ _))⟩);refine Ud ‹Shut _› hF ⟨#[],[]⟩ wz ?_))
        all_goals exact hF.elim
       ·have c3f:ixB x.at_ m=false:=by simpa using c3
        have HIX:Hid (∀ u,Calls Tryd.prog 72 #[.int .i64 x.at_,.int .i64 m] u fun e w'=>e=.returned (.bool false)∧u=w'):=Za (fun u=>by have:=Zbr x.at_ m u;rwa [c3f] at this)
        clear c3 c3f
        go_region_held2 (fun u=>u.cell? ⟨BX,1,none⟩=some (.int .i64 x.at_)∧u.cell? ⟨BX,2,none⟩=some (.slice ol nl cl)∧u.cell? ⟨BF,1,none⟩=some (.int .i64 lo)∧u.cell? ⟨BF,2,none⟩=some (.slice oc m cc))
         (first | exact hF.elim | exact (un HY9) _ (by repeat (first | exact Zb.refl _ | refine Zb.drew ?_ | refine Zb.alloc ?_ _)))
         (first | (go_at_call 72;refine ((un HIX) _).mono ?_;rintro e wI ⟨rfl,rfl⟩) | (go_at_call 70;refine (Zbo _ _ _ false _ (by simp) (by simp)).mono ?_;rintro e wC ⟨rfl,rfl⟩;dsimp only [left];refine (Classical.em False).elim (fun hF=>?_) (fun _=>⟨rfl,rfl,Zb.trans (un HKZ) (by repeat (first | exact Zb.refl _ | refine Zb.drew ?_ | refine Zb.alloc ?_ _))⟩);refine Ud ‹Shut _› hF ⟨#[],[]⟩ wz ?_))
        all_goals exact hF.elim
     ·have c1f:ixB x.fn p.length=false:=by simpa using c1
      have HIF:Hid (∀ u,Calls Tryd.prog 72 #[.int .i64 x.fn,.int .i64 p.length] u fun e w'=>e=.returned (.bool false)∧u=w'):=Za (fun u=>by have:=Zbr x.fn p.length u;rwa [c1f] at this)
      have hrf:r=false:=(un hfx) (by unfold Xb;rw [c1f];rfl)
      subst hrf
      clear c1 c1f
      go_wp2_with (first | (go_at_call 72;refine ((un HIF) _).mono ?_;rintro e wI ⟨rfl,rfl⟩) | (go_at_call 70;refine (Ul _ _ _ _ (by simp)).mono ?_;rintro e wC ⟨rfl,rfl⟩;dsimp only [left]))
      exact ⟨rfl,rfl,((un HKQ).alloc _).alloc _⟩
    ·have hall:(s.fibers.getD k Fb.zero).frames.all (Xb p)=true:=by
      rw [un HB]
      exact Zfi (d:=Fr.zero) (fun i hi=>(un HJ) i (by have:=un HQ;omega))
     have HAL:=Za hall
     clear hall
     go_wp2
     go_roundw
     case rel =>
      refine ⟨k+1,by omega,by go_num,?_,HKq⟩
      intro i hi
      by_cases e:i=k
      ·subst e;exact un HAL
      ·exact (un HA) i (by omega)
     case measure=>simp [intOf];omega
  ·have hrt:r=true:=by
    rw [← un HR]
    exact Zfi (d:=Fb.zero) (fun i hi=>(un HA) i (by have:=un HN;omega))
   subst hrt
   go_wp2
   go_end0
   exact ⟨rfl,(un HK0).trans (un HKr)⟩
def Yr (w:World) (B:Nat) (l:List Bool):Prop:=w.heap[B]?=some (.cells (l.map (fun z=>Value.bool z)).toArray 4)
theorem Yr.kept {w w':World} {B:Nat} {l:List Bool} (h:Yr w B l) (k:Zb w w'):Yr w' B l:=Zm k h
theorem Yr.cell {w:World} {B:Nat} {l:List Bool} (h:Yr w B l) {k:Nat} (hk:k<l.length):w.cell? ⟨B,k,none⟩=some (.bool (l.getD k false)):=by
 rw [Zd h k];simp [hk,List.getD]
theorem Yr.frozen {w:World} {B:Nat} {l:List Bool} (h:Yr w B l) (k:Nat):w.frozen? ⟨B,k,none⟩=false:=Zk h k
theorem Yr.set {w:World} {B:Nat} {l:List Bool} (h:Yr w B l) (k:Nat) (z:Bool):Yr (w.setCell ⟨B,k,none⟩ (.bool z)) B (l.set k z):=by
 unfold Yr at *
 rw [Zl h k]
 congr 2
 simp [List.map_set]
theorem Yr.lt {w:World} {B:Nat} {l:List Bool} (h:Yr w B l):B<w.heap.size:=(Array.getElem?_eq_some_iff.1 h).1
theorem Yr.other {w:World} {B:Nat} {l:List Bool} (h:Yr w B l) {p:Addr} (hp:p.block≠B) (u:Value):Yr (w.setCell p u) B l:=Zz h (fun e=>hp e.symm) u
def Zcj (w:World) (v:Value) (l:List Bool):Prop :=
 ∃ oa cap,v=.slice oa l.length cap∧l.length≤8796093022208∧∀ i z,l[i]?=some z→∃ b o,oa=some ⟨b,o,none⟩∧w.cell? ⟨b,o+i,none⟩=some (.bool z)
theorem Zcj.kept {w w':World} (h:Zb w w') {v:Value} {l:List Bool} (hl:Zcj w v l):Zcj w' v l:=by
 obtain ⟨oa,cap,e,hn,hi⟩:=hl
 refine ⟨oa,cap,e,hn,fun i z hz=>?_⟩
 obtain ⟨b,o,e1,h1⟩:=hi i z hz
 exact ⟨b,o,e1,h.cell h1⟩
theorem Zcj.nil (w:World):Zcj w (.slice none 0 0) []:=⟨none,0,rfl,by simp,fun i z h=>by simp at h⟩
theorem Yr.slice {w:World} {B:Nat} {l:List Bool} (h:Yr w B l) (hl:l.length≤8796093022208) {n m:Nat} (hn:n=l.length):Zcj w (.slice (some ⟨B,0,none⟩) n m) l:=by
 subst hn
 refine ⟨_,_,rfl,hl,fun i z hz=>⟨B,0,rfl,?_⟩⟩
 have hi:=(List.getElem?_eq_some_iff.1 hz).1
 rw [Nat.zero_add,h.cell hi]
 simp [List.getD,hz]
theorem Ztk:(Tryd.prog.info? 4).map (fun i=>(i.zero,i.size,i.bytes))=some (some (.bool false),1,1):=by kernel_rfl
theorem Zpj (m:Nat):madeCells #[.bool false] m=((List.replicate m false).map (fun z=>Value.bool z)).toArray:=by
 apply Array.ext
 ·simp [madeCells]
 ·intro i h1 h2
  simp [madeCells,Nat.mod_one]
theorem Zvr (m:Nat) (hm:m≤1000000) (u:World):(Instr.makeSlice 96 (.int .i64 m) (.int .i64 m)).run Tryd.prog u =
  .ok (.slice (some ⟨u.heap.size,0,none⟩) m m) (u.alloc (.cells ((List.replicate m false).map (fun z=>Value.bool z)).toArray 4)):=by
 obtain ⟨i0,hi,hz0,hz1,hz2⟩:=info_parts Ztk
 have h:=run_make (P:=Tryd.prog) u 96 4 i0 (.bool false) Tryd.underlying96 hi hz0 .i64 .i64 (m:Int) (m:Int) (by omega) (Int.le_refl _) (by rw [hz2];omega) (by omega)
 rw [Int.toNat_natCast] at h
 rw [← Zpj]
 simpa [hz1,Value.cells] using h
def Uf (B:List Bool):Array Value:=(B.map fun z=>Value.bool z).toArray
theorem Zjc {B:List Bool} {i:Nat} (h:i<B.length):(Uf B)[i]?=some (.bool (B.getD i false)):=by
 simp [Uf,List.getD,h]
theorem Zlp (B:List Bool) (i:Nat):(Uf B).setIfInBounds i (.bool true)=Uf (B.set i true):=by
 simp [Uf,List.map_set]
def isNo:Value→Bool | .bool false=>true | _=>false
def Ziu:Option Obj→Nat
 | some (.cells c _ _)=>(c.toList.filter isNo).length
 | _=>0
theorem Zla (B:List Bool) (t:TypeId):Ziu (some (.cells (Uf B) t (0,0)))=Ut B:=by
 simp only [Ziu,Uf,Ut]
 induction B with
 | nil=>rfl
 | cons b r ih =>
  simp only [List.map_cons,List.filter_cons] at ih ⊢
  cases b
  ·simp only [isNo,Bool.not_false,if_true,List.length_cons]
   simpa using ih
  ·simpa [isNo] using ih
theorem Zsv (n:Nat):Ut (List.replicate n false)=n:=by
 simp [Ut]
def Zld (s:St) (w:World) (e:Ending) (w':World):Prop :=
 Zb w w'∧match Ug s with
  | none=>e=left 1
  | some B=>∃ g,e=.returned (.slice (some ⟨g,0,none⟩) s.fibers.length s.fibers.length)∧B.length=s.fibers.length∧w'.heap[g]?=some (.cells (Uf B) 4)
theorem Xan {fs:List Fb} {k:Nat} {n:Int} {B:List Bool} (h:n≠-1) (h1:B.getD n.toNat false=false) (h2:decide (Xt fs n=-1)=decide (n=0)):Yh fs (k+1) n B=Yh fs k (Xt fs n) (B.set n.toNat true):=by
 conv=>lhs;unfold Yh
 rw [if_neg h,if_neg]
 rw [h1,h2];simp
theorem Zjy {fs:List Fb} {k:Nat} {n:Int} {B:List Bool} (h:n≠-1) (h1:B.getD n.toNat false=true∨decide (Xt fs n=-1)≠decide (n=0)):Yh fs (k+1) n B=none:=by
 conv=>lhs;unfold Yh
 rw [if_neg h,if_pos h1]
theorem Zyx (p:List Fn) (s:St) (v:Value) (w:World) (hj:Wj w v p s) (hlim:Qt s=0) :
  Calls Tryd.prog 55 #[v] w fun e w'=>Zld s w e w':=by
 obtain ⟨hf5,_,_,hpos,⟨hn0,hn1⟩,hcal⟩:=Zbj hlim
 obtain ⟨vF,vO,vp,vh,rfl,h1,h2,h3,_⟩:=hj
 obtain ⟨of,cf,rfl,hfl,hcell⟩:=h1
 have hmk:=Zvr s.fibers.length (by omega)
 have HC:=Za hcell
 have HCAL:=Za hcal
 clear hcell h2 h3 hcal hlim
 generalize hN:s.fibers.length=n at *
 have HN:=Za hN
 clear hN
 go_enter Tryd.func55,Tryd.ntmps55
 go_wp2
 generalize hw0:w.alloc (.cells #[.slice of n cf,.int .i64 s.now,vO,vp,vh] 95)=w0 at *
 generalize hB:w.heap.size=B0 at *
 have L0:w0.heap[B0]?=some (.cells #[.slice of n cf,.int .i64 s.now,vO,vp,vh] 95):=by rw [← hw0];exact Zg hB
 have HY:Hid (∀ u,Zb w0 u→u.cell? ⟨B0,0,none⟩=some (.slice of n cf)):=Za (fun u hu=>hu.cell (Zo L0 rfl))
 have HK0:Hid (Zb w w0):=by rw [← hw0];exact Za ((Zb.refl w).alloc _)
 have hrep:Array.replicate n (Value.bool false)=Uf (List.replicate n false):=by simp [Uf]
 rw [hrep]
 have hsz:w0.heap.size=B0+1:=by rw [← hw0];simp [hB]
 generalize hBG:B0+1=BG at *
 generalize hw1:w0.alloc (.cells (Uf (List.replicate n false)) 4)=w1 at *
 have L1:w1.heap[BG]?=some (.cells (Uf (List.replicate n false)) 4):=by rw [← hw1];exact Zg hsz
 have HL1:=Za L1
 have HK1:Hid (Zb w0 w1):=by rw [← hw1];exact Za ((Zb.refl w0).alloc _)
 have HBG:Hid (w0.heap.size≤BG):=Za (by omega)
 clear hw0 hB L0 hrep hw1 L1 hBG hmk hsz
 go_loopw [4] (fun s4 wr=>∃ (m:Int) (B:List Bool),s4=.int .i64 m∧-1≤m∧m<n∧Hid (B.length=n)∧Hid (wr.heap[BG]?=some (.cells (Uf B) 4))∧Hid (Yh s.fibers (Ut B+1) m B=Yh s.fibers (n+1) s.now (List.replicate n false))∧Hid (Zb w0 wr)) (fun _ u=>Ziu u.heap[BG]?)
 case atStart=>exact ⟨s.now,List.replicate n false,rfl,hn0,hn1,Za (by simp),HL1,Za (by rw [Zsv]),HK1⟩
 case round =>
  obtain ⟨m,B,rfl,hm0,hm1,HBL,HLB,HJ,HK⟩:=hrel
  have y0:=(un HY) _ (un HK)
  by_cases hm:m=-1
  ·subst hm
   have hfin:Yh s.fibers (n+1) s.now (List.replicate n false)=some B:=by
    rw [← un HJ];unfold Yh;rfl
   have HF:=Za hfin
   have ly:=Xo y0
   simp only at ly
   clear hfin
   go_wp2
   go_loopw [51] (fun s51 wq=>∃ k:Nat,k≤n∧s51=.int .i64 k∧Hid (∀ i,i<k→(B.getD i false || decide ((s.fibers.getD i Fb.zero).caller=-1))=true)∧Hid (Zb wr wq)) (fun s51 _=>n - (intOf s51).toNat)
   case atStart=>exact ⟨0,Nat.zero_le _,rfl,(fun i hi=>by omega),Zb.refl _⟩
   case round =>
    obtain ⟨k,hkm,rfl,HA,HKq⟩:=hrel
    have hLB2:=Zm (un HKq) (un HLB)
    by_cases hlt:k<n
    ·have hki:k<s.fibers.length:=by rw [un HN];exact hlt
     obtain ⟨bf,off,vf,e1,k0,k1,hfr⟩:=(un HC) k _ (Zq s.fibers k Fb.zero hki)
     obtain ⟨ofr,cfr,rfl,-,-⟩:=hfr
     subst e1
     have hk:=((un HK0).trans (un HK)).trans (un HKq)
     have l0:=hk.cell k0
     have l1:=hk.cell k1
     have hlf:=Xo l0
     have hlg:=lt_of_block hLB2
     have cb:=Zo hLB2 (Zjc (B:=B) (i:=k) (by rw [un HBL];exact hlt))
     simp only at hlf
     have HKI:=Za hki
     have HKW:=Za hk
     generalize hcc:(s.fibers.getD k Fb.zero).caller=c at *
     generalize hbk:B.getD k false=bk at *
     have HCC:=Za hcc
     have HBK:=Za hbk
     clear hk k0 k1 hki hcc hbk hLB2
     have hkz:(0:Int)≤(k:Int):=by omega
     have hkn:(k:Int)<(n:Int):=by omega
     by_cases hbt:bk=true
     ·subst hbt
      go_wp2_with (go_at_call 70;refine (Wo _ _ _ _ (by simp)).mono ?_;rintro e w' ⟨rfl,rfl⟩)
      go_roundw
      case rel =>
       refine ⟨k+1,by omega,by go_num,?_,Za (((un HKq).alloc _).alloc _)⟩
       intro i hi
       by_cases e:i=k
       ·subst e;rw [un HBK];rfl
       ·exact (un HA) i (by omega)
      case measure=>simp [intOf];omega
     ·have hbf:bk=false:=by simpa using hbt
      subst hbf
      by_cases hc1:c=-1
      ·subst hc1
       go_wp2_with (go_at_call 70;refine (Wo _ _ _ _ (by simp)).mono ?_;rintro e w' ⟨rfl,rfl⟩)
       go_roundw
       case rel =>
        refine ⟨k+1,by omega,by go_num,?_,Za (((un HKq).alloc _).alloc _)⟩
        intro i hi
        by_cases e:i=k
        ·subst e;rw [un HCC];simp
        ·exact (un HA) i (by omega)
       case measure=>simp [intOf];omega
      ·have hcb:(c == -1)=false:=by rw [beq_eq_false_iff_ne];exact hc1
       have hno:Ug s=none:=by
        unfold Ug
        rw [un HN,un HF]
        simp only
        rw [if_neg]
        intro h
        have:=Uc.1 h k hlt
        rw [un HBK,un HCC,decide_eq_false hc1] at this
        cases this
       have HNO:=Za hno
       clear hno hc1 hbt
       go_wp2_with (go_at_call 70;refine (Ul _ _ _ _ (by simp)).mono ?_;rintro e w' ⟨rfl,rfl⟩;dsimp only [left])
       exact ⟨rfl,((un HKW).alloc _).alloc _,by rw [un HNO];rfl⟩
    ·have hyes:Ug s=some B:=by
      unfold Ug
      rw [un HN,un HF]
      simp only
      rw [if_pos]
      exact Uc.2 (fun i hi=>(un HA) i (by omega))
     have HYS:=Za hyes
     have HLB2:=Za hLB2
     clear hyes hLB2
     go_wp2
     go_ret
     refine ⟨((un HK0).trans (un HK)).trans (un HKq),?_⟩
     rw [un HYS]
     exact ⟨BG,by rw [un HN];rfl,by rw [un HBL,un HN],un HLB2⟩
  ·have hmb:(m != -1)=true:=by rw [bne_iff_ne];exact hm
   have hmi:m.toNat<s.fibers.length:=by have:=un HN;omega
   obtain ⟨bf,off,vf,e1,k0,k1,hfr⟩:=(un HC) m.toNat _ (Zq s.fibers m.toNat Fb.zero hmi)
   have hcr:=(un HCAL) _ (List.mem_of_getElem? (Zq s.fibers m.toNat Fb.zero hmi))
   subst e1
   have hk:=(un HK0).trans (un HK)
   have l1:=hk.cell k1
   have hbg:m.toNat<B.length:=by have:=un HBL;omega
   have cb:=Zo (un HLB) (Zjc hbg)
   have fz:=Zk (un HLB) m.toNat
   have hce:(s.fibers.getD m.toNat Fb.zero).caller=Xt s.fibers m:=rfl
   rw [hce] at l1 hcr
   have HKW:=Za hk
   obtain ⟨t,ht⟩:∃ t:Nat,m=t:=⟨m.toNat,by omega⟩
   have hmz:(0:Int)≤m:=by omega
   generalize hcc:Xt s.fibers m=c at *
   have HCC:=Za hcc
   have HBG2:=Za hbg
   clear hk k0 k1 hce hfr hcc hbg
   have hl0:=Xo y0
   have hlf:=Xo l1
   have hlg:=lt_of_block (un HLB)
   have hne1:¬ BG=B0:=by
    have:=Xo ((un HY) w0 (Zb.refl _));have:=un HBG;simp only at *;omega
   simp only at hl0 hlf
   subst ht
   simp only [Int.toNat_natCast] at cb fz hmi l1
   by_cases c1:B.getD t false=true
   ·have hno:Ug s=none:=by
     have:Yh s.fibers (n+1) s.now (List.replicate n false)=none:=by rw [← un HJ];exact Zjy hm (.inl (by rw [Int.toNat_natCast];exact c1))
     unfold Ug;rw [un HN,this]
    have HNO:=Za hno
    rw [c1] at cb
    clear hno c1
    go_wp2_with (go_at_call 70;refine (Zbo _ _ _ ((c == -1) == ((t:Int) == 0)) _ (by simp) (by simp)).mono ?_;rintro e w' ⟨rfl,rfl⟩;dsimp only [left])
    exact ⟨rfl,(un HKW).alloc _,by rw [un HNO];rfl⟩
   ·have c1f:B.getD t false=false:=by simpa using c1
    rw [c1f] at cb
    by_cases hq:decide (c=-1)=decide ((t:Int)=0)
    ·have hst:Yh s.fibers (Ut B+1) (t:Int) B=Yh s.fibers (Ut B) c (B.set t true):=by
      have:=Xan (fs:=s.fibers) (k:=Ut B) (n:=(t:Int)) (B:=B) hm (by rw [Int.toNat_natCast];exact c1f) (by rw [un HCC];exact hq)
      rw [un HCC,Int.toNat_natCast] at this
      exact this
     have hun:=Zlw B t (by have:=un HBL;omega) c1f
     have HST:=Za hst
     have HUN:=Za hun
     have hbe:(c == -1)=((t:Int) == 0):=hq
     clear hst hun c1 c1f hq
     go_wp2_with (go_at_call 70;refine (Zek _ _ _ _ (by simp) (by simp)).mono ?_;rintro e w' ⟨rfl,rfl⟩)
     go_roundw
     case rel =>
      refine ⟨c,B.set t true,rfl,hcr.1,hcr.2,Za (by rw [List.length_set];exact un HBL),Za ?_,Za ?_,Za (((un HK).setCell (p:=⟨BG,t,none⟩) (un HBG) _).alloc _)⟩
      ·rw [← Zlp]
       exact Zr (Zl (un HLB) t _) _
      ·rw [un HUN,← un HST];exact un HJ
     case measure =>
      have hz:∀ o:Obj,((wr.setCell ⟨BG,t,none⟩ (.bool true)).alloc o).heap[BG]?=some (.cells (Uf (B.set t true)) 4):=fun o=>by
       rw [← Zlp]
       exact Zr (Zl (un HLB) t _) _
      rw [hz,un HLB,Zla,Zla]
      have:=un HUN
      omega
    ·have hno:Ug s=none:=by
      have:Yh s.fibers (n+1) s.now (List.replicate n false)=none:=by rw [← un HJ];exact Zjy hm (.inr (by rw [un HCC];exact hq))
      unfold Ug;rw [un HN,this]
     have HNO:=Za hno
     have hbn:¬ (c == -1)=((t:Int) == 0):=hq
     clear hno c1 c1f hq
     go_wp2_with (go_at_call 70;refine (Zel _ _ _ true _ (by simp) (by simp;exact hbn)).mono ?_;rintro e w' ⟨rfl,rfl⟩;dsimp only [left])
     exact ⟨rfl,(un HKW).alloc _,by rw [un HNO];rfl⟩
theorem Zdv (p:List Fn):∀ l:List Fr,Qz p l=true↔∀ i,i+1<l.length→Qp p (l.getD i Fr.zero) (11,(l.getD (i+1) Fr.zero).fn)=true
 | []=>by simp [Qz]
 | [x]=>by simp [Qz]
 | x :: y :: r=>by
  have ih:=Zdv p (y :: r)
  simp only [Qz,Bool.and_eq_true,ih]
  constructor
  ·rintro ⟨h1,h2⟩ i hi
   cases i with
   | zero=>simpa using h1
   | succ i=>simpa using h2 i (by simpa using hi)
  ·intro h
   exact ⟨by simpa using h 0 (by simp),fun i hi=>by simpa using h (i+1) (by simpa using hi)⟩
def Zam (p:List Fn) (t:Fr) (isNow on:Bool):Bool :=
 if isNow=true then decide ((t.stack.length:Int)=hAt p t) else if on=true then Qp p t (14,0) else Qp p t (15,0)
theorem Zob {p:List Fn} {s:St} {n:Nat} {on:Bool} {b:Fb} (hb:s.fibers.getD n Fb.zero=b) (hn:0<b.frames.length) :
  Wk p s n on=((on || !decide (n=0)) && ((!on && Jy p b) || (Qz p b.frames && Zam p (b.frames.getD (b.frames.length - 1) Fr.zero) (decide ((n:Int)=s.now)) on))):=by
 have hl:b.frames.getLast?=some (b.frames.getD (b.frames.length - 1) Fr.zero):=by
  rw [List.getLast?_eq_getElem?];exact Zq _ _ _ (by omega)
 unfold Wk Zam
 rw [hb,hl]
 simp only [decide_eq_true_eq]
def AskW (w:World) (v:Value) (p:List Fn):Prop:=∀ (u:Value) (x:Fr) (k1 a1:Int) (y:World),Zb w y→FrV y u x→Yg p x →
 (Qp p x (k1,a1)=true→Calls Tryd.prog 75 #[v,u,.agg #[.int .i64 k1,.int .i64 a1]] y fun e w'=>e=.returned (.tuple #[])∧Zb y w') ∧
 (Qp p x (k1,a1)=false→Calls Tryd.prog 75 #[v,u,.agg #[.int .i64 k1,.int .i64 a1]] y fun e w'=>e=left 1∧Zb y w')
theorem askW {p:List Fn} {s:St} {v:Value} {w:World} (hj:Wj w v p s) (hl:Um p) (hb:∀ k a,k<p.length→-1000≤(hgt p k).getD a 0∧(hgt p k).getD a 0≤1000):AskW w v p:=by
 intro u x k1 a1 y hy hx hin
 have:=Zpx p s v u x k1 a1 y (hj.kept hy) hx hl hin hb
 constructor
 ·intro h;rw [h] at this;exact this
 ·intro h;rw [h] at this;exact this
theorem AskW.kept {w w':World} (hk:Zb w w') {v:Value} {p:List Fn} (h:AskW w v p):AskW w' v p:=fun u x k1 a1 y hy=>h u x k1 a1 y (hk.trans hy)
theorem Zzw (nn N cf cfr:Nat) (of ofr:Option Addr) (vO vp vh:Value) (now:Int) (bf off:Nat) (on:Bool) (w:World) (hN:nn<N)
  (k0:w.cell? ⟨bf,off+nn*2,none⟩=some (.slice ofr 0 cfr)) (hof:of=some ⟨bf,off,none⟩) :
  Calls Tryd.prog 56 #[.agg #[.slice of N cf,.int .i64 now,vO,vp,vh],.int .i64 nn,.bool on] w fun e w'=>e=Yv 1 (!on)∧Zb w w':=by
 subst hof
 have hn1:(nn:Int)<(N:Int):=by omega
 have hn0:(0:Int)≤(nn:Int):=by omega
 have lf:=Xo k0
 simp only at lf
 cases on with
 | true =>
  go_enter Tryd.func56,Tryd.ntmps56
  go_wp2_with (go_at_call 70;refine (Ul _ _ _ _ (by simp)).mono ?_;rintro e w' ⟨rfl,rfl⟩;dsimp only [left])
  exact ⟨rfl,rfl,((Zb.refl w).alloc _).alloc _⟩
 | false =>
  go_enter Tryd.func56,Tryd.ntmps56
  go_wp2_with (go_at_call 70;refine (Wo _ _ _ _ (by simp)).mono ?_;rintro e w' ⟨rfl,rfl⟩)
  first | go_end0 | refine bodyPost_ret (results_none rfl _ _ _) rfl ?_
  exact ⟨rfl,((Zb.refl w).alloc _).alloc _⟩
end Go.Proofs.YtblihfpigjiahaaDoor
