/- SameS, RunLs, OpAr, StepA, StepB, StepC, StepD -/
import Derived.Test.YtblihfpigjiahaaGreatDoorYB28
import Derived.Test.YtblihfpigjiahaaGreatDoorYB21
import Derived.Deep.RegionHeld3
import Derived.Deep.DeepCutAuto
import Derived.Test.YtblihfpigjiahaaGreatDoorYB01
import Derived.Test.YtblihfpigjiahaaGreatDoorYB12
import Derived.Test.YtblihfpigjiahaaGreatDoorYB15
import Derived.StillTailTactics
set_option maxRecDepth 100000
set_option maxHeartbeats 8000000
namespace Go.Proofs.YtblihfpigjiahaaGreatDoor
open Go.RowKit
theorem Zoq (s:St) (v1 v2:Value) (w:World) (h1:Xo w v1 s) (h2:Xo w v2 s) :
  Calls Tryz.prog 10 #[v1,v2] w fun e w'=>e=.returned (.bool true)∧Za w w':=by
 obtain ⟨vf1,vo1,rfl,hf1,ho1⟩:=h1
 obtain ⟨vf2,vo2,rfl,hf2,ho2⟩:=h2
 obtain ⟨oa1,cap1,rfl,hl,i1⟩:=hf1
 obtain ⟨oa2,cap2,rfl,_,i2⟩:=hf2
 have HSI:Hid (∀ u,Za w u→Calls Tryz.prog 28 #[vo1,vo2] u fun e w'=>e=.returned (.bool true)∧Za u w'):=Zb (fun u hu=>by
  have:=Zjn s.out s.out vo1 vo2 u (ho1.kept hu) (ho2.kept hu)
  rwa [decide_eq_true rfl] at this)
 obtain ⟨oo1,co1,rfl,_,_⟩:=ho1
 obtain ⟨oo2,co2,rfl,_,_⟩:=ho2
 have hn1:(s.now != s.now)=false:=by simp
 have hn2:((s.fibers.length:Int) != (s.fibers.length:Int))=false:=by simp
 generalize hN:s.fibers.length=N at *
 generalize s.out.length=M at *
 have HI1:=Zb i1
 have HI2:=Zb i2
 have HN:=Zb hN
 clear i1 i2 hN
 go_enter Tryz.func10,Tryz.ntmps10
 go_wp2_with fail
 refine ((un HSI) _ (((Za.refl w).alloc _).alloc _)).mono ?_
 rintro e w1 ⟨rfl,hk1⟩
 have hkw:=(((Za.refl w).alloc (.cells #[.slice oa1 N cap1,.int .i64 s.now,.slice oo1 M co1] 26)).alloc (.cells #[.slice oa2 N cap2,.int .i64 s.now,.slice oo2 M co2] 26)).trans hk1
 have L0:=Zn hk1 (Zo (Zh (w:=w) (o:=.cells #[.slice oa1 N cap1,.int .i64 s.now,.slice oo1 M co1] 26) rfl) (.cells #[.slice oa2 N cap2,.int .i64 s.now,.slice oo2 M co2] 26))
 have L1:w1.heap[w.heap.size+1]?=some (.cells #[.slice oa2 N cap2,.int .i64 s.now,.slice oo2 M co2] 26):=Zn hk1 (Zh (by simp))
 have X0:Hid (w1.cell? ⟨w.heap.size,0,none⟩=some (.slice oa1 N cap1)):=Zb (Zr L0 rfl)
 have Y0:Hid (w1.cell? ⟨w.heap.size+1,0,none⟩=some (.slice oa2 N cap2)):=Zb (Zr L1 rfl)
 have HKW:=Zb hkw
 clear hk1 hkw L0 L1 HSI
 go_wp2
 go_loopw [5] (fun s5 wr=>∃ k:Nat,k≤N∧s5=.int .i64 k∧Hid (Za w1 wr)) (fun s5 _=>N - (intOf s5).toNat)
 case atStart=>exact ⟨0,Nat.zero_le _,rfl,Za.refl _⟩
 case round =>
  obtain ⟨k,hkm,rfl,HKr⟩:=hrel
  have dx:=(un HKr).cell (un X0)
  have dy:=(un HKr).cell (un Y0)
  by_cases hlt:k<N
  ·obtain ⟨f,hx⟩:∃ f,s.fibers[k]?=some f:=⟨_,List.getElem?_eq_getElem (by rw [un HN];exact hlt)⟩
   obtain ⟨p1,o1,vf1,rfl,x0,x1,hc1⟩:=(un HI1) k _ hx
   obtain ⟨p2,o2,vf2,rfl,y0,y1,hc2⟩:=(un HI2) k _ hx
   have hk:=(un HKW).trans (un HKr)
   obtain ⟨oc1,cc1,rfl,hlf,j1⟩:=hc1
   obtain ⟨oc2,cc2,rfl,_,j2⟩:=hc2
   have HJ1:=Zb j1
   have HJ2:=Zb j2
   have hk1:(k:Int)<(N:Int):=by omega
   have hk0:(0:Int)≤(k:Int):=by omega
   have HY:Hid (∀ u,Za wr u→u.cell? ⟨w.heap.size,0,none⟩=some (.slice (some ⟨p1,o1,none⟩) N cap1)∧u.cell? ⟨w.heap.size+1,0,none⟩=some (.slice (some ⟨p2,o2,none⟩) N cap2)∧u.cell? ⟨p1,o1+k*2,none⟩=some (.slice oc1 f.frames.length cc1)∧u.cell? ⟨p1,o1+k*2+1,none⟩=some (.int .i64 f.caller)∧u.cell? ⟨p2,o2+k*2,none⟩=some (.slice oc2 f.frames.length cc2)∧u.cell? ⟨p2,o2+k*2+1,none⟩=some (.int .i64 f.caller)) :=
    Zb (fun u hu=>⟨hu.cell dx,hu.cell dy,hu.cell (hk.cell x0),hu.cell (hk.cell x1),hu.cell (hk.cell y0),hu.cell (hk.cell y1)⟩)
   have HKW2:=Zb hk
   clear j1 j2 x0 x1 y0 y1 hk
   go_wp2_with fail
   go_cut [6,7] from 33 to 108 (fun s6 s7 wx=>∃ b6 b7,s6=.pointer (some ⟨b6,0,none⟩)∧s7=.pointer (some ⟨b7,0,none⟩)∧Hid (wx.cell? ⟨b6,0,none⟩=some (.slice oc1 f.frames.length cc1)∧wx.cell? ⟨b6,1,none⟩=some (.int .i64 f.caller)∧wx.cell? ⟨b7,0,none⟩=some (.slice oc2 f.frames.length cc2)∧wx.cell? ⟨b7,1,none⟩=some (.int .i64 f.caller)∧Za wr wx))
   case first =>
    go_region_held3 (fun u=>u.cell? ⟨w.heap.size,0,none⟩=some (.slice (some ⟨p1,o1,none⟩) N cap1)∧u.cell? ⟨w.heap.size+1,0,none⟩=some (.slice (some ⟨p2,o2,none⟩) N cap2)∧u.cell? ⟨p1,o1+k*2,none⟩=some (.slice oc1 f.frames.length cc1)∧u.cell? ⟨p1,o1+k*2+1,none⟩=some (.int .i64 f.caller)∧u.cell? ⟨p2,o2+k*2,none⟩=some (.slice oc2 f.frames.length cc2)∧u.cell? ⟨p2,o2+k*2+1,none⟩=some (.int .i64 f.caller))
     (exact (un HY) _ (by repeat (first | exact Za.refl _ | refine Za.drew ?_ | refine Za.alloc ?_ _ | refine Za.setCell ?_ (by simp) _))) (fail)
    all_goals go_wp2_with fail
    all_goals go_meet
    all_goals exact ⟨_,_,rfl,rfl,Zb ⟨by simp,by simp,by simp,by simp,(((Za.refl wr).alloc _).alloc _).drew⟩⟩
   case rest =>
    obtain ⟨b6,b7,rfl,rfl,HC⟩:=hcut
    obtain ⟨z0,z1,z2,z3,hkc⟩:=un HC
    have hn3:(f.caller != f.caller)=false:=by simp
    have HZ0:=Zb z0
    have HZ2:=Zb z2
    have HKC:=Zb hkc
    have HKr0:=HKr
    have HFW:=Zb ((un HKW2).trans hkc)
    generalize hq:f.frames.length=q at *
    have HQ:=Zb hq
    have hn4:((q:Int) != (q:Int))=false:=by simp
    clear HC hkc hq dx dy HY
    go_wp2
    clear z0 z1 z2 z3
    go_loopw [8] (fun s8 wr=>∃ i:Nat,i≤q∧s8=.int .i64 i∧Hid (Za wc wr)) (fun s8 _=>q - (intOf s8).toNat)
    case atStart=>exact ⟨0,Nat.zero_le _,rfl,Za.refl _⟩
    case round =>
     obtain ⟨i,hiq,rfl,HKi⟩:=hrel
     have dz:=(un HKi).cell (un HZ0)
     have dw:=(un HKi).cell (un HZ2)
     by_cases hil:i<q
     ·obtain ⟨x,hx2⟩:∃ x,f.frames[i]?=some x:=⟨_,List.getElem?_eq_getElem (by rw [un HQ];exact hil)⟩
      obtain ⟨g1,t1,vl1,vs1,rfl,a0,a1,a2,a3,hvl1,hvs1⟩:=(un HJ1) i _ hx2
      obtain ⟨g2,t2,vl2,vs2,rfl,e0,e1,e2,e3,hvl2,hvs2⟩:=(un HJ2) i _ hx2
      have hk:=(un HFW).trans (un HKi)
      have HSL:Hid (∀ u,Za wr u→Calls Tryz.prog 28 #[vl1,vl2] u fun e w'=>e=.returned (.bool true)∧Za u w'):=Zb (fun u hu=>by
       have:=Zjn x.locals x.locals vl1 vl2 u (hvl1.kept (hk.trans hu)) (hvl2.kept (hk.trans hu))
       rwa [decide_eq_true rfl] at this)
      have HSS:Hid (∀ u,Za wr u→Calls Tryz.prog 28 #[vs1,vs2] u fun e w'=>e=.returned (.bool true)∧Za u w'):=Zb (fun u hu=>by
       have:=Zjn x.stack x.stack vs1 vs2 u (hvs1.kept (hk.trans hu)) (hvs2.kept (hk.trans hu))
       rwa [decide_eq_true rfl] at this)
      obtain ⟨ol1,cl1,rfl,_,_⟩:=hvl1
      obtain ⟨os1,cs1,rfl,_,_⟩:=hvs1
      obtain ⟨ol2,cl2,rfl,_,_⟩:=hvl2
      obtain ⟨os2,cs2,rfl,_,_⟩:=hvs2
      have HYi:Hid (∀ u,Za wr u→u.cell? ⟨b6,0,none⟩=some (.slice (some ⟨g1,t1,none⟩) q cc1)∧u.cell? ⟨b7,0,none⟩=some (.slice (some ⟨g2,t2,none⟩) q cc2)∧u.cell? ⟨g1,t1+i*4,none⟩=some (.int .i64 x.fn)∧u.cell? ⟨g1,t1+i*4+1,none⟩=some (.int .i64 x.at_)∧u.cell? ⟨g1,t1+i*4+2,none⟩=some (.slice ol1 x.locals.length cl1)∧u.cell? ⟨g1,t1+i*4+3,none⟩=some (.slice os1 x.stack.length cs1)∧u.cell? ⟨g2,t2+i*4,none⟩=some (.int .i64 x.fn)∧u.cell? ⟨g2,t2+i*4+1,none⟩=some (.int .i64 x.at_)∧u.cell? ⟨g2,t2+i*4+2,none⟩=some (.slice ol2 x.locals.length cl2)∧u.cell? ⟨g2,t2+i*4+3,none⟩=some (.slice os2 x.stack.length cs2)) :=
       Zb (fun u hu=>⟨hu.cell dz,hu.cell dw,hu.cell (hk.cell a0),hu.cell (hk.cell a1),hu.cell (hk.cell a2),hu.cell (hk.cell a3),hu.cell (hk.cell e0),hu.cell (hk.cell e1),hu.cell (hk.cell e2),hu.cell (hk.cell e3)⟩)
      have hi1:(i:Int)<(q:Int):=by omega
      have hi0:(0:Int)≤(i:Int):=by omega
      have hn5:(x.fn != x.fn)=false:=by simp
      have hn6:(x.at_ != x.at_)=false:=by simp
      clear a0 a1 a2 a3 e0 e1 e2 e3 hk hx2
      go_wp2_with fail
      go_cut [9,10] from 64 to 108 (fun s9 s10 wx=>∃ b9 b10,s9=.pointer (some ⟨b9,0,none⟩)∧s10=.pointer (some ⟨b10,0,none⟩)∧Hid (wx.heap[b9]?=some (.cells #[.int .i64 x.fn,.int .i64 x.at_,.slice ol1 x.locals.length cl1,.slice os1 x.stack.length cs1] 48)∧wx.heap[b10]?=some (.cells #[.int .i64 x.fn,.int .i64 x.at_,.slice ol2 x.locals.length cl2,.slice os2 x.stack.length cs2] 48)∧Za wr wx))
      case first =>
       go_region_held3 (fun u=>u.cell? ⟨b6,0,none⟩=some (.slice (some ⟨g1,t1,none⟩) q cc1)∧u.cell? ⟨b7,0,none⟩=some (.slice (some ⟨g2,t2,none⟩) q cc2)∧u.cell? ⟨g1,t1+i*4,none⟩=some (.int .i64 x.fn)∧u.cell? ⟨g1,t1+i*4+1,none⟩=some (.int .i64 x.at_)∧u.cell? ⟨g1,t1+i*4+2,none⟩=some (.slice ol1 x.locals.length cl1)∧u.cell? ⟨g1,t1+i*4+3,none⟩=some (.slice os1 x.stack.length cs1)∧u.cell? ⟨g2,t2+i*4,none⟩=some (.int .i64 x.fn)∧u.cell? ⟨g2,t2+i*4+1,none⟩=some (.int .i64 x.at_)∧u.cell? ⟨g2,t2+i*4+2,none⟩=some (.slice ol2 x.locals.length cl2)∧u.cell? ⟨g2,t2+i*4+3,none⟩=some (.slice os2 x.stack.length cs2))
        (exact (un HYi) _ (by repeat (first | exact Za.refl _ | refine Za.drew ?_ | refine Za.alloc ?_ _ | refine Za.setCell ?_ (by simp) _))) (fail)
       all_goals go_wp2_with fail
       all_goals go_meet
       all_goals first
        | exact ⟨_,_,rfl,rfl,Zb ⟨Zo (Zh rfl) _,Zh (by simp),(((Za.refl wr).alloc _).alloc _).drew⟩⟩
        | exact ⟨_,_,rfl,rfl,Zb ⟨Zh (by simp),Zo (Zh rfl) _,(((Za.refl wr).alloc _).alloc _).drew⟩⟩
      case rest =>
       obtain ⟨b9,b10,rfl,rfl,HD⟩:=hcut
       obtain ⟨l9,l10,hkd⟩:=un HD
       have y0:=Zr l9 (i:=0) rfl
       have y1:=Zr l9 (i:=1) rfl
       have y2:=Zr l9 (i:=2) rfl
       have y4:=Zr l10 (i:=0) rfl
       have y5:=Zr l10 (i:=1) rfl
       have y6:=Zr l10 (i:=2) rfl
       have HL9:=Zb l9
       have HL10:=Zb l10
       have HKD:=Zb hkd
       clear HD l9 l10 hkd dz dw HYi
       go_wp2_with fail
       refine ((un HSL) _ (un HKD)).mono ?_
       rintro e w4 ⟨rfl,hk4⟩
       have y3:=Zr (Zn hk4 (un HL9)) (i:=3) rfl
       have y7:=Zr (Zn hk4 (un HL10)) (i:=3) rfl
       have HK4:=Zb ((un HKD).trans hk4)
       clear hk4
       go_wp2_with fail
       refine ((un HSS) _ (un HK4)).mono ?_
       rintro e w5 ⟨rfl,hk5⟩
       have HK5:=Zb ((un HK4).trans hk5)
       clear hk5
       go_wp2
       go_roundw
       case rel=>exact ⟨i+1,by omega,by go_num,(un HKi).trans (un HK5)⟩
       case measure=>simp [intOf];omega
     ·have hi1:¬ ((i:Int)<(q:Int)):=by omega
      go_wp2
      go_roundw
      case rel=>exact ⟨k+1,by omega,by go_num,(un HKr0).trans ((un HKC).trans (un HKi))⟩
      case measure=>simp [intOf];omega
  ·go_wp2
   go_ret
   exact ⟨rfl,(un HKW).trans (un HKr)⟩
theorem Xl (i l n:Int) (w:World) :
  Calls Tryz.prog 30 #[.int .i64 i,.int .i64 l,.int .i64 n] w fun e w'=>e=.returned (.bool (inB i l n))∧w=w':=by
 by_cases h1:l≤i
 ·by_cases h2:i≤n
  ·rw [Yu h1 h2]
   go_enter Tryz.func30,Tryz.ntmps30
   go_wp2
   go_ret
   exact ⟨rfl,rfl⟩
  ·rw [Uz (by omega)]
   go_enter Tryz.func30,Tryz.ntmps30
   go_wp2
   go_ret
   exact ⟨rfl,rfl⟩
 ·rw [Uz (by omega)]
  go_enter Tryz.func30,Tryz.ntmps30
  go_wp2
  go_ret
  exact ⟨rfl,rfl⟩
def Zdv (base bs:Nat) (s':St) (r:Value) (w:World) (e:Ending) (w':World):Prop:=e=.returned r∧∃ V',Zg base w' bs V' s'∧Below base w w'
theorem Zwm (bs N capF gF i q cap g:Nat) (w:World) (hi:i<N) (hq:0<q) (hqs:q≤1000)
  (c0:w.cell? ⟨bs,0,none⟩=some (.slice (some ⟨gF,0,none⟩) N capF)) (c1:w.cell? ⟨gF,i*2,none⟩=some (.slice (some ⟨g,0,none⟩) q cap)) :
  Calls Tryz.prog 103 #[.pointer (some ⟨bs,0,none⟩),.int .i64 i] w fun e w'=>e=.returned (.pointer (some ⟨g,(q - 1)*4,none⟩))∧∃ m,w'=w.drewN m:=by
 obtain ⟨t,rfl⟩:∃ t,q=t+1:=⟨q - 1,by omega⟩
 have hi1:(i:Int)<(N:Int):=by omega
 have hi0:(0:Int)≤(i:Int):=by omega
 have hw:IntKind.i64.wrap (((t+1:Nat):Int) - 1)=(t:Int):=by rw [IntKind.wrap_i64];omega
 have hw2:IntKind.i64.wrap ((t:Int)+1 - 1)=(t:Int):=by rw [IntKind.wrap_i64];omega
 have ht:(t:Int)+1 - 1=(t:Int):=by omega
 have ht1:(t:Int)<(t:Int)+1:=by omega
 have ht0:(0:Int)≤(t:Int):=by omega
 go_enter Tryz.func103,Tryz.ntmps103
 go_wp2
 go_quiet (fail)
 go_wp2
 go_ret
 exact ⟨rfl,_,rfl⟩
theorem Wb {base bs:Nat} {w:World} {V:Key→Value} {s:St} (h:Zg base w bs V s) {i:Nat} (hi:i<s.fibers.length) (hq:0<(Zc s i).frames.length) (hqs:(Zc s i).frames.length≤1000) :
  ∃ g cap,V (.frames i)=.slice (some ⟨g,0,none⟩) (Zc s i).frames.length cap∧Calls Tryz.prog 103 #[.pointer (some ⟨bs,0,none⟩),.int .i64 i] w fun e w'=>e=.returned (.pointer (some ⟨g,((Zc s i).frames.length - 1)*4,none⟩))∧∃ m,w'=w.drewN m:=by
 obtain ⟨gF,capF,eF,_,k0,_⟩:=h.own.fib hi
 obtain ⟨g,cap,eg,_,_⟩:=h.own.fr hi (j:=0) hq
 obtain ⟨c0,_⟩:=h.cells
 rw [eF] at c0
 rw [eg] at k0
 exact ⟨g,cap,eg,Zwm bs _ capF gF i _ cap g w hi hq hqs c0 k0⟩
theorem Zbo (base bs:Nat) (V:Key→Value) (s:St) (i:Nat) (z:Int) (w:World) (h:Zg base w bs V s) (hi:i<s.fibers.length) (hq:0<(Zc s i).frames.length) (hqs:(Zc s i).frames.length≤1000) (hst:(Ze s i ((Zc s i).frames.length - 1)).stack.length≤1000) :
  Calls Tryz.prog 104 #[.pointer (some ⟨bs,0,none⟩),.int .i64 i,.int .i64 z] w fun e w'=>Zdv base bs (Zy s i z) (.tuple #[]) w e w':=by
 obtain ⟨i0,hi0,hz0,hz1,hz2⟩:=info_parts Zai
 obtain ⟨g,cap,eg,htop⟩:=Wb h hi hq hqs
 unfold Zy
 rw [Uj]
 generalize hj:(Zc s i).frames.length - 1=j at *
 have hjl:j<(Zc s i).frames.length:=by omega
 have HT:=Zb htop
 have HO:=Zb h
 have HEG:=Zb eg
 clear htop h
 go_enter Tryz.func104,Tryz.ntmps104
 go_wp2_with fail
 refine (un HT).mono ?_
 rintro e w1 ⟨rfl,m,rfl⟩
 generalize hw1:w.drewN m=w1
 have ho1:Zg base w1 bs V s:=(un HO).same (by rw [← hw1];rfl)
 have hb1:Below base w w1:=by rw [← hw1];exact below_drewN (Below.refl _ w) m
 obtain ⟨g',cap',eg',_,f0,f1,f2,f3,ffz,hbg⟩:=ho1.own.fr hi hjl
 rw [un HEG] at eg'
 obtain ⟨⟨rfl⟩,-,rfl⟩:=(by simpa using eg':(g=g')∧True∧cap=cap')
 have hs:=ho1.own.stk hi hjl
 have hlg:=Xm f0
 simp only at hlg
 have hbw:base≤w1.heap.size:=by omega
 have hgs:(V (.stack i j)).ownBlock≠some g:=fun e=>by
  have:=ho1.own.apart (.stack i j) (.frames i) g ⟨hi,hjl⟩ hi e (by rw [un HEG];rfl)
  cases this
 have HO1:=Zb ho1
 have HB1:=Zb hb1
 have HS:=Zb hs
 have hfz:=ffz (j*4+3)
 generalize hvs:V (.stack i j)=vs0 at *
 have HVS:=Zb hvs
 generalize hl:(Ze s i j).stack=l at *
 have HL:=Zb hl
 clear hw1 hb1 ho1 hvs hl hs f0 f1 f2 ffz eg'
 go_wp2_with (at_builtin;refine wpList_append_own_at _ rfl _ _ 24 rfl base 3 i0 (.int .i64 0) 1 8 Tryz.underlying24 hi0 hz0 hz1 hz2 rfl (by decide) _ _ _ rfl ((un HS).alloc _) ⟨w1.heap.size,0,none⟩ 1 1 [.int .i64 z] rfl rfl (Zed _ _ _) (Zcr _) (by unfold maxLen;omega) (by omega) (by simp;omega) ?_;intro v' w2 hown' hgrow _ hat;obtain ⟨o2,c2,rfl,-⟩:=Zw hown';have g3:w2.cell? ⟨g,j*4+3,none⟩=some vs0:=hgrow.cell (((Za.refl w1).alloc _).cell f3) (fun e=>hgs e.symm);have gz:w2.frozen? ⟨g,j*4+3,none⟩=false:=(World.frozen?_of_block (hgrow.block g (by simp;omega) (fun e=>hgs e.symm))).trans ((World.frozen?_of_block (Below.heap_alloc w1 _ g hlg)).trans hfz);have HOW:=Zb hown';have HGR:=Zb hgrow;have HAT:=Zb hat;clear hown' hgrow hat)
 go_end0
 have hfin:=((un HO1).alloc (.cells #[.int .i64 z] 3)).turnStack (w2:=w2) hi hjl (un HEG) (.slice o2 (l.length+1) c2) (l++[z]) (by rw [un HVS];exact un HGR) (by rw [Zcz,List.length_append];exact un HOW) (by rw [un HVS];exact un HAT)
 unfold Zdv
 refine ⟨rfl,upd V (.stack i j) (.slice o2 (l.length+1) c2),?_,?_⟩
 ·rw [un HL]
  exact hfin.1
 ·exact Below.trans (un HB1) (Below.trans (Below.alloc (Below.refl _ w1) hbw _) hfin.2)
def Zlz (base bs:Nat) (s':St) (r:Value) (V:Key→Value) (i:Nat) (w:World) (e:Ending) (w':World):Prop :=
 e=.returned r∧∃ V',Zg base w' bs V' s'∧Below base w w'∧V' (.frames i)=V (.frames i)∧(∀ k,(V' k).ownBlock=(V k).ownBlock)∧∀ b,(V (.frames i)).ownBlock≠some b→w'.heap[b]?=w.heap[b]?
theorem Zae (base bs:Nat) (V:Key→Value) (s:St) (i:Nat) (w:World) (h:Zg base w bs V s) (hn:s.now=i) (hi:i<s.fibers.length) (hq:0<(Zc s i).frames.length) (hqs:(Zc s i).frames.length≤1000) (hst:(Ze s i ((Zc s i).frames.length - 1)).stack.length≤1000) (hst0:0<(Ze s i ((Zc s i).frames.length - 1)).stack.length) :
  Calls Tryz.prog 105 #[.pointer (some ⟨bs,0,none⟩)] w fun e w'=>Zlz base bs (Zf s) (.int .i64 (Zl s)) V i w e w':=by
 obtain ⟨g,cap,eg,htop⟩:=Wb h hi hq hqs
 have hlast:Zl s=(Ze s i ((Zc s i).frames.length - 1)).stack.getD ((Ze s i ((Zc s i).frames.length - 1)).stack.length - 1) 0:=by
  unfold Zl St.top St.fib
  rw [hn,Int.toNat_natCast,show s.fibers.getD i Fb.zero=Zc s i from rfl,Zem,List.getLast?_eq_getElem?]
  rfl
 have hpull:Zf s=Qc s i ((Zc s i).frames.length - 1) { Ze s i ((Zc s i).frames.length - 1) with stack:=(Ze s i ((Zc s i).frames.length - 1)).stack.dropLast }:=by
  unfold Zf
  rw [hn,Uj]
 rw [hpull]
 generalize hzz:Zl s=z at *
 clear hpull hzz
 generalize hj:(Zc s i).frames.length - 1=j at *
 have hjl:j<(Zc s i).frames.length:=by omega
 obtain ⟨_,c1,_,_⟩:=h.cells
 rw [hn] at c1
 have HT:=Zb htop
 have HO:=Zb h
 have HEG:=Zb eg
 clear htop h
 go_enter Tryz.func105,Tryz.ntmps105
 go_wp2_with fail
 refine (un HT).mono ?_
 rintro e w1 ⟨rfl,m,rfl⟩
 generalize hw1:w.drewN m=w1
 have ho1:Zg base w1 bs V s:=(un HO).same (by rw [← hw1];rfl)
 have hb1:Below base w w1:=by rw [← hw1];exact below_drewN (Below.refl _ w) m
 have HSM:Hid (w1.heap=w.heap):=by rw [← hw1];exact Zb rfl
 obtain ⟨g',cap',eg',_,f0,f1,f2,f3,ffz,hbg⟩:=ho1.own.fr hi hjl
 rw [un HEG] at eg'
 obtain ⟨⟨rfl⟩,-,rfl⟩:=(by simpa using eg':(g=g')∧True∧cap=cap')
 have hs:=ho1.own.stk hi hjl
 obtain ⟨gs,cs,es,hcs,hcell,_,_⟩:=Us hs hst0
 have hfz:=ffz (j*4+3)
 have HO1:=Zb ho1
 have HB1:=Zb hb1
 rw [es] at f3 hs
 have HS:=Zb hs
 have HES:=Zb es
 have hlt:(Ze s i j).stack.length - 1<(Ze s i j).stack.length:=by omega
 have hcl:=hcell ((Ze s i j).stack.length - 1) (.int .i64 ((Ze s i j).stack.getD ((Ze s i j).stack.length - 1) 0)) (Zaa (Zs _ _ 0 hlt))
 generalize hl:(Ze s i j).stack=l at *
 have HL:=Zb hl
 obtain ⟨t,ht⟩:∃ t,l.length=t+1:=⟨l.length - 1,by omega⟩
 rw [← hlast] at hcl
 rw [ht] at f3 hcl
 simp only [Nat.add_sub_cancel] at hcl
 have hw:IntKind.i64.wrap ((t:Int)+1 - 1)=(t:Int):=by rw [IntKind.wrap_i64];omega
 have hts:(t:Int)+1 - 1=(t:Int):=by omega
 have ht1:(t:Int)<(t:Int)+1:=by omega
 have ht0:(0:Int)≤(t:Int):=by omega
 have htc:(t:Int)≤(cs:Int):=by omega
 have HTL:=Zb ht
 clear hw1 hb1 ho1 es hl hs f0 f1 f2 ffz eg' hcell hlast
 go_wp2
 go_quiet (fail)
 go_wp2
 generalize hw3:w1.drewN nq=w3
 have ho3:Zg base w3 bs V s:=(un HO1).same (by rw [← hw3];rfl)
 have k3:w3.cell? ⟨g,j*4+3,none⟩=some (.slice (some ⟨gs,0,none⟩) (t+1) cs):=by rw [← hw3];exact f3
 have kz:w3.frozen? ⟨g,j*4+3,none⟩=false:=by rw [← hw3];exact hfz
 have HB3:Hid (Below base w w3):=by rw [← hw3];exact Zb (below_drewN (un HB1) nq)
 have HSM3:Hid (w3.heap=w.heap):=by rw [← hw3];exact Zb (un HSM)
 have HO3:=Zb ho3
 clear hw3 ho3 f3 hfz hcl HB1 HO1
 go_region
 all_goals go_wp2_with fail
 go_ret
 have hdl:l.dropLast=l.take t:=by rw [List.dropLast_eq_take,un HTL,Nat.add_sub_cancel]
 have hrow:w3.ownsRow base 3 1 (.slice (some ⟨gs,0,none⟩) t cs) (l.take t).length (ints (l.take t)):=by
  have h3:=(un HO3).own.stk hi hjl
  rw [un HES,un HL] at h3
  have hlt':(l.take t).length=t:=by rw [List.length_take];have:=un HTL;omega
  rw [hlt']
  exact Zoe h3 rfl t (by have:=un HTL;omega)
 have hfin:=(un HO3).turnStack (w2:=w3) hi hjl (un HEG) (.slice (some ⟨gs,0,none⟩) t cs) (l.take t) (Zic _ _) hrow (.inl (by rw [un HES];rfl))
 unfold Zlz
 refine ⟨rfl,upd V (.stack i j) (.slice (some ⟨gs,0,none⟩) t cs),?_,?_,Zp V _ (by simp),fun k=>?_,fun b hb=>?_⟩
 ·rw [un HL,hdl]
  exact Zg.same hfin.1 rfl
 ·exact Below.drew (Below.trans (un HB3) hfin.2)
 ·by_cases e:k=.stack i j
  ·subst e;rw [Qb,un HES];rfl
  ·rw [Zp V _ e]
 ·show (w3.setCell _ _).heap[b]?=_
  rw [Below.heap_setCell _ _ _ _ (fun e=>hb (by rw [un HEG];exact congrArg some e.symm)),un HSM3]
theorem Zga (base bs:Nat) (V:Key→Value) (s:St) (i:Nat) (w:World) (h:Zg base w bs V s) (hn:s.now=i) (hi:i<s.fibers.length) (hq:0<(Zc s i).frames.length) (hqs:(Zc s i).frames.length≤1000) (hst:(Ze s i ((Zc s i).frames.length - 1)).stack.length≤1000) (hst0:0<(Ze s i ((Zc s i).frames.length - 1)).stack.length) :
  Calls Tryz.prog 105 #[.pointer (some ⟨bs,0,none⟩)] w fun e w'=>Zdv base bs (Zf s) (.int .i64 (Zl s)) w e w' :=
 (Zae base bs V s i w h hn hi hq hqs hst hst0).mono fun _ _ ⟨h1,V',h2,h3,_⟩=>⟨h1,V',h2,h3⟩
def Zwk (base bs:Nat) (s:St) (v:Int) (w:World) (e:Ending) (w':World):Prop :=
 e=.returned (.int .i64 (Qq s v).2)∧Below base w w'∧((Qq s v).2=0→∃ V',Zg base w' bs V' (Qq s v).1)
theorem Zka (base bs:Nat) (V:Key→Value) (s:St) (z:Int) (w:World) (h:Zg base w bs V s) (ho:s.out.length≤30) :
  Calls Tryz.prog 110 #[.pointer (some ⟨bs,0,none⟩),.int .i64 z] w fun e w'=>Zwk base bs s z w e w':=by
 obtain ⟨i0,hi0,hz0,hz1,hz2⟩:=info_parts Zai
 obtain ⟨_,_,c2,fz⟩:=h.cells
 have hs:w.ownsRow base 3 1 (V .out) s.out.length (ints s.out):=h.own.piece .out trivial
 have hbsw:=lt_of_block h.var
 have hlow:=h.low
 have hbs:(V .out).ownBlock≠some bs:=h.off .out trivial
 have f2:=fz 2
 obtain ⟨oo,co,eo,hrow⟩:=Zw hs
 have HO:=Zb h
 have HS:=Zb hs
 have HEO:=Zb eo
 rw [eo] at c2
 clear h fz hrow
 by_cases h30:s.out.length=30
 ·have hp:Qq s z=(St.zero,2):=by unfold Qq;rw [if_pos h30]
  have HP:=Zb hp
  rw [h30] at c2
  clear hp h30
  go_enter Tryz.func110,Tryz.ntmps110
  go_wp2
  go_ret
  exact ⟨by rw [un HP];rfl,Below.refl _ _,fun e=>by rw [un HP] at e;cases e⟩
 ·have hp:Qq s z=({ s with out:=s.out++[z] },0):=by unfold Qq;rw [if_neg h30]
  have HP:=Zb hp
  have hb:((s.out.length:Int) == 30)=false:=by rw [beq_eq_false_iff_ne];omega
  rw [eo] at hs hbs
  have HS2:=Zb hs
  have hlw:base≤w.heap.size:=by omega
  clear hp hs
  generalize hl:s.out=l at *
  have HL:=Zb hl
  clear hl
  go_enter Tryz.func110,Tryz.ntmps110
  go_wp2_with (at_builtin;refine wpList_append_own_at _ rfl _ _ 24 rfl base 3 i0 (.int .i64 0) 1 8 Tryz.underlying24 hi0 hz0 hz1 hz2 rfl (by decide) _ _ _ rfl ((un HS2).alloc _) ⟨w.heap.size,0,none⟩ 1 1 [.int .i64 z] rfl rfl (Zed _ _ _) (Zcr _) (by unfold maxLen;omega) (by omega) (by simp;omega) ?_;intro v' w2 hown' hgrow _ hat;obtain ⟨o2,q2,rfl,-⟩:=Zw hown';have g2:w2.cell? ⟨bs,2,none⟩=some (.slice oo l.length co):=hgrow.cell (((Za.refl w).alloc _).cell c2) (fun e=>hbs e.symm);have gz:w2.frozen? ⟨bs,2,none⟩=false:=(World.frozen?_of_block (hgrow.block bs (by simp;omega) (fun e=>hbs e.symm))).trans ((World.frozen?_of_block (Below.heap_alloc w _ bs hbsw)).trans f2);have HOW:=Zb hown';have HGR:=Zb hgrow;have HAT:=Zb hat;clear hown' hgrow hat)
  go_ret
  have hfin:=((un HO).alloc (.cells #[.int .i64 z] 3)).turnOut (w2:=w2) (l++[z]) (.slice o2 (l.length+1) q2) (by rw [un HEO];exact un HGR) (by rw [Zcz,List.length_append];exact un HOW) (by rw [un HEO];exact un HAT)
  refine ⟨by rw [un HP];rfl,Below.trans (Below.alloc (Below.refl _ w) hlw _) hfin.2,fun _=>⟨upd V .out (.slice o2 (l.length+1) q2),?_⟩⟩
  rw [un HP]
  exact hfin.1
def Jh (base bs:Nat) (r:St × Int) (w:World) (e:Ending) (w':World):Prop :=
 e=.returned (.int .i64 r.2)∧Below base w w'∧(r.2=0→∃ V',Zg base w' bs V' r.1)
theorem Zxz (base bs:Nat) (V:Key→Value) (s:St) (i:Nat) (w:World) (h:Zg base w bs V s) (hn:s.now=i) (hr:Zu s i) (hst0:0<(Ze s i ((Zc s i).frames.length - 1)).stack.length)
  (hc:∀ c:Int,(Zc s i).caller=c→0≤c→∃ k:Nat,c=k∧k≠i∧Zu s k) :
  Calls Tryz.prog 109 #[.pointer (some ⟨bs,0,none⟩)] w fun e w'=>Jh base bs (Wp s) w e w':=by
 have hpl:=Zga base bs V s i w h hn hr.lt hr.fr hr.frs hr.st hst0
 have hps:=Yj hn
 have hcal:(Zc (Zf s) i).caller=(Zc s i).caller:=by rw [hps,Zad _ hr.lt]
 have hlen:(Zf s).fibers.length=s.fibers.length:=by rw [hps];exact Xh _ _ _
 have hnow:(Zf s).now=i:=by rw [hps];exact hn
 have hoth:∀ k,k≠i→Zc (Zf s) k=Zc s k:=fun k hk=>by rw [hps];exact Zcs _ (fun e=>hk e.symm)
 have hys:Wp s=if (Zc s i).caller<0 then (St.zero,7) else (Zy { (Zj (Zf s) i { Zc (Zf s) i with caller:=-1 }) with now:=(Zc s i).caller } (Zc s i).caller (Zl s),0):=by
  unfold Wp
  simp only
  rw [hn,Ym,Wj,hcal]
 rw [hys]
 generalize hcc:(Zc s i).caller=c at *
 have hc':=hc c rfl
 have HPL:=Zb hpl
 have HLT:=Zb hr.lt
 have HHO:=Zb hoth
 clear hpl hps hys hc h
 generalize hs1:Zf s=s1 at *
 generalize Zl s=z at *
 have HC:=Zb hc'
 clear hc' hr hst0 hs1 hcc
 generalize hL:s.fibers.length=L at *
 have HRK:Hid (∀ k,Zu s k→k≠i→Zu { (Zj s1 i { Zc s1 i with caller:=-1 }) with now:=(k:Int) } k):=Zb (fun k hrk hki=>by
  refine hrk.other ?_ ?_
  ·show (Zj s1 i _).fibers.length=_
   rw [Xh,hlen,hL]
  ·show Zc (Zj s1 i _) k=_
   rw [Qo _ (fun e=>hki e.symm)]
   exact (un HHO) k hki)
 clear HHO hL
 generalize hR:(if c<0 then (St.zero,(7:Int)) else (Zy { (Zj s1 i { Zc s1 i with caller:=-1 }) with now:=c } c z,0))=R
 have HR:=Zb hR
 clear hR
 go_enter Tryz.func109,Tryz.ntmps109
 go_wp2_with fail
 refine (un HPL).mono ?_
 rintro e w1 ⟨rfl,V1,ho1,hb1⟩
 obtain ⟨c0,c1,_,fz⟩:=ho1.cells
 obtain ⟨gF,capF,eF,hcF,_,k1,fzF,hbF⟩:=ho1.own.fib (i:=i) (by rw [hlen];exact un HLT)
 rw [eF] at c0
 rw [hnow] at c1
 rw [hcal] at k1
 have hne:¬ gF=bs:=fun e=>ho1.off .fibers trivial (by rw [eF,← e];rfl)
 have hne':¬ bs=gF:=fun e=>hne e.symm
 have hi1:(i:Int)<(L:Int):=by have:=un HLT;omega
 have hi0:(0:Int)≤(i:Int):=by omega
 rw [hlen] at c0
 have f1:=fz 1
 have fF:=fzF (i*2+1)
 have HO1:=Zb ho1
 have HB1:=Zb hb1
 have HEF:=Zb eF
 clear ho1 hb1 eF fz fzF
 by_cases hneg:c<0
 ·have hR:=un HR
  rw [if_pos hneg] at hR
  subst hR
  have hd:decide (c<0)=true:=decide_eq_true hneg
  go_wp2
  go_quiet (fail)
  go_wp2
  go_ret
  exact ⟨rfl,below_drewN (un HB1) _,fun e=>by cases e⟩
 ·have hd:decide (c<0)=false:=decide_eq_false hneg
  obtain ⟨k,hk,hki,hrk⟩:=(un HC) (by omega)
  have hR:=un HR
  rw [if_neg hneg] at hR
  subst hR hk
  have HRK2:=Zb ((un HRK) k hrk hki)
  clear hrk HC HRK HR
  go_wp2
  go_quiet (fail)
  go_wp2_with fail
  have hd1:Zg base (w1.drewN nq) bs V1 s1:=(un HO1).same rfl
  have ho2:=hd1.setNow (k:Int)
  obtain ⟨ho3,hb3⟩:=ho2.setCaller (i:=i) (by show i<s1.fibers.length;rw [hlen];exact un HLT) (show V1 .fibers=.slice (some ⟨gF,0,none⟩) s1.fibers.length capF from un HEF) (-1)
  have hrk:=un HRK2
  refine (Zbo base bs V1 _ k z _ ho3 hrk.lt hrk.fr hrk.frs hrk.st).mono ?_
  rintro e w4 ⟨rfl,V4,ho4,hb4⟩
  have hb5:Below base w w4:=Below.trans (Below.trans (Below.trans (below_drewN (un HB1) nq) (Below.setCell (Below.refl _ _) hd1.low _)) hb3) hb4
  have HB5:=Zb hb5
  have HO4:=Zb ho4
  clear ho2 ho3 hb3 hb4 hb5 ho4 hd1 hrk
  go_wp2
  go_ret
  exact ⟨rfl,un HB5,fun _=>⟨V4,un HO4⟩⟩
def popped (s:St) (i:Nat):St:=Zj (Zf s) i { Zc (Zf s) i with frames:=(Zc (Zf s) i).frames.dropLast }
theorem Zxl {s:St} {i:Nat} (hn:s.now=i) (hi:i<s.fibers.length):Wg s =
  if (popped s i).fibers.length=0∨(Zc (popped s i) i).frames=[] then
   (if (Zc s i).caller<0 then Qq { popped s i with now:=-1 } (Zl s)
    else (Zy { (Zj (popped s i) i { Zc (popped s i) i with caller:=-1 }) with now:=(Zc s i).caller } (Zc s i).caller (Zl s),0))
  else (Zy (popped s i) i (Zl s),0):=by
 have hps:=Yj hn
 have hcal:(Zc (Zf s) i).caller=(Zc s i).caller:=by rw [hps,Zad _ hi]
 have hlen:(Zf s).fibers.length=s.fibers.length:=by rw [hps];exact Xh _ _ _
 have hlp:(popped s i).fibers.length=s.fibers.length:=by unfold popped;rw [Xh,hlen]
 have hcp:(Zc (popped s i) i).caller=(Zc s i).caller:=by
  unfold popped;rw [Xu _ (by rw [hlen];exact hi)];exact hcal
 unfold Wg
 simp only
 rw [hn,Wj]
 show (if ((popped s i).fib (i:Int)).frames=[] then if ((popped s i).fib (i:Int)).caller<0 then _ else (Zy { ((popped s i).turn (i:Int) _) with now:=((popped s i).fib (i:Int)).caller } ((popped s i).fib (i:Int)).caller (Zl s),0) else (Zy (popped s i) (i:Int) (Zl s),0))=_
 rw [Ym,Wj,hcp]
 have h0:¬ (popped s i).fibers.length=0:=by omega
 simp only [h0,false_or]
 rfl
theorem Zta (base bs:Nat) (V:Key→Value) (s:St) (i:Nat) (w:World) (h:Zg base w bs V s) (hn:s.now=i) (hr:Zu s i) (hst0:0<(Ze s i ((Zc s i).frames.length - 1)).stack.length)
  (ho:s.out.length≤30) (hbel:1<(Zc s i).frames.length→(Ze s i ((Zc s i).frames.length - 2)).stack.length≤1000)
  (hc:∀ c:Int,(Zc s i).caller=c→0≤c→∃ k:Nat,c=k∧k≠i∧Zu s k) :
  Calls Tryz.prog 107 #[.pointer (some ⟨bs,0,none⟩)] w fun e w'=>Jh base bs (Wg s) w e w':=by
 have hpl:=Zga base bs V s i w h hn hr.lt hr.fr hr.frs hr.st hst0
 have hps:=Yj hn
 have hcal:(Zc (Zf s) i).caller=(Zc s i).caller:=by rw [hps,Zad _ hr.lt]
 have hlen:(Zf s).fibers.length=s.fibers.length:=by rw [hps];exact Xh _ _ _
 have hnow:(Zf s).now=i:=by rw [hps];exact hn
 have hout:(Zf s).out=s.out:=by rw [hps];rfl
 have hfl:(Zc (Zf s) i).frames.length=(Zc s i).frames.length:=by rw [hps];exact Ua _ hr.lt i
 have hlt1:i<(Zf s).fibers.length:=by rw [hlen];exact hr.lt
 have hoth:∀ k,k≠i→Zc (popped s i) k=Zc s k:=fun k hk=>by
  unfold popped
  rw [Qo _ (fun e=>hk e.symm),hps]
  exact Zcs _ (fun e=>hk e.symm)
 have hlp:(popped s i).fibers.length=s.fibers.length:=by unfold popped;rw [Xh,hlen]
 have hfp:Zc (popped s i) i={ Zc (Zf s) i with frames:=(Zc (Zf s) i).frames.dropLast }:=by unfold popped;exact Xu _ hlt1
 have hfpl:(Zc (popped s i) i).frames.length=(Zc s i).frames.length - 1:=by rw [hfp];simp [hfl]
 have hrb:1<(Zc s i).frames.length→Zu (popped s i) i:=fun h1=>by
  refine ⟨by rw [hlp];exact hr.lt,by omega,by have:=hr.frs;omega,?_⟩
  have:Ze (popped s i) i ((Zc (popped s i) i).frames.length - 1)=Ze s i ((Zc s i).frames.length - 2):=by
   rw [hfpl]
   unfold Ze
   rw [hfp]
   simp only
   have hlt2:(Zc s i).frames.length - 1 - 1<(Zc (Zf s) i).frames.length - 1:=by omega
   rw [show (Zc s i).frames.length - 2=(Zc s i).frames.length - 1 - 1 by omega]
   have e1:(Zc (Zf s) i).frames.dropLast.getD ((Zc s i).frames.length - 1 - 1) Fr.zero=(Zc (Zf s) i).frames.getD ((Zc s i).frames.length - 1 - 1) Fr.zero:=by
    have h2:(Zc s i).frames.length - 1 - 1<(Zc (Zf s) i).frames.length:=by omega
    simp [List.getD,hlt2,h2]
   rw [e1]
   have:=Pj (s:=s) (i:=i) (j:=(Zc s i).frames.length - 1) (i':=i) (j':=(Zc s i).frames.length - 1 - 1) { Ze s i ((Zc s i).frames.length - 1) with stack:=(Ze s i ((Zc s i).frames.length - 1)).stack.dropLast } hr.lt (by rintro ⟨_,e⟩;omega)
   rw [← hps] at this
   exact this
  rw [this];exact hbel h1
 rw [Zxl hn hr.lt]
 have hemp:((popped s i).fibers.length=0∨(Zc (popped s i) i).frames=[])↔(Zc s i).frames.length=1:=by
  have:=hr.fr
  have:=hr.lt
  constructor
  ·rintro (e | e)
   ·omega
   ·have:=congrArg List.length e
    simp only [List.length_nil] at this
    omega
  ·intro e
   exact .inr (List.length_eq_zero_iff.1 (by omega))
 have hlop:=hr.lt
 have hq1:=hr.fr
 have hq2:=hr.frs
 have HRB:=Zb hrb
 have HRK:Hid (∀ k,Zu s k→k≠i→Zu { (Zj (popped s i) i { Zc (popped s i) i with caller:=-1 }) with now:=(k:Int) } k):=Zb (fun k hrk hki=>by
  refine hrk.other ?_ ?_
  ·show (Zj (popped s i) i _).fibers.length=_
   rw [Xh,hlp]
  ·show Zc (Zj (popped s i) i _) k=_
   rw [Qo _ (fun e=>hki e.symm)]
   exact hoth k hki)
 have hpout:(popped s i).out.length≤30:=by
  have:(popped s i).out=s.out:=hout
  rw [this];exact ho
 have hpnow:(popped s i).now=i:=hnow
 generalize hcc:(Zc s i).caller=c at *
 have hc':=hc c rfl
 generalize hzz:Zl s=z at *
 generalize hR:(if (popped s i).fibers.length=0∨(Zc (popped s i) i).frames=[] then (if c<0 then Qq { popped s i with now:=-1 } z else (Zy { (Zj (popped s i) i { Zc (popped s i) i with caller:=-1 }) with now:=c } c z,0)) else (Zy (popped s i) i z,0))=R
 have HR:=Zb hR
 have HEM:=Zb hemp
 have HPL:=Zb hpl
 have HC:=Zb hc'
 have HS1:=Zb hlt1
 have HFP:=Zb (show popped s i=Zj (Zf s) i { Zc (Zf s) i with frames:=(Zc (Zf s) i).frames.dropLast } from rfl)
 obtain ⟨t,ht⟩:∃ t,(Zc s i).frames.length=t+1:=⟨_,(Nat.sub_add_cancel hq1).symm⟩
 rw [ht] at hfl hq2 hemp
 have HT:=Zb ht
 clear hR hemp hpl hps hc' hc h hr hrb hoth hfp hbel hcc hzz
 generalize hs1:Zf s=s1 at *
 generalize hL:s.fibers.length=L at *
 clear hs1
 go_enter Tryz.func107,Tryz.ntmps107
 go_wp2_with fail
 refine (un HPL).mono ?_
 rintro e w1 ⟨rfl,V1,ho1,hb1⟩
 obtain ⟨c0,c1,_,fz⟩:=ho1.cells
 obtain ⟨gF,capF,eF,hcF,k0,k1,fzF,hbF⟩:=ho1.own.fib (i:=i) hlt1
 obtain ⟨g,cap,eg,hcap,_⟩:=ho1.own.fr (i:=i) (j:=0) hlt1 (by omega)
 rw [eF] at c0
 rw [hnow] at c1
 rw [hcal] at k1
 rw [hlen] at c0
 rw [eg,hfl] at k0
 rw [hfl] at hcap
 have hne:¬ gF=bs:=fun e=>ho1.off .fibers trivial (by rw [eF,← e];rfl)
 have hne':¬ bs=gF:=fun e=>hne e.symm
 have hi1:(i:Int)<(L:Int):=by omega
 have hi0:(0:Int)≤(i:Int):=by omega
 have hw:IntKind.i64.wrap ((t:Int)+1 - 1)=(t:Int):=by rw [IntKind.wrap_i64];omega
 have hts:(t:Int)+1 - 1=(t:Int):=by omega
 have ht0:(0:Int)≤(t:Int):=by omega
 have htc:(t:Int)≤(cap:Int):=by omega
 have fF:=fzF (i*2)
 have hdr:=ho1.dropFrame hlt1 eF eg
 rw [hfl,Nat.add_sub_cancel] at hdr
 have HDR:=Zb hdr
 have HO1:=Zb ho1
 have HB1:=Zb hb1
 have HEF:=Zb eF
 clear ho1 hb1 hdr
 go_wp2
 go_quiet (fail)
 go_wp2
 generalize hw2:w1.drewN nq=w2
 have y0:w2.cell? ⟨bs,0,none⟩=some (.slice (some ⟨gF,0,none⟩) L capF):=by rw [← hw2];exact c0
 have y1:w2.cell? ⟨bs,1,none⟩=some (.int .i64 i):=by rw [← hw2];exact c1
 have j0:w2.cell? ⟨gF,i*2,none⟩=some (.slice (some ⟨g,0,none⟩) (t+1) cap):=by rw [← hw2];exact k0
 have j1:w2.cell? ⟨gF,i*2+1,none⟩=some (.int .i64 c):=by rw [← hw2];exact k1
 have jz:w2.frozen? ⟨gF,i*2,none⟩=false:=by rw [← hw2];exact fF
 have HDR2:Hid (Zg base (w2.setCell ⟨gF,i*2,none⟩ (.slice (some ⟨g,0,none⟩) t cap)) bs (upd V1 (.frames i) (.slice (some ⟨g,0,none⟩) t cap)) (popped s i)∧Below base w (w2.setCell ⟨gF,i*2,none⟩ (.slice (some ⟨g,0,none⟩) t cap))):=by
  rw [← hw2]
  refine Zb ⟨by rw [un HFP];exact Zg.same (un HDR).1 rfl,?_⟩
  exact Below.setCell (below_drewN (un HB1) nq) hbF _
 clear hw2 c0 c1 k0 k1 fF HDR HB1 HO1 fz fzF
 go_region
 generalize hwz:(w2.setCell ⟨gF,i*2,none⟩ (.slice (some ⟨g,0,none⟩) t cap)).drew=wz
 have hoz:Zg base wz bs (upd V1 (.frames i) (.slice (some ⟨g,0,none⟩) t cap)) (popped s i):=by rw [← hwz];exact Zg.same (un HDR2).1 rfl
 have hbz:Below base w wz:=by rw [← hwz];exact Below.drew (un HDR2).2
 obtain ⟨x0,x1,_,xz⟩:=hoz.cells
 obtain ⟨gF',capF',eF',_,q0,q1,qz,_⟩:=hoz.own.fib (i:=i) (by rw [hlp];exact hlop)
 rw [Zp V1 _ (by simp),un HEF] at eF'
 rw [Qb] at q0
 obtain ⟨⟨rfl⟩,-,rfl⟩:=(by simpa using eF':(gF=gF')∧s1.fibers.length=(popped s i).fibers.length∧capF=capF')
 rw [Zp V1 _ (by simp),un HEF,hlen] at x0
 rw [hpnow] at x1
 have hcp:(Zc (popped s i) i).caller=c:=by
  rw [un HFP,Xu _ (un HS1)];exact hcal
 rw [hcp] at q1
 have z1:=xz 1
 have zF:=qz (i*2+1)
 have HOZ:=Zb hoz
 have HBZ:=Zb hbz
 clear hwz hoz hbz xz qz y0 y1 j0 j1 jz HDR2 eF' hcp
 by_cases hone:t=0
 ·subst hone
  have hem:=(un HEM).2 (un HT)
  have hR:=un HR
  rw [if_pos hem] at hR
  by_cases hneg:c<0
  ·rw [if_pos hneg] at hR
   have hd:decide (c<0)=true:=decide_eq_true hneg
   have HR2:=Zb hR
   clear hR hem HC HRB HRK
   go_wp2_with fail
   have ho3:=(un HOZ).setNow (-1)
   refine (Zka base bs _ _ z _ ho3 hpout).mono ?_
   rintro e w4 ⟨rfl,hb4,hp4⟩
   rw [un HR2] at hp4 ⊢
   have HB4:=Zb (Below.trans (Below.trans (un HBZ) (Below.setCell (Below.refl _ _) (un HOZ).low _)) hb4)
   have HP4:=Zb hp4
   clear ho3 hb4 hp4
   go_wp2
   go_ret
   exact ⟨rfl,un HB4,un HP4⟩
  ·rw [if_neg hneg] at hR
   have hd:decide (c<0)=false:=decide_eq_false hneg
   obtain ⟨k,hk,hki,hrk⟩:=(un HC) (by omega)
   subst hR hk
   have HRK2:=Zb ((un HRK) k hrk hki)
   clear hem HC HRB HRK hrk HR
   go_wp2_with fail
   have ho2:=(un HOZ).setNow (k:Int)
   obtain ⟨ho3,hb3⟩:=ho2.setCaller (i:=i) (by show i<(popped s i).fibers.length;rw [hlp];exact hlop) (show (upd V1 (.frames i) (.slice (some ⟨g,0,none⟩) 0 cap)) .fibers=.slice (some ⟨gF,0,none⟩) (popped s i).fibers.length capF by rw [Zp V1 _ (by simp),un HEF,hlen,hlp]) (-1)
   have hrk:=un HRK2
   refine (Zbo base bs _ _ k z _ ho3 hrk.lt hrk.fr hrk.frs hrk.st).mono ?_
   rintro e w4 ⟨rfl,V4,ho4,hb4⟩
   have HB5:=Zb (Below.trans (Below.trans (Below.trans (un HBZ) (Below.setCell (Below.refl _ _) (un HOZ).low _)) hb3) hb4)
   have HO4:=Zb ho4
   clear ho2 ho3 hb3 hb4 ho4 hrk
   go_wp2
   go_ret
   exact ⟨rfl,un HB5,fun _=>⟨V4,un HO4⟩⟩
 ·have hem:¬ ((popped s i).fibers.length=0∨(Zc (popped s i) i).frames=[]):=fun h=>by
   have:=(un HEM).1 h
   have:=un HT
   omega
  have hR:=un HR
  rw [if_neg hem] at hR
  subst hR
  have hd:decide ((0:Int)<(t:Int))=true:=decide_eq_true (by omega)
  have hrun:=(un HRB) (by have:=un HT;omega)
  have HRUN:=Zb hrun
  clear hem HC HRB HRK hrun HR
  go_wp2_with fail
  have hrun:=un HRUN
  refine (Zbo base bs _ _ i z _ (un HOZ) hrun.lt hrun.fr hrun.frs hrun.st).mono ?_
  rintro e w4 ⟨rfl,V4,ho4,hb4⟩
  have HB5:=Zb (Below.trans (un HBZ) hb4)
  have HO4:=Zb ho4
  clear hb4 ho4 hrun
  go_wp2
  go_ret
  exact ⟨rfl,un HB5,fun _=>⟨V4,un HO4⟩⟩
end Go.Proofs.YtblihfpigjiahaaGreatDoor
