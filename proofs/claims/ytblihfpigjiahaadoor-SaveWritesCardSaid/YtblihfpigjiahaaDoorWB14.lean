/- StateD, StateE, StateF, StateG -/
import Derived.Test.YtblihfpigjiahaaDoorWB11
import Derived.Test.YtblihfpigjiahaaDoorWB13
import Derived.Test.YtblihfpigjiahaaDoorWB01
import Derived.Deep.RegionHeld3
import Derived.Deep.DeepCutAuto
set_option maxRecDepth 100000
set_option maxHeartbeats 8000000
namespace Go.Proofs.YtblihfpigjiahaaDoor
open Go.RowKit
def Zah (w:World) (vp:Value) (p:List Fn):Prop:=∀ (k:Nat) (u:World),k<p.length→Zb w u →
 Calls Tryd.prog 23 #[vp,.int .i64 k] u fun e u'=>∃ v,e=.returned (.tuple #[v,.bool true])∧Qo u' v (hgt p k)∧Zb u u'
theorem Zah.kept {w w':World} {vp:Value} {p:List Fn} (h:Zah w vp p) (hk:Zb w w'):Zah w' vp p:=fun k u hl hu=>h k u hl (hk.trans hu)
theorem Zcf (i l n:Int) (w:World):Calls Tryd.prog 15 #[.int .i64 i,.int .i64 l,.int .i64 n] w fun e w'=>e=.returned (.bool (inB i l n))∧w'=w :=
 (Xm i l n w).mono fun _ _ h=>⟨h.1,h.2.symm⟩
theorem Zxh (oa ol os:Option Addr) (n cap nl cl ns cs:Nat) (fn a:Int) (w:World) (hb:inB fn 0 ((n:Int) - 1)=false) (hn:n≤8796093022208) :
  Calls Tryd.prog 35 #[.slice oa n cap,.agg #[.int .i64 fn,.int .i64 a,.slice ol nl cl,.slice os ns cs]] w fun e w'=>e=.returned (.bool false)∧Zb w w':=by
 go_enter Tryd.func35,Tryd.ntmps35
 go_wp2
 go_quiet ((go_at_call 15;refine Calls.quiet_of_same (Zcf _ _ _ _)))
 go_wp2
 go_ret
 exact ⟨rfl,((Zb.refl w).alloc _).drewN _⟩
theorem Xbj (b o:Nat) (ol os:Option Addr) (n cap nl cl ns cs i:Nat) (lo a:Int) (w:World) (hi:i<n) (hn:n≤8796093022208)
  (c1:w.cell? ⟨b,o+i*3+1,none⟩=some (.int .i64 lo)) (hl:((nl:Int) != lo)=true) :
  Calls Tryd.prog 35 #[.slice (some ⟨b,o,none⟩) n cap,.agg #[.int .i64 i,.int .i64 a,.slice ol nl cl,.slice os ns cs]] w fun e w'=>e=.returned (.bool false)∧Zb w w':=by
 have hb:inB (i:Int) 0 ((n:Int) - 1)=true:=Wl (by omega) (by omega)
 have hi1:(i:Int)<(n:Int):=by omega
 have hi0:(0:Int)≤(i:Int):=by omega
 have C1:=Za c1
 clear c1
 go_enter Tryd.func35,Tryd.ntmps35
 go_wp2
 generalize hw0:w.alloc (.cells #[.int .i64 i,.int .i64 a,.slice ol nl cl,.slice os ns cs] 53)=w0 at *
 have x0:w0.cell? ⟨w.heap.size,0,none⟩=some (.int .i64 i):=by rw [← hw0];simp
 have x2:w0.cell? ⟨w.heap.size,2,none⟩=some (.slice ol nl cl):=by rw [← hw0];simp
 have hk0:Zb w w0:=by rw [← hw0];exact (Zb.refl w).alloc _
 have d1:=hk0.cell (un C1)
 have HK0:=Za hk0
 clear hw0 hk0
 go_quiet ((go_at_call 15;refine Calls.quiet_of_same (Zcf _ _ _ _)))
 go_wp2
 go_ret
 exact ⟨rfl,(un HK0).drewN _⟩
theorem Zvd (b o:Nat) (ol os oc:Option Addr) (n cap nl cl ns cs i m cc:Nat) (a:Int) (w:World) (hi:i<n) (hn:n≤8796093022208) (hm:m≤8796093022208)
  (c1:w.cell? ⟨b,o+i*3+1,none⟩=some (.int .i64 nl)) (c2:w.cell? ⟨b,o+i*3+2,none⟩=some (.slice oc m cc)) (ha:inB a 0 ((m:Int) - 1)=false) :
  Calls Tryd.prog 35 #[.slice (some ⟨b,o,none⟩) n cap,.agg #[.int .i64 i,.int .i64 a,.slice ol nl cl,.slice os ns cs]] w fun e w'=>e=.returned (.bool false)∧Zb w w':=by
 have hb:inB (i:Int) 0 ((n:Int) - 1)=true:=Wl (by omega) (by omega)
 have hi1:(i:Int)<(n:Int):=by omega
 have hi0:(0:Int)≤(i:Int):=by omega
 have hlb:((nl:Int) != (nl:Int))=false:=by simp
 have C1:=Za c1
 have C2:=Za c2
 clear c1 c2
 go_enter Tryd.func35,Tryd.ntmps35
 go_wp2
 generalize hw0:w.alloc (.cells #[.int .i64 i,.int .i64 a,.slice ol nl cl,.slice os ns cs] 53)=w0 at *
 have x0:w0.cell? ⟨w.heap.size,0,none⟩=some (.int .i64 i):=by rw [← hw0];simp
 have x1:w0.cell? ⟨w.heap.size,1,none⟩=some (.int .i64 a):=by rw [← hw0];simp
 have x2:w0.cell? ⟨w.heap.size,2,none⟩=some (.slice ol nl cl):=by rw [← hw0];simp
 have hk0:Zb w w0:=by rw [← hw0];exact (Zb.refl w).alloc _
 have d1:=hk0.cell (un C1)
 have d2:=hk0.cell (un C2)
 have HK0:=Za hk0
 clear hw0 hk0
 go_quiet ((go_at_call 15;refine Calls.quiet_of_same (Zcf _ _ _ _)))
 go_wp2
 go_ret
 exact ⟨rfl,(un HK0).drewN _⟩
theorem Zoz (b o:Nat) (ol os oc:Option Addr) (n cap nl cl ns cs i m cc a:Nat) (H:List Int) (w:World) (hi:i<n) (hn:n≤8796093022208) (hm:m≤8796093022208)
  (c1:w.cell? ⟨b,o+i*3+1,none⟩=some (.int .i64 nl)) (c2:w.cell? ⟨b,o+i*3+2,none⟩=some (.slice oc m cc)) (ha:a<m) (hH:H.length=m)
  (hh:∀ u,Zb w u→Calls Tryd.prog 23 #[.slice (some ⟨b,o,none⟩) n cap,.int .i64 i] u fun e u'=>∃ v,e=.returned (.tuple #[v,.bool true])∧Qo u' v H∧Zb u u') :
  Calls Tryd.prog 35 #[.slice (some ⟨b,o,none⟩) n cap,.agg #[.int .i64 i,.int .i64 a,.slice ol nl cl,.slice os ns cs]] w fun e w'=>e=.returned (.bool (decide (0≤H.getD a 0)))∧Zb w w':=by
 generalize hr:decide (0≤H.getD a 0)=r
 have HR:=Za hr
 clear hr
 have hb:inB (i:Int) 0 ((n:Int) - 1)=true:=Wl (by omega) (by omega)
 have ha':inB (a:Int) 0 ((m:Int) - 1)=true:=Wl (by omega) (by omega)
 have HH:=Za hh
 clear hh
 have hi1:(i:Int)<(n:Int):=by omega
 have hi0:(0:Int)≤(i:Int):=by omega
 have hlb:((nl:Int) != (nl:Int))=false:=by simp
 have C1:=Za c1
 have C2:=Za c2
 clear c1 c2
 go_enter Tryd.func35,Tryd.ntmps35
 go_wp2
 generalize hw0:w.alloc (.cells #[.int .i64 i,.int .i64 a,.slice ol nl cl,.slice os ns cs] 53)=w0 at *
 have x0:w0.cell? ⟨w.heap.size,0,none⟩=some (.int .i64 i):=by rw [← hw0];simp
 have x1:w0.cell? ⟨w.heap.size,1,none⟩=some (.int .i64 a):=by rw [← hw0];simp
 have x2:w0.cell? ⟨w.heap.size,2,none⟩=some (.slice ol nl cl):=by rw [← hw0];simp
 have hk0:Zb w w0:=by rw [← hw0];exact (Zb.refl w).alloc _
 have d1:=hk0.cell (un C1)
 have d2:=hk0.cell (un C2)
 have HK0:=Za hk0
 have X1:=Za x1
 clear hw0 hk0
 go_quiet ((go_at_call 15;refine Calls.quiet_of_same (Zcf _ _ _ _)))
 go_wp2_with fail
 refine ((un HH) _ ((un HK0).drewN _)).mono ?_
 rintro e w1 ⟨v,rfl,hv,hk1⟩
 obtain ⟨oh,ch,rfl,_,hcell⟩:=hv
 obtain ⟨bh,o2,rfl,e0⟩:=hcell a _ (Zq H a 0 (by omega))
 have y1:=hk1.cell (un X1)
 have HK1:=Za (((un HK0).drewN _).trans hk1)
 rw [hH]
 have ha1:(a:Int)<(m:Int):=by omega
 have ha0:(0:Int)≤(a:Int):=by omega
 clear hcell hk1 x0 x1 x2 d1 d2 HK0 X1
 generalize H.getD a 0=z at *
 by_cases hz:0≤z
 ·have hrt:=un HR
  rw [decide_eq_true hz] at hrt
  subst hrt
  go_wp2
  go_ret
  exact ⟨rfl,un HK1⟩
 ·have hrt:=un HR
  rw [decide_eq_false hz] at hrt
  subst hrt
  have hzd:decide (0≤z)=false:=decide_eq_false hz
  go_wp2
  go_ret
  exact ⟨by rw [← hzd];rfl,un HK1⟩
theorem Xbv (p:List Fn) (vp v:Value) (x:Fr) (w:World) (hp:Zw w vp p) (hx:FrV w v x) (hh:Zah w vp p) (hl:Um p) :
  Calls Tryd.prog 35 #[vp,v] w fun e w'=>e=.returned (.bool (Xb p x))∧Zb w w':=by
 obtain ⟨vl,vs,rfl,h1,h2⟩:=hx
 obtain ⟨ol,cl,rfl,_,_⟩:=h1
 obtain ⟨os,cs,rfl,_,_⟩:=h2
 obtain ⟨oa,cap,rfl,hpl,hcell⟩:=id hp
 by_cases hf:0≤x.fn∧x.fn<p.length
 ·obtain ⟨i,hi⟩:∃ i:Nat,x.fn=i:=⟨x.fn.toNat,by omega⟩
  have hip:i<p.length:=by omega
  obtain ⟨b,o,cv,rfl,c0,c1,c2,hc⟩:=hcell i _ (Zq p i Fn.zero hip)
  obtain ⟨oc,cc,rfl,hm,_⟩:=hc
  rw [Zng hi hip,hi]
  by_cases hlo:(x.locals.length:Int)=(p.getD i Fn.zero).locals
  ·rw [decide_eq_true hlo,Bool.true_and]
   rw [← hlo] at c1
   by_cases ha:0≤x.at_∧x.at_<(Zx p i).length
   ·obtain ⟨a,ha'⟩:∃ a:Nat,x.at_=a:=⟨x.at_.toNat,by omega⟩
    rw [Jr ha.1 ha.2,Bool.true_and,ha',Int.toNat_natCast]
    exact Zoz b o ol os oc _ cap _ cl _ cs i _ cc a (hgt p i) w hip hpl hm c1 c2 (by have:=ha.2;unfold Zx at this;omega) (hl i hip) (fun u hu=>hh i u hip hu)
   ·rw [Wy ha,Bool.false_and]
    exact Zvd b o ol os oc _ cap _ cl _ cs i _ cc _ w hip hpl hm c1 c2 (Pr (fun h=>ha ⟨h.1,by have:=h.2;unfold Zx;omega⟩))
  ·rw [decide_eq_false hlo,Bool.false_and]
   exact Xbj b o ol os _ cap _ cl _ cs i _ _ w hip hpl c1 (by rw [bne_iff_ne];exact hlo)
 ·have:Xb p x=false:=by unfold Xb;rw [Wy hf];rfl
  rw [this]
  exact Zxh oa ol os _ cap _ cl _ cs _ _ w (Pr (fun h=>hf ⟨h.1,by omega⟩)) hpl
theorem Xbd (b o bc co:Nat) (ol os:Option Addr) (n cap nl cl ns cs i m cc a:Nat) (x:Int × Int) (kd ofn:Int) (H:List Int) (w:World) (hi:i<n) (_hn:n≤8796093022208) (hm:m≤8796093022208) (_hns:ns≤17592186043904)
  (c2:w.cell? ⟨b,o+i*3+2,none⟩=some (.slice (some ⟨bc,co,none⟩) m cc)) (ha:a+1<m) (hH:H.length=m) (hb:-1000≤H.getD (a+1) 0∧H.getD (a+1) 0≤1000)
  (k0:w.cell? ⟨bc,co+a*2,none⟩=some (.int .i64 x.1)) (k1:w.cell? ⟨bc,co+a*2+1,none⟩=some (.int .i64 x.2))
  (hh:∀ u,Zb w u→Calls Tryd.prog 23 #[.slice (some ⟨b,o,none⟩) n cap,.int .i64 i] u fun e u'=>∃ v,e=.returned (.tuple #[v,.bool true])∧Qo u' v H∧Zb u u') (r:Bool)
  (hr:(decide ((ns:Int)=H.getD (a+1) 0 - 1) && (decide (x.1=kd) && (!decide (kd=11) || decide (x.2=ofn))))=r) :
  Calls Tryd.prog 36 #[.slice (some ⟨b,o,none⟩) n cap,.agg #[.int .i64 i,.int .i64 ((a:Int)+1),.slice ol nl cl,.slice os ns cs],.int .i64 kd,.int .i64 ofn] w fun e w'=>e=.returned (.bool r)∧Zb w w':=by
 have HR:=Za hr
 have HH:=Za hh
 have HX:=Za (show ∀ u,Zb w u→u.cell? ⟨b,o+i*3+2,none⟩=some (.slice (some ⟨bc,co,none⟩) m cc)∧u.cell? ⟨bc,co+a*2,none⟩=some (.int .i64 x.1)∧u.cell? ⟨bc,co+a*2+1,none⟩=some (.int .i64 x.2) from fun u hu=>⟨hu.cell c2,hu.cell k0,hu.cell k1⟩)
 clear hh hr c2 k0 k1
 have hi1:(i:Int)<(n:Int):=by omega
 have hi0:(0:Int)≤(i:Int):=by omega
 go_enter Tryd.func36,Tryd.ntmps36
 go_wp2_with fail
 refine ((un HH) _ ((Zb.refl w).alloc _)).mono ?_
 rintro e w1 ⟨v,rfl,hv,hk1⟩
 obtain ⟨oh,ch,rfl,_,hcell⟩:=hv
 obtain ⟨bh,o2,rfl,e0⟩:=hcell (a+1) _ (Zq H (a+1) 0 (by omega))
 have y0:=hk1.cell (show (w.alloc (.cells #[.int .i64 i,.int .i64 ((a:Int)+1),.slice ol nl cl,.slice os ns cs] 53)).cell? ⟨w.heap.size,0,none⟩=some (.int .i64 i) by simp)
 have y1:=hk1.cell (show (w.alloc (.cells #[.int .i64 i,.int .i64 ((a:Int)+1),.slice ol nl cl,.slice os ns cs] 53)).cell? ⟨w.heap.size,1,none⟩=some (.int .i64 ((a:Int)+1)) by simp)
 have y3:=hk1.cell (show (w.alloc (.cells #[.int .i64 i,.int .i64 ((a:Int)+1),.slice ol nl cl,.slice os ns cs] 53)).cell? ⟨w.heap.size,3,none⟩=some (.slice os ns cs) by simp)
 have hkk:=((Zb.refl w).alloc _).trans hk1
 obtain ⟨d2,f0,f1⟩:=(un HX) _ hkk
 have HK1:=Za hkk
 rw [hH]
 have ha1:(a:Int)+1<(m:Int):=by omega
 have haz:(0:Int)≤(a:Int)+1:=by omega
 have hab:((a:Int)+1 == 0)=false:=by rw [beq_eq_false_iff_ne];omega
 have hap:(a:Int)+1 - 1=(a:Int):=by omega
 have hat:((a:Int)+1).toNat=a+1:=by omega
 have ha2:(a:Int)<(m:Int):=by omega
 clear hcell hk1 hkk HH HX
 generalize H.getD (a+1) 0=z at *
 obtain ⟨hb1,hb2⟩:=hb
 by_cases hz:(ns:Int)=z - 1
 ·have hzb:((ns:Int) != z - 1)=false:=by rw [hz];simp
  have HZ:=Za hz
  clear hz
  go_wp2
  go_quiet (fail)
  have hwr:IntKind.i64.wrap (a:Int)=a:=Wa a (by omega) (by omega)
  go_wp2_with fail
  generalize hw2:w1.drewN nq=w2
  have hk2:Zb w1 w2:=by rw [← hw2];exact (Zb.refl w1).drewN _
  have z0:=hk2.cell y0
  have z1:=hk2.cell y1
  have z2:=hk2.cell d2
  have z3:=hk2.cell f0
  have z4:=hk2.cell f1
  have HK2:=Za ((un HK1).trans hk2)
  have l0:=Xo z0
  have l1:=Xo z2
  have l2:=Xo z3
  simp only at l0 l1 l2
  clear hw2 hk2 y0 y1 y3 d2 f0 f1 e0 HK1
  go_region
  all_goals go_wp2_with fail
  all_goals go_ret
  all_goals (refine ⟨?_,((un HK2).alloc _).drew⟩;have hr:=un HR;rw [decide_eq_true (un HZ),Bool.true_and] at hr;subst hr;first | (simp [*];done) | (simp [*];rfl))
 ·have hzb:((ns:Int) != z - 1)=true:=by rw [bne_iff_ne];exact hz
  have HZ:=Za hz
  clear hz
  go_wp2
  go_quiet (fail)
  go_wp2
  go_ret
  refine ⟨?_,(un HK1).drewN _⟩
  have hr:=un HR
  rw [decide_eq_false (un HZ),Bool.false_and] at hr
  rw [← hr];rfl
theorem Ztl (b o:Nat) (ol os:Option Addr) (n cap nl cl ns cs i:Nat) (kd ofn:Int) (H:List Int) (w:World)
  (hh:∀ u,Zb w u→Calls Tryd.prog 23 #[.slice (some ⟨b,o,none⟩) n cap,.int .i64 i] u fun e u'=>∃ v,e=.returned (.tuple #[v,.bool true])∧Qo u' v H∧Zb u u') :
  Calls Tryd.prog 36 #[.slice (some ⟨b,o,none⟩) n cap,.agg #[.int .i64 i,.int .i64 0,.slice ol nl cl,.slice os ns cs],.int .i64 kd,.int .i64 ofn] w fun e w'=>e=.returned (.bool false)∧Zb w w':=by
 have HH:=Za hh
 clear hh
 go_enter Tryd.func36,Tryd.ntmps36
 go_wp2_with fail
 refine ((un HH) _ ((Zb.refl w).alloc _)).mono ?_
 rintro e w1 ⟨v,rfl,hv,hk1⟩
 have y1:=hk1.cell (show (w.alloc (.cells #[.int .i64 i,.int .i64 0,.slice ol nl cl,.slice os ns cs] 53)).cell? ⟨w.heap.size,1,none⟩=some (.int .i64 0) by simp)
 have HK1:=Za (((Zb.refl w).alloc _).trans hk1)
 clear hv hk1 HH
 go_wp2
 go_quiet (fail)
 go_wp2
 go_ret
 exact ⟨rfl,(un HK1).drewN _⟩
theorem Zlm (p:List Fn) (vp v:Value) (x:Fr) (kd ofn:Int) (w:World) (hp:Zw w vp p) (hx:FrV w v x) (hh:Zah w vp p) (hl:Um p) (hin:Yg p x) (hb:∀ k a,k<p.length→-1000≤(hgt p k).getD a 0∧(hgt p k).getD a 0≤1000) :
  Calls Tryd.prog 36 #[vp,v,.int .i64 kd,.int .i64 ofn] w fun e w'=>e=.returned (.bool (Jk p x kd ofn))∧Zb w w':=by
 obtain ⟨vl,vs,rfl,h1,h2⟩:=hx
 obtain ⟨ol,cl,rfl,_,_⟩:=h1
 obtain ⟨os,cs,rfl,hs,_⟩:=h2
 obtain ⟨oa,cap,rfl,hpl,hcell⟩:=id hp
 obtain ⟨f0,f1,a0,a1⟩:=hin
 obtain ⟨i,hi⟩:∃ i:Nat,x.fn=i:=⟨x.fn.toNat,by omega⟩
 have hip:i<p.length:=by omega
 rw [hi,Int.toNat_natCast] at a1
 obtain ⟨b,o,cv,rfl,c0,c1,c2,hc⟩:=hcell i _ (Zq p i Fn.zero hip)
 obtain ⟨oc,cc,rfl,hm,hcc⟩:=hc
 obtain ⟨a,ha⟩:∃ a:Nat,x.at_=a:=⟨x.at_.toNat,by omega⟩
 unfold Jk hAt Pu
 rw [hi,ha,Int.toNat_natCast,Int.toNat_natCast]
 cases a with
 | zero=>exact Ztl b o ol os _ cap x.locals.length cl x.stack.length cs i kd ofn (hgt p i) w (fun u hu=>hh i u hip hu)
 | succ a =>
  have hlt:a<(Zx p i).length:=by omega
  obtain ⟨bc,co,rfl,k0,k1⟩:=hcc a _ (Zq (Zx p i) a (0,0) hlt)
  have:=Xbd b o bc co ol os p.length cap x.locals.length cl x.stack.length cs i _ cc a ((Zx p i).getD a (0,0)) kd ofn (hgt p i) w hip hpl hm hs c2 (by unfold Zx at a1;omega) (hl i hip) (hb i _ hip) k0 k1 (fun u hu=>hh i u hip hu) _ rfl
  refine (show Calls _ _ #[_,.agg #[_,.int .i64 ((a+1:Nat):Int),_,_],_,_] _ _ from ?_)
  rw [show ((a+1:Nat):Int)=(a:Int)+1 by omega]
  refine this.mono ?_
  rintro e w' ⟨rfl,hk⟩
  refine ⟨?_,hk⟩
  have hne:¬ ((a:Int)+1=0):=by omega
  simp [hne]
theorem Zva (vp:Value) (of:Option Addr) (n cf:Nat) (ca:Int) (w:World) (hn:((n:Int) != 1)=true) :
  Calls Tryd.prog 37 #[vp,.agg #[.slice of n cf,.int .i64 ca]] w fun e w'=>e=.returned (.bool false)∧Zb w w':=by
 go_enter Tryd.func37,Tryd.ntmps37
 go_wp2
 go_ret
 exact ⟨rfl,(Zb.refl w).alloc _⟩
theorem Zon (b o bf off cf n cap i ns cs cl:Nat) (ol os:Option Addr) (at_ ar ca:Int) (l:List Int) (w:World) (hi:i<n)
  (c0:w.cell? ⟨b,o+i*3,none⟩=some (.int .i64 ar)) (k0:w.cell? ⟨bf,off,none⟩=some (.int .i64 i)) (k1:w.cell? ⟨bf,off+1,none⟩=some (.int .i64 at_))
  (k2:w.cell? ⟨bf,off+2,none⟩=some (.slice ol l.length cl)) (k3:w.cell? ⟨bf,off+3,none⟩=some (.slice os ns cs)) (hl:Xn w (.slice ol l.length cl) l) (r:Bool)
  (hr:((decide (at_=0) && (decide (ar=1) && decide (ns=0))) && Ww l)=r) :
  Calls Tryd.prog 37 #[.slice (some ⟨b,o,none⟩) n cap,.agg #[.slice (some ⟨bf,off,none⟩) 1 cf,.int .i64 ca]] w fun e w'=>e=.returned (.bool r)∧Zb w w':=by
 have HR:=Za hr
 have HL:=Za hl
 clear hr hl
 have hi1:(i:Int)<(n:Int):=by omega
 have hi0:(0:Int)≤(i:Int):=by omega
 have lb:=Xo c0
 have lf:=Xo k0
 simp only at lb lf
 by_cases ha:at_=0
 ·subst ha
  by_cases har:ar=1
  ·subst har
   by_cases hs:ns=0
   ·subst hs
    have HK2:=Za k2
    go_enter Tryd.func37,Tryd.ntmps37
    go_wp2
    generalize hw0:w.alloc (.cells #[.slice (some ⟨bf,off,none⟩) 1 cf,.int .i64 ca] 46)=w0 at *
    have hk0:Zb w w0:=by rw [← hw0];exact (Zb.refl w).alloc _
    have x0:w0.cell? ⟨w.heap.size,0,none⟩=some (.slice (some ⟨bf,off,none⟩) 1 cf):=by rw [← hw0];simp
    have x2:=hk0.cell (un HK2)
    have HK0:=Za hk0
    clear hw0 hk0 HK2 c0 k0 k1 k2 k3
    go_loopw [5] (fun s5 wr=>∃ k:Nat,k≤l.length∧s5=.int .i64 k∧Hid (∀ i,i<k→l.getD i 0=0)∧Hid (w0=wr)) (fun s5 _=>l.length - (intOf s5).toNat)
    case atStart=>exact ⟨0,Nat.zero_le _,rfl,(fun i hi=>by omega),rfl⟩
    case round =>
     obtain ⟨k,hkm,rfl,HA,HW⟩:=hrel
     have hw:=un HW
     subst hw
     clear HW
     by_cases hlt:k<l.length
     ·obtain ⟨oa,ca',e1,_,hcell⟩:=un HL
      obtain ⟨b1,o1,e2,c1⟩:=hcell k _ (Zq l k 0 hlt)
      obtain ⟨rfl,-,-⟩:=(by simpa using e1:ol=oa∧l.length=l.length∧cl=ca')
      have d1:=(un HK0).cell c1
      subst e2
      clear c1 hcell e1
      have HZI:=Za (Zq l k 0 hlt)
      generalize hz1:l.getD k 0=z at *
      have Z1:=Za hz1
      clear hz1
      by_cases hz:z=0
      ·subst hz
       go_wp2
       go_roundw
       case rel =>
        refine ⟨k+1,by omega,by go_num,?_,trivial⟩
        intro i hi
        by_cases e:i=k
        ·subst e;exact un Z1
        ·exact (un HA) i (by omega)
       case measure=>simp [intOf];omega
      ·have hzb:(z != 0)=true:=by rw [bne_iff_ne];exact hz
       have HZ:=Za hz
       clear hz
       go_wp2
       go_ret
       refine ⟨?_,un HK0⟩
       have hf:Ww l=false:=by
        unfold Ww
        rw [Bool.eq_false_iff]
        intro h
        rw [List.all_eq_true] at h
        have:=h z (List.mem_of_getElem? (un HZI))
        exact (un HZ) (by simpa using this)
       have hr:=un HR
       rw [hf,Bool.and_false] at hr
       rw [← hr];rfl
     ·go_wp2
      go_ret
      refine ⟨?_,un HK0⟩
      have hf:Ww l=true:=by
       unfold Ww
       rw [List.all_eq_true]
       intro z hz
       obtain ⟨i,hi,rfl⟩:=List.getElem_of_mem hz
       have:=(un HA) i (by omega)
       simpa [List.getD,hi] using this
      have hr:=un HR
      rw [hf] at hr
      rw [← hr];rfl
   ·have hsb:((ns:Int) != 0)=true:=by rw [bne_iff_ne];omega
    have HS:=Za hs
    clear hs
    go_enter Tryd.func37,Tryd.ntmps37
    go_wp2
    go_ret
    refine ⟨?_,(Zb.refl w).alloc _⟩
    have hr:=un HR
    rw [decide_eq_false (un HS)] at hr
    rw [← hr];rfl
  ·have hab:(ar != 1)=true:=by rw [bne_iff_ne];exact har
   have HS:=Za har
   clear har
   go_enter Tryd.func37,Tryd.ntmps37
   go_wp2
   go_ret
   refine ⟨?_,(Zb.refl w).alloc _⟩
   have hr:=un HR
   rw [decide_eq_false (un HS)] at hr
   rw [← hr];rfl
 ·have hab:(at_ != 0)=true:=by rw [bne_iff_ne];exact ha
  have HS:=Za ha
  clear ha
  go_enter Tryd.func37,Tryd.ntmps37
  go_wp2
  go_ret
  refine ⟨?_,(Zb.refl w).alloc _⟩
  have hr:=un HR
  rw [decide_eq_false (un HS)] at hr
  rw [← hr];rfl
theorem Zpw (p:List Fn) (vp v:Value) (b:Fb) (w:World) (hp:Zw w vp p) (hx:FbV w v b) (hin:∀ x,x∈b.frames→0≤x.fn∧x.fn<p.length) :
  Calls Tryd.prog 37 #[vp,v] w fun e w'=>e=.returned (.bool (Jy p b))∧Zb w w':=by
 obtain ⟨vf,rfl,hf⟩:=hx
 obtain ⟨of,cf,rfl,hfl,hcell⟩:=id hf
 by_cases h1:b.frames.length=1
 ·obtain ⟨x,hx⟩:=List.length_eq_one_iff.1 h1
  obtain ⟨bf,off,vl,vs,rfl,k0,k1,k2,k3,k4,k5⟩:=hcell 0 x (by rw [hx];rfl)
  obtain ⟨oa,cap,rfl,hpl,hpc⟩:=id hp
  have hxm:=hin x (by rw [hx];simp)
  obtain ⟨i,hi⟩:∃ i:Nat,x.fn=i:=⟨x.fn.toNat,by omega⟩
  obtain ⟨b',o,cv,rfl,c0,_,_,_⟩:=hpc i _ (Zq p i Fn.zero (by omega))
  obtain ⟨ol,cl,rfl,_,_⟩:=id k4
  obtain ⟨os,cs,rfl,_,_⟩:=id k5
  rw [hi] at k0
  rw [h1]
  refine Zon b' o bf off cf _ cap i _ cs cl ol os x.at_ _ _ x.locals w (by omega) c0 (by simpa using k0) (by simpa using k1) (by simpa using k2) (by simpa using k3) k4 _ ?_
  unfold Jy
  rw [hx]
  simp only [hi,Int.toNat_natCast]
 ·have:Jy p b=false:=by
   unfold Jy
   split
   ·rename_i e;rw [e] at h1;simp at h1
   ·rfl
  rw [this]
  exact Zva _ of _ cf _ w (by rw [bne_iff_ne];omega)
def atB (p:List Fn) (l:List Fr) (i:Nat):Bool :=
 Xb p (l.getD i Fr.zero) && (!decide (i+1<l.length) || (ixB (l.getD (i+1) Fr.zero).fn p.length && Jk p (l.getD i Fr.zero) 11 (l.getD (i+1) Fr.zero).fn))
theorem Zhk (p:List Fn):∀ l:List Fr,Ua p l=true↔∀ i,i<l.length→atB p l i=true
 | []=>by simp [Ua]
 | [x]=>by
  constructor
  ·intro h i hi
   obtain rfl:i=0:=by simpa using hi
   simpa [atB,Ua] using h
  ·intro h
   have:=h 0 (by simp)
   simpa [atB,Ua] using this
 | x :: y :: r=>by
  have ih:=Zhk p (y :: r)
  have hs:∀ i,atB p (x :: y :: r) (i+1)=atB p (y :: r) i:=fun i=>by
   unfold atB
   simp
  simp only [Ua,Bool.and_eq_true,ih]
  constructor
  ·rintro ⟨⟨h1,h2,h3⟩,h4⟩ i hi
   cases i with
   | zero=>simp [atB,h1,h2,h3]
   | succ i=>rw [hs];exact h4 i (by simpa using hi)
  ·intro h
   have h0:=h 0 (by simp)
   simp [atB] at h0
   exact ⟨⟨h0.1,h0.2⟩,fun i hi=>by rw [← hs];exact h (i+1) (by simpa using hi)⟩
theorem Zss (vp:Value) (of:Option Addr) (cf:Nat) (ca:Int) (on runs:Bool) (w:World) :
  Calls Tryd.prog 17 #[vp,.agg #[.slice of 0 cf,.int .i64 ca],.bool on,.bool runs] w fun e w'=>e=.returned (.bool (!on && decide (ca=-1)))∧Zb w w':=by
 generalize hr:(!on && decide (ca=-1))=r
 have HR:=Za hr
 clear hr
 cases on with
 | true =>
  go_enter Tryd.func17,Tryd.ntmps17
  go_wp2
  go_ret
  have hr:=un HR
  exact ⟨by rw [← hr];rfl,(Zb.refl w).alloc _⟩
 | false =>
  by_cases hc:ca=-1
  ·subst hc
   go_enter Tryd.func17,Tryd.ntmps17
   go_wp2
   go_ret
   have hr:=un HR
   exact ⟨by rw [← hr];rfl,(Zb.refl w).alloc _⟩
  ·have hcb:(ca == -1)=false:=by rw [beq_eq_false_iff_ne];exact hc
   have HC:=Za hc
   clear hc
   go_enter Tryd.func17,Tryd.ntmps17
   go_wp2
   go_ret
   have hr:=un HR
   rw [decide_eq_false (un HC)] at hr
   exact ⟨by rw [← hr];rfl,(Zb.refl w).alloc _⟩
end Go.Proofs.YtblihfpigjiahaaDoor
