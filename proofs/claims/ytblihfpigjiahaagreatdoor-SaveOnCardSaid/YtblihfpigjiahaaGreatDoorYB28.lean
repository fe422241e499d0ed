/- EngT, EngU, EngV, EngW, StateM, StateN, EngX, SameW, EngY, GoodF, RunSt, RunP -/
import Derived.Test.YtblihfpigjiahaaGreatDoorYB25
import Derived.Test.YtblihfpigjiahaaGreatDoorYB26
import Derived.Test.YtblihfpigjiahaaGreatDoorYB27
import Derived.Test.YtblihfpigjiahaaGreatDoorYB16
import Derived.Test.YtblihfpigjiahaaGreatDoorYB12
import Derived.Test.YtblihfpigjiahaaGreatDoorYB13
import Derived.Test.YtblihfpigjiahaaGreatDoorYB24
import Derived.Test.YtblihfpigjiahaaGreatDoorYB21
import Derived.Test.YtblihfpigjiahaaGreatDoorYB11
import Derived.Test.YtblihfpigjiahaaGreatDoorYB08
import Derived.Test.YtblihfpigjiahaaGreatDoorYB15
set_option maxRecDepth 100000
set_option maxHeartbeats 8000000
namespace Go.Proofs.YtblihfpigjiahaaGreatDoor
open Go.RowKit
theorem Jn.short {s:St} (h:Jn s):Zhy s:=by
 obtain ⟨h1,h2,h3⟩:=h
 refine ⟨h1,h2,fun t ht=>?_⟩
 have hb:=h3 (Zc s t) (List.mem_of_getElem? (Zs s.fibers t Fb.zero ht))
 exact ⟨hb.1,fun j hj=>hb.2 (Ze s t j) (List.mem_of_getElem? (Zs (Zc s t).frames j Fr.zero hj))⟩
def stpS (p:List Fn) (s:St):St × Int:=if Xg p s=0 then Uf p s else (St.zero,Xg p s)
def Zdh (r:St × Int) (w:World) (e:Ending) (w':World):Prop :=
 ∃ V,e=.returned (.tuple #[.agg #[V .fibers,.int .i64 r.1.now,V .out],.int .i64 r.2])∧Own w.heap.size w' V r.1∧Za w w'
theorem Zod {w w':World} {e:Int} (hk:Za w w'):Zdh (St.zero,e) w (.returned (.tuple #[.agg #[.slice none 0 0,.int .i64 0,.slice none 0 0],.int .i64 e])) w' :=
 ⟨fun _=>.slice none 0 0,rfl,Zjy _ _,hk⟩
theorem Own.low {base base':Nat} {w:World} {V:Key→Value} {s:St} (h:Own base' w V s) (hb:base≤base'):Own base w V s:=⟨fun k hk=>(h.piece k hk).low hb,h.apart⟩
theorem Zyy (oa oo:Option Addr) (n m cap co:Nat) (c:Int) (vp:Value) (w:World) (er:Int) (he:er≠0) (HCK:Hid (∀ u,Za w u→Calls Tryz.prog 20 #[vp,.agg #[.slice oa n cap,.int .i64 c,.slice oo m co]] u fun e w'=>e=.returned (.int .i64 er)∧Za u w')) :
  Calls Tryz.prog 15 #[vp,.agg #[.slice oa n cap,.int .i64 c,.slice oo m co]] w (Zdh (St.zero,er) w):=by
 go_enter Tryz.func15,Tryz.ntmps15
 go_wp2_with fail
 generalize hw2:((w.alloc (.cells #[.slice oa n cap,.int .i64 c,.slice oo m co] 26)).alloc (.cells #[.slice none 0 0,.int .i64 0,.slice none 0 0] 26))=w2
 have hk2:Za w w2:=by rw [← hw2];exact ((Za.refl w).alloc _).alloc _
 have lX:w2.heap[w.heap.size]?=some (.cells #[.slice oa n cap,.int .i64 c,.slice oo m co] 26):=by rw [← hw2];exact Zo (Zh rfl) _
 have lR:w2.heap[w.heap.size+1]?=some (.cells #[.slice none 0 0,.int .i64 0,.slice none 0 0] 26):=by rw [← hw2];exact Zh (by simp)
 clear hw2
 refine ((un HCK) w2 hk2).mono ?_
 rintro e w3 ⟨rfl,hk3⟩
 have lX3:=Zn hk3 lX
 have lR3:=Zn hk3 lR
 have x0:w3.cell? ⟨w.heap.size,0,none⟩=some (.slice oa n cap):=Zd lX3 0
 have x1:w3.cell? ⟨w.heap.size,1,none⟩=some (.int .i64 c):=Zd lX3 1
 have x2:w3.cell? ⟨w.heap.size,2,none⟩=some (.slice oo m co):=Zd lX3 2
 have r0:w3.cell? ⟨w.heap.size+1,0,none⟩=some (.slice none 0 0):=Zd lR3 0
 have r1:w3.cell? ⟨w.heap.size+1,1,none⟩=some (.int .i64 0):=Zd lR3 1
 have r2:w3.cell? ⟨w.heap.size+1,2,none⟩=some (.slice none 0 0):=Zd lR3 2
 have f0:=Zk lR3 0
 have f1:=Zk lR3 1
 have f2:=Zk lR3 2
 have HK:=Zb (hk2.trans hk3)
 have HR:=Zb lR3
 clear HCK hk2 hk3 lX lR lX3 lR3
 go_wp2
 have lR5:=Zm (Zm (Zm (un HR) 0 (.slice none 0 0)) 1 (.int .i64 0)) 2 (.slice none 0 0)
 have hk5:=(((un HK).setCell (p:=⟨w.heap.size+1,0,none⟩) (Nat.le_succ _) (.slice none 0 0)).setCell (p:=⟨w.heap.size+1,1,none⟩) (Nat.le_succ _) (.int .i64 0)).setCell (p:=⟨w.heap.size+1,2,none⟩) (Nat.le_succ _) (.slice none 0 0)
 generalize (((w3.setCell ⟨w.heap.size+1,0,none⟩ (.slice none 0 0)).setCell ⟨w.heap.size+1,1,none⟩ (.int .i64 0)).setCell ⟨w.heap.size+1,2,none⟩ (.slice none 0 0))=w5 at *
 have z0:w5.cell? ⟨w.heap.size+1,0,none⟩=some (.slice none 0 0):=Zd lR5 0
 have z1:w5.cell? ⟨w.heap.size+1,1,none⟩=some (.int .i64 0):=Zd lR5 1
 have z2:w5.cell? ⟨w.heap.size+1,2,none⟩=some (.slice none 0 0):=Zd lR5 2
 refine bodyPost_ret (v:=.tuple #[.agg #[.slice none 0 0,.int .i64 0,.slice none 0 0],.int .i64 er]) (by simp [results,Tryz.results15,go_sem,z0,z1,z2]) rfl ?_
 exact Zod hk5
theorem Zxx (oa oo:Option Addr) (n m cap co:Nat) (c:Int) (vp:Value) (w:World) (hc:c=-1) (HCK:Hid (∀ u,Za w u→Calls Tryz.prog 20 #[vp,.agg #[.slice oa n cap,.int .i64 c,.slice oo m co]] u fun e w'=>e=.returned (.int .i64 0)∧Za u w')) :
  Calls Tryz.prog 15 #[vp,.agg #[.slice oa n cap,.int .i64 c,.slice oo m co]] w (Zdh (St.zero,8) w):=by
 subst hc
 go_enter Tryz.func15,Tryz.ntmps15
 go_wp2_with fail
 generalize hw2:((w.alloc (.cells #[.slice oa n cap,.int .i64 (-1),.slice oo m co] 26)).alloc (.cells #[.slice none 0 0,.int .i64 0,.slice none 0 0] 26))=w2
 have hk2:Za w w2:=by rw [← hw2];exact ((Za.refl w).alloc _).alloc _
 have lX:w2.heap[w.heap.size]?=some (.cells #[.slice oa n cap,.int .i64 (-1),.slice oo m co] 26):=by rw [← hw2];exact Zo (Zh rfl) _
 have lR:w2.heap[w.heap.size+1]?=some (.cells #[.slice none 0 0,.int .i64 0,.slice none 0 0] 26):=by rw [← hw2];exact Zh (by simp)
 clear hw2
 refine ((un HCK) w2 hk2).mono ?_
 rintro e w3 ⟨rfl,hk3⟩
 have lX3:=Zn hk3 lX
 have lR3:=Zn hk3 lR
 have x0:w3.cell? ⟨w.heap.size,0,none⟩=some (.slice oa n cap):=Zd lX3 0
 have x1:w3.cell? ⟨w.heap.size,1,none⟩=some (.int .i64 (-1)):=Zd lX3 1
 have x2:w3.cell? ⟨w.heap.size,2,none⟩=some (.slice oo m co):=Zd lX3 2
 have r0:w3.cell? ⟨w.heap.size+1,0,none⟩=some (.slice none 0 0):=Zd lR3 0
 have r1:w3.cell? ⟨w.heap.size+1,1,none⟩=some (.int .i64 0):=Zd lR3 1
 have r2:w3.cell? ⟨w.heap.size+1,2,none⟩=some (.slice none 0 0):=Zd lR3 2
 have f0:=Zk lR3 0
 have f1:=Zk lR3 1
 have f2:=Zk lR3 2
 have HK:=Zb (hk2.trans hk3)
 have HR:=Zb lR3
 clear HCK hk2 hk3 lX lR lX3 lR3
 go_wp2
 have lR5:=Zm (Zm (Zm (un HR) 0 (.slice none 0 0)) 1 (.int .i64 0)) 2 (.slice none 0 0)
 have hk5:=(((un HK).setCell (p:=⟨w.heap.size+1,0,none⟩) (Nat.le_succ _) (.slice none 0 0)).setCell (p:=⟨w.heap.size+1,1,none⟩) (Nat.le_succ _) (.int .i64 0)).setCell (p:=⟨w.heap.size+1,2,none⟩) (Nat.le_succ _) (.slice none 0 0)
 generalize (((w3.setCell ⟨w.heap.size+1,0,none⟩ (.slice none 0 0)).setCell ⟨w.heap.size+1,1,none⟩ (.int .i64 0)).setCell ⟨w.heap.size+1,2,none⟩ (.slice none 0 0))=w5 at *
 have z0:w5.cell? ⟨w.heap.size+1,0,none⟩=some (.slice none 0 0):=Zd lR5 0
 have z1:w5.cell? ⟨w.heap.size+1,1,none⟩=some (.int .i64 0):=Zd lR5 1
 have z2:w5.cell? ⟨w.heap.size+1,2,none⟩=some (.slice none 0 0):=Zd lR5 2
 refine bodyPost_ret (v:=.tuple #[.agg #[.slice none 0 0,.int .i64 0,.slice none 0 0],.int .i64 8]) (by simp [results,Tryz.results15,go_sem,z0,z1,z2]) rfl ?_
 exact Zod hk5
theorem Zyt (oa oo:Option Addr) (n m cap co:Nat) (c:Int) (vp:Value) (w:World) (hc:c≠-1) (s:St) (r:St × Int) (hc':s.now=c) (HCK:Hid (∀ u,Za w u→Calls Tryz.prog 20 #[vp,.agg #[.slice oa n cap,.int .i64 c,.slice oo m co]] u fun e w'=>e=.returned (.int .i64 0)∧Za u w'))
  (HCP:Hid (∀ u,Za w u→Calls Tryz.prog 27 #[.agg #[.slice oa n cap,.int .i64 c,.slice oo m co]] u (Zdx s u)))
  (HGO:Hid (∀ u V,Za w u→∀ b,w.heap.size≤b→b≤u.heap.size→Own b u V s→Calls Tryz.prog 35 #[vp,.agg #[V .fibers,.int .i64 s.now,V .out]] u (Zms b r u))) :
  Calls Tryz.prog 15 #[vp,.agg #[.slice oa n cap,.int .i64 c,.slice oo m co]] w (Zdh r w):=by
 go_enter Tryz.func15,Tryz.ntmps15
 go_wp2_with fail
 generalize hw2:((w.alloc (.cells #[.slice oa n cap,.int .i64 c,.slice oo m co] 26)).alloc (.cells #[.slice none 0 0,.int .i64 0,.slice none 0 0] 26))=w2
 have hk2:Za w w2:=by rw [← hw2];exact ((Za.refl w).alloc _).alloc _
 have lX:w2.heap[w.heap.size]?=some (.cells #[.slice oa n cap,.int .i64 c,.slice oo m co] 26):=by rw [← hw2];exact Zo (Zh rfl) _
 have lR:w2.heap[w.heap.size+1]?=some (.cells #[.slice none 0 0,.int .i64 0,.slice none 0 0] 26):=by rw [← hw2];exact Zh (by simp)
 clear hw2
 refine ((un HCK) w2 hk2).mono ?_
 rintro e w3 ⟨rfl,hk3⟩
 have lX3:=Zn hk3 lX
 have lR3:=Zn hk3 lR
 have x0:w3.cell? ⟨w.heap.size,0,none⟩=some (.slice oa n cap):=Zd lX3 0
 have x1:w3.cell? ⟨w.heap.size,1,none⟩=some (.int .i64 c):=Zd lX3 1
 have x2:w3.cell? ⟨w.heap.size,2,none⟩=some (.slice oo m co):=Zd lX3 2
 have r0:w3.cell? ⟨w.heap.size+1,0,none⟩=some (.slice none 0 0):=Zd lR3 0
 have r1:w3.cell? ⟨w.heap.size+1,1,none⟩=some (.int .i64 0):=Zd lR3 1
 have r2:w3.cell? ⟨w.heap.size+1,2,none⟩=some (.slice none 0 0):=Zd lR3 2
 have f0:=Zk lR3 0
 have f1:=Zk lR3 1
 have f2:=Zk lR3 2
 have HK:=Zb (hk2.trans hk3)
 have HR:=Zb lR3
 clear HCK hk2 hk3 lX lR lX3 lR3
 go_wp2_with fail
 refine ((un HCP) w3 (un HK)).mono ?_
 rintro e w4 ⟨V,rfl,ho4,hk4⟩
 obtain ⟨xs,hr,_⟩:=ho4.piece .fibers trivial
 obtain ⟨o1,c1,e1,_⟩:=Zw hr
 have hr2:=ho4.piece .out trivial
 obtain ⟨o2,c2,e2,_⟩:=Zw hr2
 have hgo:=(un HGO) w4 V ((un HK).trans hk4) w3.heap.size (un HK).size hk4.size ho4
 rw [e1,e2] at hgo ⊢
 generalize s.fibers.length=N at *
 generalize s.out.length=M at *
 have HG:=Zb hgo
 have HK4:=Zb hk4
 clear hgo hr hr2 e1 e2 ho4 HCP HGO hk4
 rw [hc'] at HG ⊢
 clear x0 x1 x2 r0 r1 r2 f0 f1 f2
 go_wp2_with fail
 refine (un HG).mono ?_
 rintro e w5 ⟨V5,rfl,ho5,hb5⟩
 obtain ⟨xs5,hr,_⟩:=ho5.piece .fibers trivial
 obtain ⟨o3,c3,e3,_⟩:=Zw hr
 have hr2:=ho5.piece .out trivial
 obtain ⟨o5,c5,e5,_⟩:=Zw hr2
 have hlt:w.heap.size+1<w3.heap.size:=(Array.getElem?_eq_some_iff.1 (un HR)).1
 have lR5:=(hb5.block _ hlt).trans (Zn (un HK4) (un HR))
 have r0:w5.cell? ⟨w.heap.size+1,0,none⟩=some (.slice none 0 0):=Zd lR5 0
 have r1:w5.cell? ⟨w.heap.size+1,1,none⟩=some (.int .i64 0):=Zd lR5 1
 have r2:w5.cell? ⟨w.heap.size+1,2,none⟩=some (.slice none 0 0):=Zd lR5 2
 have f0:=Zk lR5 0
 have f1:=Zk lR5 1
 have f2:=Zk lR5 2
 have hk5:Za w w5:=Below.trans ((un HK).trans (un HK4)) (Below.mono hb5 (un HK).size)
 have HO5:=Zb ho5
 have HE3:=Zb e3
 have HE5:=Zb e5
 have HK5:=Zb hk5
 have HL5:=Zb lR5
 have HLT:=Zb hlt
 rw [e3,e5]
 clear e3 e5 hr hr2 ho5 hb5 HG HK4 hk5 lR5 hlt
 generalize r.1.fibers.length=N5 at *
 generalize r.1.out.length=M5 at *
 generalize hnn:r.1.now=nn at *
 generalize hee:r.2=ee at *
 have HNN:=Zb (And.intro hnn hee)
 clear hnn hee
 go_wp2
 have l6:=Zm (Zm (Zm (un HL5) 0 (.slice o3 N5 c3)) 1 (.int .i64 nn)) 2 (.slice o5 M5 c5)
 have hoff:Own.off V5 r.1 (w.heap.size+1):=(un HO5).new_off (.inr (un HLT))
 have t6:=(((un HO5).setOff (a:=⟨w.heap.size+1,0,none⟩) hoff (.slice o3 N5 c3)).setOff (a:=⟨w.heap.size+1,1,none⟩) hoff (.int .i64 nn)).setOff (a:=⟨w.heap.size+1,2,none⟩) hoff (.slice o5 M5 c5)
 have hk6:=(((un HK5).setCell (p:=⟨w.heap.size+1,0,none⟩) (Nat.le_succ _) (.slice o3 N5 c3)).setCell (p:=⟨w.heap.size+1,1,none⟩) (Nat.le_succ _) (.int .i64 nn)).setCell (p:=⟨w.heap.size+1,2,none⟩) (Nat.le_succ _) (.slice o5 M5 c5)
 generalize (((w5.setCell ⟨w.heap.size+1,0,none⟩ (.slice o3 N5 c3)).setCell ⟨w.heap.size+1,1,none⟩ (.int .i64 nn)).setCell ⟨w.heap.size+1,2,none⟩ (.slice o5 M5 c5))=w6 at *
 have z0:w6.cell? ⟨w.heap.size+1,0,none⟩=some (.slice o3 N5 c3):=Zd l6 0
 have z1:w6.cell? ⟨w.heap.size+1,1,none⟩=some (.int .i64 nn):=Zd l6 1
 have z2:w6.cell? ⟨w.heap.size+1,2,none⟩=some (.slice o5 M5 c5):=Zd l6 2
 refine bodyPost_ret (v:=.tuple #[.agg #[.slice o3 N5 c3,.int .i64 nn,.slice o5 M5 c5],.int .i64 ee]) (by simp [results,Tryz.results15,go_sem,z0,z1,z2]) rfl ?_
 exact ⟨V5,by rw [un HE3,un HE5,(un HNN).1,(un HNN).2],t6.low (un HK).size,hk6⟩
theorem Zpr (p:List Fn) (s:St) (vp vs:Value) (w:World) (hp:Xa w vp p) (hs:Xo w vs s) (hkd:Qv w) :
  Calls Tryz.prog 15 #[vp,vs] w (Zdh (stpS p s) w):=by
 have HCK:∀ u,Za w u→Calls Tryz.prog 20 #[vp,vs] u fun e w'=>e=.returned (.int .i64 (Xg p s))∧Za u w':=fun u hu=>Zfz p s vp vs u (hp.kept hu) (hs.kept hu) (hkd.kept hu)
 by_cases h0:Xg p s=0
 ·have hst:stpS p s=Uf p s:=if_pos h0
  rw [hst]
  obtain ⟨_,hlim,_⟩:=Zao h0
  obtain ⟨_,_,_,_,⟨hn1,hn2⟩,_⟩:=Zab hlim
  rw [h0] at HCK
  have HCP:∀ u,Za w u→Calls Tryz.prog 27 #[vs] u (Zdx s u):=fun u hu=>Zoi s vs u (hs.kept hu) (Zaz h0).short
  obtain ⟨vf,vo,rfl,⟨oa,cap,rfl,_,_⟩,⟨oo,co,rfl,_,_⟩⟩:=hs
  by_cases hnow:s.now=-1
  ·have hone:Uf p s=(St.zero,8):=if_pos (by omega)
   rw [hone]
   exact Zxx oa oo _ _ cap co s.now vp w hnow (Zb HCK)
  ·have hone:Uf p s=Zz p s:=if_neg (by omega)
   rw [hone]
   exact Zyt oa oo _ _ cap co s.now vp w hnow s (Zz p s) rfl (Zb HCK) (Zb HCP) (Zb (fun u V hu b hb hbu ho=>Zsr b V p s vp u w hp hu hb hbu ho h0 (by omega)))
 ·have hst:stpS p s=(St.zero,Xg p s):=if_neg h0
  rw [hst]
  obtain ⟨vf,vo,rfl,⟨oa,cap,rfl,_,_⟩,⟨oo,co,rfl,_,_⟩⟩:=hs
  exact Zyy oa oo _ _ cap co s.now vp w _ h0 (Zb HCK)
def Zdo (r:St × Nat × Int) (w:World) (e:Ending) (w':World):Prop :=
 ∃ V,e=.returned (.tuple #[.agg #[V .fibers,.int .i64 r.1.now,V .out],.int .i64 r.2.1,.int .i64 r.2.2])∧Own w.heap.size w' V r.1∧Za w w'
theorem Zol {w w':World} {e:Int} (hk:Za w w'):Zdo (St.zero,0,e) w (.returned (.tuple #[.agg #[.slice none 0 0,.int .i64 0,.slice none 0 0],.int .i64 0,.int .i64 e])) w' :=
 ⟨fun _=>.slice none 0 0,rfl,Zjy _ _,hk⟩
theorem Zbx {u:World} {B:Nat} {a b c x y z:Value} {t:TypeId} (h:u.heap[B]?=some (.cells #[a,b,c] t)):(((u.setCell ⟨B,0,none⟩ x).setCell ⟨B,1,none⟩ y).setCell ⟨B,2,none⟩ z).heap[B]?=some (.cells #[x,y,z] t):=by
 rw [Zm (Zm (Zm h 0 x) 1 y) 2 z]
 rfl
theorem Zjc (n:Int) (w:World):Calls Tryz.prog 26 #[.int .i64 n] w fun e w'=>e=.returned (.bool (inB n 0 500))∧w=w':=by
 by_cases h1:0≤n
 ·by_cases h2:n≤500
  ·rw [Yu h1 h2]
   go_enter Tryz.func26,Tryz.ntmps26
   go_wp2
   go_ret
   exact ⟨rfl,rfl⟩
  ·rw [Uz (by omega)]
   go_enter Tryz.func26,Tryz.ntmps26
   go_wp2
   go_ret
   exact ⟨rfl,rfl⟩
 ·rw [Uz (by omega)]
  go_enter Tryz.func26,Tryz.ntmps26
  go_wp2
  go_ret
  exact ⟨rfl,rfl⟩
theorem Zzf (oa oo:Option Addr) (n m cap co:Nat) (c:Int) (vp:Value) (fuel:Int) (w:World) (hin:inB fuel 0 500=false):Calls Tryz.prog 8 #[vp,.agg #[.slice oa n cap,.int .i64 c,.slice oo m co],.int .i64 fuel] w (Zdo (St.zero,0,3) w):=by
 go_enter Tryz.func8,Tryz.ntmps8
 go_wp2_with (go_at_call 26;refine (Zjc _ _).mono ?_;rw [hin];rintro e w' ⟨rfl,rfl⟩;refine un ?_)
 refine Zb ?_
 generalize hw2:((w.alloc (.cells #[.slice oa n cap,.int .i64 c,.slice oo m co] 26)).alloc (.cells #[.slice none 0 0,.int .i64 0,.slice none 0 0] 26))=w2
 have hk2:Za w w2:=by rw [← hw2];exact ((Za.refl w).alloc _).alloc _
 have hz2:w2.heap.size=w.heap.size+2:=by rw [← hw2];simp
 have lX:w2.heap[w.heap.size]?=some (.cells #[.slice oa n cap,.int .i64 c,.slice oo m co] 26):=by rw [← hw2];exact Zo (Zh rfl) _
 have lR:w2.heap[w.heap.size+1]?=some (.cells #[.slice none 0 0,.int .i64 0,.slice none 0 0] 26):=by rw [← hw2];exact Zh (by simp)
 clear hw2
 have r0:w2.cell? ⟨w.heap.size+1,0,none⟩=some (.slice none 0 0):=Zd lR 0
 have r1:w2.cell? ⟨w.heap.size+1,1,none⟩=some (.int .i64 0):=Zd lR 1
 have r2:w2.cell? ⟨w.heap.size+1,2,none⟩=some (.slice none 0 0):=Zd lR 2
 have f0:=Zk lR 0
 have f1:=Zk lR 1
 have f2:=Zk lR 2
 have HK:=Zb hk2
 have HR:=Zb lR
 clear hk2 hz2 lX lR
 go_wp2
 have l6:=Zbx (x:=.slice none 0 0) (y:=.int .i64 0) (z:=.slice none 0 0) (un HR)
 have hk6:=(((un HK).setCell (p:=⟨w.heap.size+1,0,none⟩) (Nat.le_succ _) (.slice none 0 0)).setCell (p:=⟨w.heap.size+1,1,none⟩) (Nat.le_succ _) (.int .i64 0)).setCell (p:=⟨w.heap.size+1,2,none⟩) (Nat.le_succ _) (.slice none 0 0)
 generalize (((w2.setCell ⟨w.heap.size+1,0,none⟩ (.slice none 0 0)).setCell ⟨w.heap.size+1,1,none⟩ (.int .i64 0)).setCell ⟨w.heap.size+1,2,none⟩ (.slice none 0 0))=w6 at *
 have z0:w6.cell? ⟨w.heap.size+1,0,none⟩=some (.slice none 0 0):=Zd l6 0
 have z1:w6.cell? ⟨w.heap.size+1,1,none⟩=some (.int .i64 0):=Zd l6 1
 have z2:w6.cell? ⟨w.heap.size+1,2,none⟩=some (.slice none 0 0):=Zd l6 2
 refine bodyPost_ret (v:=.tuple #[.agg #[.slice none 0 0,.int .i64 0,.slice none 0 0],.int .i64 0,.int .i64 3]) (by simp [results,Tryz.results8,go_sem,z0,z1,z2]) rfl ?_
 exact Zol hk6
theorem Zsk (oa oo:Option Addr) (n m cap co:Nat) (c:Int) (vp:Value) (fuel:Int) (w:World) (er:Int) (he:er≠0) (hin:inB fuel 0 500=true) (HCK:Hid (∀ u,Za w u→Calls Tryz.prog 20 #[vp,.agg #[.slice oa n cap,.int .i64 c,.slice oo m co]] u fun e w'=>e=.returned (.int .i64 er)∧Za u w')):Calls Tryz.prog 8 #[vp,.agg #[.slice oa n cap,.int .i64 c,.slice oo m co],.int .i64 fuel] w (Zdo (St.zero,0,er) w):=by
 go_enter Tryz.func8,Tryz.ntmps8
 go_wp2_with (go_at_call 26;refine (Zjc _ _).mono ?_;rw [hin];rintro e w' ⟨rfl,rfl⟩;refine un ?_)
 refine Zb ?_
 generalize hw2:((w.alloc (.cells #[.slice oa n cap,.int .i64 c,.slice oo m co] 26)).alloc (.cells #[.slice none 0 0,.int .i64 0,.slice none 0 0] 26))=w2
 have hk2:Za w w2:=by rw [← hw2];exact ((Za.refl w).alloc _).alloc _
 have hz2:w2.heap.size=w.heap.size+2:=by rw [← hw2];simp
 have lX:w2.heap[w.heap.size]?=some (.cells #[.slice oa n cap,.int .i64 c,.slice oo m co] 26):=by rw [← hw2];exact Zo (Zh rfl) _
 have lR:w2.heap[w.heap.size+1]?=some (.cells #[.slice none 0 0,.int .i64 0,.slice none 0 0] 26):=by rw [← hw2];exact Zh (by simp)
 clear hw2
 have x0:w2.cell? ⟨w.heap.size,0,none⟩=some (.slice oa n cap):=Zd lX 0
 have x1:w2.cell? ⟨w.heap.size,1,none⟩=some (.int .i64 c):=Zd lX 1
 have x2:w2.cell? ⟨w.heap.size,2,none⟩=some (.slice oo m co):=Zd lX 2
 go_wp2_with fail
 refine ((un HCK) w2 hk2).mono ?_
 rintro e w3 ⟨rfl,hk3⟩
 have lX3:=Zn hk3 lX
 have lR3:=Zn hk3 lR
 clear x0 x1 x2
 have r0:w3.cell? ⟨w.heap.size+1,0,none⟩=some (.slice none 0 0):=Zd lR3 0
 have r1:w3.cell? ⟨w.heap.size+1,1,none⟩=some (.int .i64 0):=Zd lR3 1
 have r2:w3.cell? ⟨w.heap.size+1,2,none⟩=some (.slice none 0 0):=Zd lR3 2
 have f0:=Zk lR3 0
 have f1:=Zk lR3 1
 have f2:=Zk lR3 2
 have HK:=Zb (hk2.trans hk3)
 have HR:=Zb lR3
 clear hk2 hk3 hz2 lX lR lX3 lR3 HCK
 go_wp2
 have l6:=Zbx (x:=.slice none 0 0) (y:=.int .i64 0) (z:=.slice none 0 0) (un HR)
 have hk6:=(((un HK).setCell (p:=⟨w.heap.size+1,0,none⟩) (Nat.le_succ _) (.slice none 0 0)).setCell (p:=⟨w.heap.size+1,1,none⟩) (Nat.le_succ _) (.int .i64 0)).setCell (p:=⟨w.heap.size+1,2,none⟩) (Nat.le_succ _) (.slice none 0 0)
 generalize (((w3.setCell ⟨w.heap.size+1,0,none⟩ (.slice none 0 0)).setCell ⟨w.heap.size+1,1,none⟩ (.int .i64 0)).setCell ⟨w.heap.size+1,2,none⟩ (.slice none 0 0))=w6 at *
 have z0:w6.cell? ⟨w.heap.size+1,0,none⟩=some (.slice none 0 0):=Zd l6 0
 have z1:w6.cell? ⟨w.heap.size+1,1,none⟩=some (.int .i64 0):=Zd l6 1
 have z2:w6.cell? ⟨w.heap.size+1,2,none⟩=some (.slice none 0 0):=Zd l6 2
 refine bodyPost_ret (v:=.tuple #[.agg #[.slice none 0 0,.int .i64 0,.slice none 0 0],.int .i64 0,.int .i64 er]) (by simp [results,Tryz.results8,go_sem,z0,z1,z2]) rfl ?_
 exact Zol hk6
theorem Xdo (p:List Fn) (s:St) (RR:St × Nat × Int) (oa oo:Option Addr) (n m cap co:Nat) (c:Int) (vp:Value) (fuel:Nat) (w:World) (hf:fuel≤500) (hsn:s.now=c) (HS0:Hid (Xg p s=0)) (HRR:Hid (RR=Qf p fuel s))
  (HCK:Hid (∀ u,Za w u→Calls Tryz.prog 20 #[vp,.agg #[.slice oa n cap,.int .i64 c,.slice oo m co]] u fun e w'=>e=.returned (.int .i64 0)∧Za u w'))
  (HCP:Hid (∀ u,Za w u→Calls Tryz.prog 27 #[.agg #[.slice oa n cap,.int .i64 c,.slice oo m co]] u (Zdx s u)))
  (HDO:Hid (∀ u V c b,Za w u→Xg p c=0→c.now≠-1→Own b u V c→Calls Tryz.prog 15 #[vp,.agg #[V .fibers,.int .i64 c.now,V .out]] u (Zdh (Zz p c) u))) :
  Calls Tryz.prog 8 #[vp,.agg #[.slice oa n cap,.int .i64 c,.slice oo m co],.int .i64 fuel] w (Zdo RR w):=by
 have hin:inB (fuel:Int) 0 500=true:=Yu (by omega) (by omega)
 go_enter Tryz.func8,Tryz.ntmps8
 go_wp2_with (go_at_call 26;refine (Zjc _ _).mono ?_;rw [hin];rintro e w' ⟨rfl,rfl⟩;refine un ?_)
 refine Zb ?_
 generalize hw2:((w.alloc (.cells #[.slice oa n cap,.int .i64 c,.slice oo m co] 26)).alloc (.cells #[.slice none 0 0,.int .i64 0,.slice none 0 0] 26))=w2
 have hk2:Za w w2:=by rw [← hw2];exact ((Za.refl w).alloc _).alloc _
 have hz2:w2.heap.size=w.heap.size+2:=by rw [← hw2];simp
 have lX:w2.heap[w.heap.size]?=some (.cells #[.slice oa n cap,.int .i64 c,.slice oo m co] 26):=by rw [← hw2];exact Zo (Zh rfl) _
 have lR:w2.heap[w.heap.size+1]?=some (.cells #[.slice none 0 0,.int .i64 0,.slice none 0 0] 26):=by rw [← hw2];exact Zh (by simp)
 clear hw2
 have x0:w2.cell? ⟨w.heap.size,0,none⟩=some (.slice oa n cap):=Zd lX 0
 have x1:w2.cell? ⟨w.heap.size,1,none⟩=some (.int .i64 c):=Zd lX 1
 have x2:w2.cell? ⟨w.heap.size,2,none⟩=some (.slice oo m co):=Zd lX 2
 go_wp2_with fail
 refine ((un HCK) w2 hk2).mono ?_
 rintro e w3 ⟨rfl,hk3⟩
 have lX3:=Zn hk3 lX
 have lR3:=Zn hk3 lR
 have hz3:w.heap.size+2≤w3.heap.size:=by have:=hk3.size;omega
 clear x0 x1 x2
 have x0:w3.cell? ⟨w.heap.size,0,none⟩=some (.slice oa n cap):=Zd lX3 0
 have x1:w3.cell? ⟨w.heap.size,1,none⟩=some (.int .i64 c):=Zd lX3 1
 have x2:w3.cell? ⟨w.heap.size,2,none⟩=some (.slice oo m co):=Zd lX3 2
 have HK3:=Zb (hk2.trans hk3)
 have HX3:=Zb lX3
 have HR3:=Zb lR3
 have HZ3:=Zb hz3
 clear hk2 hk3 hz2 hz3 lX lR lX3 lR3 HCK hin
 go_wp2_with fail
 refine ((un HCP) w3 (un HK3)).mono ?_
 rintro e w4 ⟨V,rfl,ho4,hk4⟩
 obtain ⟨xs,hr,_⟩:=ho4.piece .fibers trivial
 obtain ⟨o1,c1,e1,_⟩:=Zw hr
 have hr2:=ho4.piece .out trivial
 obtain ⟨o2,c2,e2,_⟩:=Zw hr2
 have lX4:=Zn hk4 (un HX3)
 have lR4:=Zn hk4 (un HR3)
 clear x0 x1 x2
 have x0:w4.cell? ⟨w.heap.size,0,none⟩=some (.slice oa n cap):=Zd lX4 0
 have x1:w4.cell? ⟨w.heap.size,1,none⟩=some (.int .i64 c):=Zd lX4 1
 have x2:w4.cell? ⟨w.heap.size,2,none⟩=some (.slice oo m co):=Zd lX4 2
 have f0:=Zk lX4 0
 have f1:=Zk lX4 1
 have f2:=Zk lX4 2
 have hk5:Za w (((w4.setCell ⟨w.heap.size,0,none⟩ (V .fibers)).setCell ⟨w.heap.size,1,none⟩ (.int .i64 s.now)).setCell ⟨w.heap.size,2,none⟩ (V .out)):=((((un HK3).trans hk4).setCell (p:=⟨w.heap.size,0,none⟩) (Nat.le_refl _) _).setCell (p:=⟨w.heap.size,1,none⟩) (Nat.le_refl _) _).setCell (p:=⟨w.heap.size,2,none⟩) (Nat.le_refl _) _
 have l5:=Zbx (x:=V .fibers) (y:=.int .i64 s.now) (z:=V .out) lX4
 have hoth:∀ b,b≠w.heap.size→(((w4.setCell ⟨w.heap.size,0,none⟩ (V .fibers)).setCell ⟨w.heap.size,1,none⟩ (.int .i64 s.now)).setCell ⟨w.heap.size,2,none⟩ (V .out)).heap[b]?=w4.heap[b]?:=fun b hb=>by
  rw [Below.heap_setCell _ _ _ _ hb,Below.heap_setCell _ _ _ _ hb,Below.heap_setCell _ _ _ _ hb]
 have hlow:=ho4.low (un HZ3)
 have ho5:Own (w.heap.size+2) (((w4.setCell ⟨w.heap.size,0,none⟩ (V .fibers)).setCell ⟨w.heap.size,1,none⟩ (.int .i64 s.now)).setCell ⟨w.heap.size,2,none⟩ (V .out)) V s:=hlow.same (fun k g hk hg=>hoth g (by have:=((hlow.piece k hk).block g hg).1;omega))
 have lR5:=(hoth (w.heap.size+1) (by omega)).trans lR4
 have HK5:=Zb hk5
 have HL5:=Zb l5
 have HO5:=Zb ho5
 have HR5:=Zb lR5
 rw [e1,e2,hsn] at HK5 HL5 HO5 HR5 ⊢
 have HE1:=Zb e1
 have HE2:=Zb e2
 clear hk5 l5 ho5 lR5 hoth hlow ho4 hk4 hr hr2 e1 e2 lX4 lR4 HCP HX3 HR3 HZ3 HK3
 generalize s.fibers.length=N at *
 generalize s.out.length=M at *
 go_wp2_with fail
 go_loopw [10] (fun s10 wr=>∃ (k:Nat) (c:St) (V:Key→Value),k≤fuel∧s10=.int .i64 k∧Hid (wr.heap[w.heap.size]?=some (.cells #[V .fibers,.int .i64 c.now,V .out] 26))∧Hid (Own (w.heap.size+2) wr V c)∧Hid (Xg p c=0)∧Hid (RR=((Qf p (fuel - k) c).1,(Qf p (fuel - k) c).2.1+k,(Qf p (fuel - k) c).2.2))∧Hid (wr.heap[w.heap.size+1]?=some (.cells #[.slice none 0 0,.int .i64 0,.slice none 0 0] 26))∧Hid (Za w wr)) (fun s10 _=>fuel - (intOf s10).toNat)
 case atStart=>exact ⟨0,s,V,Nat.zero_le _,rfl,Zb (by rw [un HE1,un HE2,hsn];exact un HL5),HO5,HS0,Zb (by rw [un HRR];rfl),HR5,HK5⟩
 case round =>
  obtain ⟨k,c,Vc,hkf,rfl,HA,HOc,HRc,HREL,HLR,HKc⟩:=hrel
  clear HL5 HO5 HR5 HK5 HE1 HE2 x0 x1 x2 f0 f1 f2
  obtain ⟨xsF,hrF,_⟩:=(un HOc).piece .fibers trivial
  obtain ⟨oX,cX,hVf,_⟩:=Zw hrF
  have hrO:=(un HOc).piece .out trivial
  obtain ⟨oY,cY,hVo,_⟩:=Zw hrO
  have LAc:=un HA
  rw [hVf,hVo] at LAc
  have LRc:=un HLR
  have HLAc:=Zb LAc
  have d0:=Zd LAc 0
  have d1:=Zd LAc 1
  have d2:=Zd LAc 2
  have e0:=Zk LAc 0
  have e1:=Zk LAc 1
  have e2:=Zk LAc 2
  have q0:=Zd LRc 0
  have q1:=Zd LRc 1
  have q2:=Zd LRc 2
  have g0:=Zk LRc 0
  have g1:=Zk LRc 1
  have g2:=Zk LRc 2
  have HVF:=Zb hVf
  have HVO:=Zb hVo
  clear hrF hrO hVf hVo LAc LRc
  have HNE:=Zb (fun (h:Xg p c=0)=>(Zab (Zao h).2.1).2.2.2.2.1)
  generalize c.fibers.length=NX at *
  generalize c.out.length=MY at *
  by_cases hlt:k<fuel
  ·have hn1:(k:Int)<(fuel:Int):=by omega
   by_cases hneg:c.now=-1
   ·have HQ:Hid (RR=(c,k,0)):=Zb (by rw [un HREL,Zcd p _ c (.inr (by omega)),Nat.zero_add])
    have HNO:=Zb hneg
    rw [hneg] at d1
    clear HREL hneg
    go_wp2
    have l6:=Zbx (x:=.slice oX NX cX) (y:=.int .i64 (-1)) (z:=.slice oY MY cY) (un HLR)
    have hoff:Own.off Vc c (w.heap.size+1):=(un HOc).new_off (.inr (Nat.lt_succ_self _))
    have t6:=(((un HOc).setOff (a:=⟨w.heap.size+1,0,none⟩) hoff (.slice oX NX cX)).setOff (a:=⟨w.heap.size+1,1,none⟩) hoff (.int .i64 (-1))).setOff (a:=⟨w.heap.size+1,2,none⟩) hoff (.slice oY MY cY)
    have hk6:=(((un HKc).setCell (p:=⟨w.heap.size+1,0,none⟩) (Nat.le_succ _) (.slice oX NX cX)).setCell (p:=⟨w.heap.size+1,1,none⟩) (Nat.le_succ _) (.int .i64 (-1))).setCell (p:=⟨w.heap.size+1,2,none⟩) (Nat.le_succ _) (.slice oY MY cY)
    generalize (((wr.setCell ⟨w.heap.size+1,0,none⟩ (.slice oX NX cX)).setCell ⟨w.heap.size+1,1,none⟩ (.int .i64 (-1))).setCell ⟨w.heap.size+1,2,none⟩ (.slice oY MY cY))=w6 at *
    have z0:w6.cell? ⟨w.heap.size+1,0,none⟩=some (.slice oX NX cX):=Zd l6 0
    have z1:w6.cell? ⟨w.heap.size+1,1,none⟩=some (.int .i64 (-1)):=Zd l6 1
    have z2:w6.cell? ⟨w.heap.size+1,2,none⟩=some (.slice oY MY cY):=Zd l6 2
    refine bodyPost_ret (v:=.tuple #[.agg #[.slice oX NX cX,.int .i64 (-1),.slice oY MY cY],.int .i64 k,.int .i64 0]) (by simp [results,Tryz.results8,go_sem,z0,z1,z2]) rfl ?_
    exact ⟨Vc,by rw [un HQ,un HVF,un HVO,un HNO],by rw [un HQ];exact t6.low (by omega),hk6⟩
   ·have hnn0:0≤c.now:=by have:=(un HNE) (un HRc);omega
    have hd:=(un HDO) wr Vc c _ (un HKc) (un HRc) hneg (un HOc)
    rw [un HVF,un HVO] at hd
    have HD:=Zb hd
    have hrs:=Zgl (un HRc) hnn0
    have hfk:fuel - k=(fuel - (k+1))+1:=by omega
    have HCO:Hid ((Zz p c).2=0→RR=((Qf p (fuel - (k+1)) (Zz p c).1).1,(Qf p (fuel - (k+1)) (Zz p c).1).2.1+(k+1),(Qf p (fuel - (k+1)) (Zz p c).1).2.2)):=Zb (fun h=>by
     rw [un HREL,hfk,Zhq p _ c (by omega) h]
     simp only [Prod.mk.injEq,true_and,and_true];omega)
    have HST:Hid ((Zz p c).2≠0→RR=(c,k,(Zz p c).2)):=Zb (fun h=>by
     rw [un HREL,hfk,Zgt p _ c (by omega) h,Nat.zero_add])
    have HRI:Hid ((Zz p c).2=0→Xg p (Zz p c).1=0):=Zb (fun h=>by
     rcases hrs with ⟨_,h2⟩ | ⟨_,h2⟩
     ·exact h2
     ·exfalso;omega)
    clear hd hrs hfk HREL HNE
    generalize Zz p c=r at *
    generalize hnn:c.now=nn at *
    have HNO:=Zb hnn
    clear hnn
    go_wp2_with fail
    refine (un HD).mono ?_
    rintro e w5 ⟨V5,rfl,ho5,hk5⟩
    obtain ⟨xs5,hr5,_⟩:=ho5.piece .fibers trivial
    obtain ⟨o5,c5,E5,_⟩:=Zw hr5
    have hr6:=ho5.piece .out trivial
    obtain ⟨o6,c6,E6,_⟩:=Zw hr6
    have lA5:=Zn hk5 (un HLAc)
    have lR5:=Zn hk5 (un HLR)
    have hOc5:=(un HOc).same (w':=w5) (fun kk g hkk hg=>hk5.block g (((un HOc).piece kk hkk).block g hg).2)
    have hK5:=(un HKc).trans hk5
    have hwz:w.heap.size+2≤wr.heap.size:=by have:=(Array.getElem?_eq_some_iff.1 (un HLR)).1;omega
    have hHA:=hk5.size
    clear HD d0 d1 d2 e0 e1 e2 q0 q1 q2 g0 g1 g2
    rw [E5,E6]
    have HE5:=Zb E5
    have HE6:=Zb E6
    clear E5 E6 hr5 hr6
    generalize r.1.fibers.length=N5 at *
    generalize r.1.out.length=M5 at *
    generalize hrn:r.1.now=rn at *
    generalize hre:r.2=re at *
    have HRN:=Zb (And.intro hrn hre)
    clear hrn
    have lA7:=Zo lA5 (.cells #[.slice o5 N5 c5,.int .i64 rn,.slice o6 M5 c6] 26)
    have lR7:=Zo lR5 (.cells #[.slice o5 N5 c5,.int .i64 rn,.slice o6 M5 c6] 26)
    have a0:=Zd lA7 0
    have a1:=Zd lA7 1
    have a2:=Zd lA7 2
    have b0:=Zk lA7 0
    have b1:=Zk lA7 1
    have b2:=Zk lA7 2
    have q0:=Zd lR7 0
    have q1:=Zd lR7 1
    have q2:=Zd lR7 2
    have g0:=Zk lR7 0
    have g1:=Zk lR7 1
    have g2:=Zk lR7 2
    have HA7:=Zb lA7
    have HR7:=Zb lR7
    have HK7:=Zb (hK5.alloc (.cells #[.slice o5 N5 c5,.int .i64 rn,.slice o6 M5 c6] 26))
    have HO7:=Zb (hOc5.alloc (.cells #[.slice o5 N5 c5,.int .i64 rn,.slice o6 M5 c6] 26))
    have HP7:=Zb ((ho5.low hwz).alloc (.cells #[.slice o5 N5 c5,.int .i64 rn,.slice o6 M5 c6] 26))
    clear lA7 lR7 lA5 lR5 hK5 hOc5 ho5 hk5 hwz hHA
    by_cases hre0:re=0
    ·have hrr:=(un HRI) hre0
     have hco:=(un HCO) hre0
     have HRR2:=Zb hrr
     have HCO2:=Zb hco
     subst hre0
     clear hrr hco HRI HCO HST hre
     go_wp2
     go_roundw
     case rel =>
      have hoth:∀ b,b≠w.heap.size→((((w5.alloc (.cells #[.slice o5 N5 c5,.int .i64 rn,.slice o6 M5 c6] 26)).setCell ⟨w.heap.size,0,none⟩ (.slice o5 N5 c5)).setCell ⟨w.heap.size,1,none⟩ (.int .i64 rn)).setCell ⟨w.heap.size,2,none⟩ (.slice o6 M5 c6)).heap[b]?=(w5.alloc (.cells #[.slice o5 N5 c5,.int .i64 rn,.slice o6 M5 c6] 26)).heap[b]?:=fun b hb=>by
       rw [Below.heap_setCell _ _ _ _ hb,Below.heap_setCell _ _ _ _ hb,Below.heap_setCell _ _ _ _ hb]
      refine ⟨k+1,r.1,V5,by omega,by go_num,Zb ?_,Zb ((un HP7).same (fun kk g hkk hg=>hoth g (by have:=(((un HP7).piece kk hkk).block g hg).1;omega))),HRR2,HCO2,Zb ((hoth (w.heap.size+1) (by omega)).trans (un HR7)),Zb ((((un HK7).setCell (p:=⟨w.heap.size,0,none⟩) (Nat.le_refl _) _).setCell (p:=⟨w.heap.size,1,none⟩) (Nat.le_refl _) _).setCell (p:=⟨w.heap.size,2,none⟩) (Nat.le_refl _) _)⟩
      rw [un HE5,un HE6,(un HRN).1]
      exact Zbx (un HA7)
     case measure=>simp [intOf];omega
    ·have HQ:Hid (RR=(c,k,re)):=Zb ((un HST) hre0)
     clear HRI HCO HST hre HRN
     go_wp2
     have l6:=Zbx (x:=.slice oX NX cX) (y:=.int .i64 nn) (z:=.slice oY MY cY) (un HR7)
     have hoff:Own.off Vc c (w.heap.size+1):=(un HO7).new_off (.inr (Nat.lt_succ_self _))
     have t6:=(((un HO7).setOff (a:=⟨w.heap.size+1,0,none⟩) hoff (.slice oX NX cX)).setOff (a:=⟨w.heap.size+1,1,none⟩) hoff (.int .i64 nn)).setOff (a:=⟨w.heap.size+1,2,none⟩) hoff (.slice oY MY cY)
     have hk6:=(((un HK7).setCell (p:=⟨w.heap.size+1,0,none⟩) (Nat.le_succ _) (.slice oX NX cX)).setCell (p:=⟨w.heap.size+1,1,none⟩) (Nat.le_succ _) (.int .i64 nn)).setCell (p:=⟨w.heap.size+1,2,none⟩) (Nat.le_succ _) (.slice oY MY cY)
     generalize ((((w5.alloc (.cells #[.slice o5 N5 c5,.int .i64 rn,.slice o6 M5 c6] 26)).setCell ⟨w.heap.size+1,0,none⟩ (.slice oX NX cX)).setCell ⟨w.heap.size+1,1,none⟩ (.int .i64 nn)).setCell ⟨w.heap.size+1,2,none⟩ (.slice oY MY cY))=w6 at *
     have z0:w6.cell? ⟨w.heap.size+1,0,none⟩=some (.slice oX NX cX):=Zd l6 0
     have z1:w6.cell? ⟨w.heap.size+1,1,none⟩=some (.int .i64 nn):=Zd l6 1
     have z2:w6.cell? ⟨w.heap.size+1,2,none⟩=some (.slice oY MY cY):=Zd l6 2
     refine bodyPost_ret (v:=.tuple #[.agg #[.slice oX NX cX,.int .i64 nn,.slice oY MY cY],.int .i64 k,.int .i64 re]) (by simp [results,Tryz.results8,go_sem,z0,z1,z2]) rfl ?_
     exact ⟨Vc,by rw [un HQ,un HVF,un HVO,un HNO],by rw [un HQ];exact t6.low (by omega),hk6⟩
  ·have hke:k=fuel:=by omega
   have hn1:¬ (k:Int)<(fuel:Int):=by omega
   have HQ:Hid (RR=(c,k,0)):=Zb (by rw [un HREL,Zcd p _ c (.inl (by omega)),Nat.zero_add])
   clear HREL hke
   generalize hnn:c.now=nn at *
   have HNO:=Zb hnn
   go_wp2
   have l6:=Zbx (x:=.slice oX NX cX) (y:=.int .i64 nn) (z:=.slice oY MY cY) (un HLR)
   have hoff:Own.off Vc c (w.heap.size+1):=(un HOc).new_off (.inr (Nat.lt_succ_self _))
   have t6:=(((un HOc).setOff (a:=⟨w.heap.size+1,0,none⟩) hoff (.slice oX NX cX)).setOff (a:=⟨w.heap.size+1,1,none⟩) hoff (.int .i64 nn)).setOff (a:=⟨w.heap.size+1,2,none⟩) hoff (.slice oY MY cY)
   have hk6:=(((un HKc).setCell (p:=⟨w.heap.size+1,0,none⟩) (Nat.le_succ _) (.slice oX NX cX)).setCell (p:=⟨w.heap.size+1,1,none⟩) (Nat.le_succ _) (.int .i64 nn)).setCell (p:=⟨w.heap.size+1,2,none⟩) (Nat.le_succ _) (.slice oY MY cY)
   generalize (((wr.setCell ⟨w.heap.size+1,0,none⟩ (.slice oX NX cX)).setCell ⟨w.heap.size+1,1,none⟩ (.int .i64 nn)).setCell ⟨w.heap.size+1,2,none⟩ (.slice oY MY cY))=w6 at *
   have z0:w6.cell? ⟨w.heap.size+1,0,none⟩=some (.slice oX NX cX):=Zd l6 0
   have z1:w6.cell? ⟨w.heap.size+1,1,none⟩=some (.int .i64 nn):=Zd l6 1
   have z2:w6.cell? ⟨w.heap.size+1,2,none⟩=some (.slice oY MY cY):=Zd l6 2
   refine bodyPost_ret (v:=.tuple #[.agg #[.slice oX NX cX,.int .i64 nn,.slice oY MY cY],.int .i64 k,.int .i64 0]) (by simp [results,Tryz.results8,go_sem,z0,z1,z2]) rfl ?_
   exact ⟨Vc,by rw [un HQ,un HVF,un HVO,un HNO],by rw [un HQ];exact t6.low (by omega),hk6⟩
def rnS (p:List Fn) (s:St) (fuel:Int):St × Nat × Int :=
 if inB fuel 0 500=true then if Xg p s=0 then Qf p fuel.toNat s else (St.zero,0,Xg p s) else (St.zero,0,3)
theorem Zup (p:List Fn) (s:St) (vp vs:Value) (fuel:Int) (w:World) (hp:Xa w vp p) (hs:Xo w vs s) (hkd:Qv w) :
  Calls Tryz.prog 8 #[vp,vs,.int .i64 fuel] w (Zdo (rnS p s fuel) w):=by
 have HCK:∀ u,Za w u→Calls Tryz.prog 20 #[vp,vs] u fun e w'=>e=.returned (.int .i64 (Xg p s))∧Za u w':=fun u hu=>Zfz p s vp vs u (hp.kept hu) (hs.kept hu) (hkd.kept hu)
 have HCP:Xg p s=0→∀ u,Za w u→Calls Tryz.prog 27 #[vs] u (Zdx s u):=fun h0 u hu=>Zoi s vs u (hs.kept hu) (Zaz h0).short
 obtain ⟨vf,vo,rfl,⟨oa,cap,rfl,_,_⟩,⟨oo,co,rfl,_,_⟩⟩:=hs
 unfold rnS
 by_cases hin:inB fuel 0 500=true
 ·rw [if_pos hin]
  by_cases h0:Xg p s=0
  ·rw [if_pos h0]
   obtain ⟨h1,h2⟩:=Zaq.1 hin
   obtain ⟨k,rfl⟩:∃ k:Nat,fuel=k:=⟨fuel.toNat,by omega⟩
   rw [h0] at HCK
   rw [Int.toNat_natCast]
   refine Xdo p s _ oa oo _ _ cap co s.now vp k w (by omega) rfl (Zb h0) (Zb rfl) (Zb HCK) (Zb (HCP h0)) (Zb (fun u V c b hu hc hn ho=>?_))
   have hst:stpS p c=Zz p c:=by
    have:=(Zab (Zao hc).2.1).2.2.2.2.1
    unfold stpS Uf
    rw [if_pos hc,if_neg (by omega)]
   rw [← hst]
   exact Zpr p c vp _ u (hp.kept hu) (ho.reads (Zaz hc)) (hkd.kept hu)
  ·rw [if_neg h0]
   exact Zsk oa oo _ _ cap co s.now vp fuel w _ h0 hin (Zb HCK)
 ·rw [if_neg hin]
  exact Zzf oa oo _ _ cap co s.now vp fuel w (by simpa using hin)
def Zmr (s:St) (w:World) (e:Ending) (w':World):Prop:=∃ v,e=.returned v∧Xo w' v s∧Za w w'
theorem Zth {w:World} {b1 b2 b3 lo:Nat} (h1:w.heap[b1]?=some (.cells (ints (List.replicate lo 0)).toArray 3)) (h2:w.heap[b2]?=some (.cells #[.int .i64 0,.int .i64 0,.slice (some ⟨b1,0,none⟩) lo lo,.slice none 0 0] 48))
  (h3:w.heap[b3]?=some (.cells #[.slice (some ⟨b2,0,none⟩) 1 1,.int .i64 (-1)] 46)) (hlo:lo≤1000) :
  Xo w (.agg #[.slice (some ⟨b3,0,none⟩) 1 1,.int .i64 0,.slice none 0 0]) ⟨[⟨[⟨0,0,List.replicate lo 0,[]⟩],-1⟩],0,[]⟩:=by
 refine ⟨_,_,rfl,⟨some ⟨b3,0,none⟩,1,rfl,by simp,fun i b hb=>?_⟩,Xj.nil _⟩
 have hi:i=0:=by
  have:=(List.getElem?_eq_some_iff.1 hb).1
  simpa using this
 subst hi
 simp at hb
 subst hb
 refine ⟨b3,0,_,rfl,Zr h3 rfl,Zr h3 rfl,some ⟨b2,0,none⟩,1,rfl,⟨by simp,by simp⟩,fun j f hf=>?_⟩
 have hj:j=0:=by
  have:=(List.getElem?_eq_some_iff.1 hf).1
  simpa using this
 subst hj
 simp at hf
 subst hf
 refine ⟨b2,0,_,_,rfl,Zr h2 rfl,Zr h2 rfl,Zr h2 rfl,Zr h2 rfl,⟨some ⟨b1,0,none⟩,lo,by simp,by simp;omega,fun q z hz=>⟨b1,0,rfl,?_⟩⟩,Xj.nil _⟩
 rw [Nat.zero_add]
 exact Zr h1 (by rw [List.getElem?_toArray];exact Zfd hz)
theorem Zsw (b o n cp lo:Nat) (w:World) (c1:w.cell? ⟨b,o+1,none⟩=some (.int .i64 lo)) (hn:0<n) (hlo:lo≤1000) :
  Calls Tryz.prog 45 #[.slice (some ⟨b,o,none⟩) n cp] w fun e w'=>Zmr ⟨[⟨[⟨0,0,List.replicate lo 0,[]⟩],-1⟩],0,[]⟩ w e w':=by
 have hmk:=Zbj lo (by omega)
 have hn1:(0:Int)<(n:Int):=by omega
 have lb:=Xm c1
 simp only at lb
 go_enter Tryz.func45,Tryz.ntmps45
 go_wp2
 generalize hB:w.heap.size=B0 at *
 have hrep:Array.replicate lo (Value.int .i64 0)=(ints (List.replicate lo 0)).toArray:=by simp [ints]
 rw [hrep]
 generalize hw:(((w.alloc (.cells #[.slice (some ⟨B0+1+1+1,0,none⟩) 1 1,.int .i64 0,.slice none 0 0] 26)).alloc (.cells (ints (List.replicate lo 0)).toArray 3)).alloc (.cells #[.int .i64 0,.int .i64 0,.slice (some ⟨B0+1,0,none⟩) lo lo,.slice none 0 0] 48)).alloc (.cells #[.slice (some ⟨B0+1+1,0,none⟩) 1 1,.int .i64 (-1)] 46)=wz
 have L0:wz.heap[B0]?=some (.cells #[.slice (some ⟨B0+1+1+1,0,none⟩) 1 1,.int .i64 0,.slice none 0 0] 26):=by rw [← hw];exact Zo (Zo (Zo (Zh hB) _) _) _
 have L1:wz.heap[B0+1]?=some (.cells (ints (List.replicate lo 0)).toArray 3):=by rw [← hw];exact Zo (Zo (Zh (by simp [hB])) _) _
 have L2:wz.heap[B0+1+1]?=some (.cells #[.int .i64 0,.int .i64 0,.slice (some ⟨B0+1,0,none⟩) lo lo,.slice none 0 0] 48):=by rw [← hw];exact Zo (Zh (by simp [hB])) _
 have L3:wz.heap[B0+1+1+1]?=some (.cells #[.slice (some ⟨B0+1+1,0,none⟩) 1 1,.int .i64 (-1)] 46):=by rw [← hw];exact Zh (by simp [hB])
 have hk:Za w wz:=by rw [← hw];exact ((((Za.refl w).alloc _).alloc _).alloc _).alloc _
 have k0:wz.cell? ⟨B0,0,none⟩=some (.slice (some ⟨B0+1+1+1,0,none⟩) 1 1):=Zr L0 rfl
 have k1:wz.cell? ⟨B0,1,none⟩=some (.int .i64 0):=Zr L0 rfl
 have k2:wz.cell? ⟨B0,2,none⟩=some (.slice none 0 0):=Zr L0 rfl
 refine bodyPost_ret (v:=.agg #[.slice (some ⟨B0+1+1+1,0,none⟩) 1 1,.int .i64 0,.slice none 0 0]) (by simp [results,Tryz.results45,go_sem,k0,k1,k2]) rfl ?_
 exact ⟨_,rfl,Zth L1 L2 L3 hlo,hk⟩
theorem Zym (p:List Fn) (vp:Value) (w:World) (hp:Xa w vp p) (hz:Xq p=0) :
  Calls Tryz.prog 45 #[vp] w fun e w'=>Zmr (Pe p) w e w':=by
 obtain ⟨_,hp0,hck⟩:=Zaj hz
 obtain ⟨oa,cp,rfl,_,hcell⟩:=id hp
 obtain ⟨b,o,cv,rfl,_,c1,_,_⟩:=hcell 0 _ (Zs p 0 Fn.zero hp0)
 have hroom:0≤(p.getD 0 Fn.zero).locals∧(p.getD 0 Fn.zero).locals≤4:=by
  obtain ⟨i,hi,_,_,hr,_⟩:=Zea (hck 0 hp0)
  obtain rfl:i=0:=by omega
  have:=Wz.1 hr
  omega
 obtain ⟨lo,hlo⟩:∃ lo:Nat,(p.getD 0 Fn.zero).locals=lo:=⟨(p.getD 0 Fn.zero).locals.toNat,by omega⟩
 unfold Pe
 rw [hlo] at c1 hroom ⊢
 rw [Int.toNat_natCast]
 exact Zsw b o _ cp lo w (by simpa using c1) hp0 (by omega)
theorem Zop (w:World):Xo w (.agg #[.slice none 0 0,.int .i64 0,.slice none 0 0]) St.zero:=⟨_,_,rfl,We.nil _,Xj.nil _⟩
theorem Zjn (l1 l2:List Int) (v1 v2:Value) (w:World) (h1:Xj w v1 l1) (h2:Xj w v2 l2) :
  Calls Tryz.prog 28 #[v1,v2] w fun e w'=>e=.returned (.bool (decide (l1=l2)))∧Za w w':=by
 obtain ⟨oa,ca,rfl,n1,i1⟩:=h1
 obtain ⟨ob,cb,rfl,n2,i2⟩:=h2
 by_cases hl:l1.length=l2.length
 ·have HI1:=Zb i1
  have HI2:=Zb i2
  have HL:=Zb hl
  have hl':((l1.length:Int) != (l2.length:Int))=false:=by rw [hl];simp
  clear i1 i2 hl
  go_enter Tryz.func28,Tryz.ntmps28
  go_wp2
  go_loopw [5] (fun s5 wr=>∃ k:Nat,k≤l1.length∧s5=.int .i64 k∧Hid (∀ i,i<k→l1.getD i 0=l2.getD i 0)∧Hid (Za w wr)) (fun s5 _=>l1.length - (intOf s5).toNat)
  case atStart=>exact ⟨0,Nat.zero_le _,rfl,(fun i hi=>by omega),Za.refl _⟩
  case round =>
   obtain ⟨k,hkm,rfl,HA,HKr⟩:=hrel
   by_cases hlt:k<l1.length
   ·have hlt2:k<l2.length:=by have:=un HL;omega
    obtain ⟨b1,o1,e1,c1⟩:=(un HI1) k _ (Zs l1 k 0 hlt)
    obtain ⟨b2,o2,e2,c2⟩:=(un HI2) k _ (Zs l2 k 0 hlt2)
    have d1:=(un HKr).cell c1
    have d2:=(un HKr).cell c2
    generalize hz1:l1.getD k 0=z1 at *
    generalize hz2:l2.getD k 0=z2 at *
    have Z1:=Zb hz1
    have Z2:=Zb hz2
    subst e1 e2
    clear c1 c2 hz1 hz2
    by_cases hz:z1=z2
    ·have hzb:(z1 != z2)=false:=by rw [hz];simp
     have HZ:=Zb hz
     clear hz
     go_wp2
     go_quiet (fail)
     go_wp2
     go_roundw
     case rel =>
      refine ⟨k+1,by omega,by go_num,?_,(un HKr).drewN _⟩
      intro i hi
      by_cases e:i=k
      ·subst e;rw [un Z1,un Z2,un HZ]
      ·exact (un HA) i (by omega)
     case measure=>simp [intOf];omega
    ·have hzb:(z1 != z2)=true:=by rw [bne_iff_ne];exact hz
     have HZ:=Zb hz
     clear hz
     go_wp2
     go_quiet (fail)
     go_wp2
     go_ret
     refine ⟨?_,(un HKr).drewN _⟩
     rw [decide_eq_false]
     ·rfl
     ·intro e
      apply un HZ
      rw [← un Z1,← un Z2,e]
   ·go_wp2
    go_ret
    refine ⟨?_,un HKr⟩
    rw [decide_eq_true]
    ·rfl
    ·exact Zrb (un HL) (fun i hi=>(un HA) i (by omega))
 ·have hl':((l1.length:Int) != (l2.length:Int))=true:=by rw [bne_iff_ne];omega
  have HL:=Zb hl
  clear i1 i2 hl
  go_enter Tryz.func28,Tryz.ntmps28
  go_wp2
  go_ret
  refine ⟨?_,Za.refl _⟩
  rw [decide_eq_false]
  ·rfl
  ·intro e;exact (un HL) (by rw [e])
theorem Zpi {p:List Fn} {s:St} {f:Int}:Jn (rnS p s f).1:=by
 have hz:Jn St.zero:=by unfold Jn St.zero;simp
 unfold rnS
 split
 ·split
  ·rename_i h;exact Zaz (Zfr _ h)
  ·exact hz
 ·exact hz
theorem own_st {base:Nat} {w:World} {V:Key→Value} {s:St} (h:Own base w V s) (hs:Jn s):∃ oa n cap c oo m co,(.agg #[V .fibers,.int .i64 s.now,V .out]:Value)=.agg #[.slice oa n cap,.int .i64 c,.slice oo m co]∧Xo w (.agg #[.slice oa n cap,.int .i64 c,.slice oo m co]) s:=by
 obtain ⟨xs,hr,_⟩:=h.piece .fibers trivial
 obtain ⟨o3,c3,E3,_⟩:=Zw hr
 have hr4:=h.piece .out trivial
 obtain ⟨o4,c4,E4,_⟩:=Zw hr4
 have:=h.reads hs
 rw [E3,E4] at this
 exact ⟨_,_,_,_,_,_,_,by rw [E3,E4],this⟩
end Go.Proofs.YtblihfpigjiahaaGreatDoor
