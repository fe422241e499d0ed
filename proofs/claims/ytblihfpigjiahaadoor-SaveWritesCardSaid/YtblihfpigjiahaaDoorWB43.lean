/- SaveG, SaveH, SaveM, SaveA, SaveB -/
import Derived.Test.YtblihfpigjiahaaDoorWB42
import Derived.Test.YtblihfpigjiahaaDoorWB25
import Derived.Defers
import Derived.Recover
import Derived.Test.YtblihfpigjiahaaDoorWB41
import Derived.Test.YtblihfpigjiahaaDoorWB22
import Derived.Test.YtblihfpigjiahaaDoorWB08
import Derived.Test.YtblihfpigjiahaaDoorWB24
import Derived.Laws.AppendOwn
import Derived.Maps.AppendAt
import Derived.Laws.IdiomStrings
set_option maxRecDepth 100000
set_option maxHeartbeats 8000000
namespace Go.Proofs.YtblihfpigjiahaaDoor
open Go.RowKit
def StN (w:World) (gf go:Nat) (s:St):Prop:=FbsN w (.slice (some ⟨gf,0,none⟩) s.fibers.length s.fibers.length) s.fibers∧Yw w (.slice (some ⟨go,0,none⟩) s.out.length s.out.length) s.out
theorem Zyd (w:World) (B:Nat) (l r:List UInt8) (x:St) (h:Zu w B l) (hx:rdS l=some (x,r)) :
  Calls Tryd.prog 42 #[.pointer (some ⟨B,0,none⟩)] w fun en w'=>∃ gf go,en=.returned (.agg #[.slice (some ⟨gf,0,none⟩) x.fibers.length x.fibers.length,.int .i64 x.now,.slice (some ⟨go,0,none⟩) x.out.length x.out.length])∧StN w' gf go x∧Zu w' B r∧Zn B w w':=by
 obtain ⟨a,l2,rfl,r3,h3,h4,e1⟩:=Zhx hx
 have hB:=h.lt
 have HNE:Hid (B≠w.heap.size∧B≠w.heap.size+1):=Za ⟨by omega,by omega⟩
 have LR:Hid (((w.alloc (.cells #[.slice none 0 0,.int .i64 0,.slice none 0 0] 26)).alloc (.cells #[.slice none 0 0,.int .i64 0,.slice none 0 0] 26)).heap[w.heap.size]?=some (.cells #[.slice none 0 0,.int .i64 0,.slice none 0 0] 26)):=Za (Zr (Zg rfl) _)
 have LX:Hid (((w.alloc (.cells #[.slice none 0 0,.int .i64 0,.slice none 0 0] 26)).alloc (.cells #[.slice none 0 0,.int .i64 0,.slice none 0 0] 26)).heap[w.heap.size+1]?=some (.cells #[.slice none 0 0,.int .i64 0,.slice none 0 0] 26)):=Za (Zg (by simp))
 have HK:Hid (Zn B w ((w.alloc (.cells #[.slice none 0 0,.int .i64 0,.slice none 0 0] 26)).alloc (.cells #[.slice none 0 0,.int .i64 0,.slice none 0 0] 26))):=Za (((Zn.refl B w).alloc _).alloc _)
 have HC:=Za (Yf _ B a _ ((h.k ((Zb.refl w).alloc (.cells #[.slice none 0 0,.int .i64 0,.slice none 0 0] 26))).k ((Zb.refl _).alloc (.cells #[.slice none 0 0,.int .i64 0,.slice none 0 0] 26))))
 unfold StN
 rw [e1]
 have H3:=Za h3
 have H4:=Za h4
 have ha:a.toNat<256:=a.toNat_lt
 clear hx h h3 h4 e1 hB
 generalize hla:x.fibers.length=la at *
 generalize hls:x.out.length=ls at *
 have HLA:=Za (And.intro hla hls)
 clear hla hls
 go_enter Tryd.func42,Tryd.ntmps42
 go_wp2_with fail
 generalize (w.alloc (.cells #[.slice none 0 0,.int .i64 0,.slice none 0 0] 26)).alloc (.cells #[.slice none 0 0,.int .i64 0,.slice none 0 0] 26)=wa at *
 generalize hRR:w.heap.size=R at LR LX HNE ⊢
 have HSZ:Hid (w.heap.size≤R∧w.heap.size≤R+1):=Za ⟨by omega,by omega⟩
 clear hRR
 refine (un HC).mono ?_
 rintro _ w1 ⟨rfl,q1,q2⟩
 replace LR:=Za (q2.rd (un LR) (un HNE).1.symm)
 replace LX:=Za (q2.rd (un LX) (un HNE).2.symm)
 replace HK:=Za ((un HK).trans q2)
 have x1:=Zd (un LX) 1
 have z1:=Zk (un LX) 1
 simp only [List.getElem?_toArray,List.getElem?_cons_zero,List.getElem?_cons_succ] at x1
 have HC2:=Za (Znm (w1.setCell ⟨R+1,1,none⟩ (.int .i64 ((a.toNat:Int) - 1))) B l2 r3 x.fibers (q1.set (un HNE).2 _) (un H3))
 clear q1 q2 HC
 go_wp2_with fail
 replace LR:=Za (Zz (un LR) (a:=⟨R+1,1,none⟩) (by simp) (.int .i64 ((a.toNat:Int) - 1)))
 replace LX:=Za (Zl (un LX) 1 (.int .i64 ((a.toNat:Int) - 1)))
 replace HK:=Za ((un HK).setCell (p:=⟨R+1,1,none⟩) (.inr (un HSZ).2) (.int .i64 ((a.toNat:Int) - 1)))
 generalize w1.setCell ⟨R+1,1,none⟩ (.int .i64 ((a.toNat:Int) - 1))=w2 at *
 clear x1 z1
 refine (un HC2).mono ?_
 rintro _ w5 ⟨gf,rfl,i1,q1,q2⟩
 rw [(un HLA).1] at i1 ⊢
 replace LR:=Za (q2.rd (un LR) (un HNE).1.symm)
 replace LX:=Za (q2.rd (un LX) (un HNE).2.symm)
 replace HK:=Za ((un HK).trans q2)
 have I1:=Za (i1.stay (Zs.set (un LX) (by decide) 0 (.slice (some ⟨gf,0,none⟩) la la)))
 have x0:=Zd (un LX) 0
 have z0:=Zk (un LX) 0
 simp only [List.setIfInBounds_toArray,List.set_cons_zero,List.set_cons_succ,List.getElem?_toArray,List.getElem?_cons_zero] at x0
 have q1':=q1.set (i:=0) (un HNE).2 (.slice (some ⟨gf,0,none⟩) la la)
 have HC:=Za (Zew (w5.setCell ⟨R+1,0,none⟩ (.slice (some ⟨gf,0,none⟩) la la)) B r3 r x.out q1' (un H4))
 have HQ:=Za q1'
 clear q1 q2 i1 HC2 q1'
 go_wp2_with fail
 replace LR:=Za (Zz (un LR) (a:=⟨R+1,0,none⟩) (by simp) (.slice (some ⟨gf,0,none⟩) la la))
 replace LX:=Za (Zl (un LX) 0 (.slice (some ⟨gf,0,none⟩) la la))
 replace HK:=Za ((un HK).setCell (p:=⟨R+1,0,none⟩) (.inr (un HSZ).2) (.slice (some ⟨gf,0,none⟩) la la))
 generalize w5.setCell ⟨R+1,0,none⟩ (.slice (some ⟨gf,0,none⟩) la la)=w6 at *
 clear x0 z0
 refine (un HC).mono ?_
 rintro _ w7 ⟨go,rfl,i2,q1,q2⟩
 rw [(un HLA).2] at i2 ⊢
 replace I1:=Za ((un I1).stay (q2.stay (un HQ)))
 replace LR:=Za (q2.rd (un LR) (un HNE).1.symm)
 replace LX:=Za (q2.rd (un LX) (un HNE).2.symm)
 replace HK:=Za ((un HK).trans q2)
 have st:=Zs.set (ts:=[3,53,46]) (un LX) (by decide) 2 (.slice (some ⟨go,0,none⟩) ls ls)
 replace I1:=Za ((un I1).stay st)
 have I2:=Za (i2.stay (st.sub (by simp)))
 have HQ2:=Za (q1.set (i:=2) (un HNE).2 (.slice (some ⟨go,0,none⟩) ls ls))
 have x3:=Zd (un LX) 2
 have z3:=Zk (un LX) 2
 simp only [List.setIfInBounds_toArray,List.set_cons_zero,List.set_cons_succ,List.getElem?_toArray,List.getElem?_cons_zero,List.getElem?_cons_succ] at x3
 have LR8:=Zz (un LR) (a:=⟨R+1,2,none⟩) (by simp) (.slice (some ⟨go,0,none⟩) ls ls)
 have LX8:=Zl (un LX) 2 (.slice (some ⟨go,0,none⟩) ls ls)
 have HK8:=Za ((un HK).setCell (p:=⟨R+1,2,none⟩) (.inr (un HSZ).2) (.slice (some ⟨go,0,none⟩) ls ls))
 clear q1 q2 i2 st HC HQ
 have d0:=Zd LX8 0
 have d1:=Zd LX8 1
 have d2:=Zd LX8 2
 simp only [List.setIfInBounds_toArray,List.set_cons_zero,List.set_cons_succ,List.getElem?_toArray,List.getElem?_cons_zero,List.getElem?_cons_succ] at d0 d1 d2
 have v0:=Zd LR8 0
 have v1:=Zd LR8 1
 have v2:=Zd LR8 2
 simp only [List.getElem?_toArray,List.getElem?_cons_zero,List.getElem?_cons_succ] at v0 v1 v2
 have y0:=Zk LR8 0
 have y1:=Zk LR8 1
 have y2:=Zk LR8 2
 have HLR8:=Za LR8
 clear LR8 LX8
 go_wp2_with fail
 have k1:=Zl (Zl (Zl (un HLR8) 0 (.slice (some ⟨gf,0,none⟩) la la)) 1 (.int .i64 ((a.toNat:Int) - 1))) 2 (.slice (some ⟨go,0,none⟩) ls ls)
 have t0:=Zd k1 0
 have t1:=Zd k1 1
 have t2:=Zd k1 2
 simp only [Array.setIfInBounds,List.size_toArray,List.length_cons,List.length_nil] at t0 t1 t2
 refine bodyPost_ret (v:=.agg #[.slice (some ⟨gf,0,none⟩) la la,.int .i64 ((a.toNat:Int) - 1),.slice (some ⟨go,0,none⟩) ls ls]) (by simp [results,Tryd.results42,go_sem,t0,t1,t2]) rfl ?_
 have g1:=Zl (un HLR8) 0 (.slice (some ⟨gf,0,none⟩) la la)
 have g2:=Zl g1 1 (.int .i64 ((a.toNat:Int) - 1))
 have st4:=((Zs.set (ts:=[3,53,46]) (un HLR8) (by decide) 0 (.slice (some ⟨gf,0,none⟩) la la)).trans (Zs.set g1 (by decide) 1 (.int .i64 ((a.toNat:Int) - 1)))).trans (Zs.set g2 (by decide) 2 (.slice (some ⟨go,0,none⟩) ls ls))
 refine ⟨gf,go,rfl,⟨(un I1).stay st4,(un I2).stay (st4.sub (by simp))⟩,(((un HQ2).set (un HNE).1 _).set (un HNE).1 _).set (un HNE).1 _,?_⟩
 exact (((un HK8).setCell (p:=⟨R,0,none⟩) (.inr (un HSZ).1) _).setCell (p:=⟨R,1,none⟩) (.inr (un HSZ).1) _).setCell (p:=⟨R,2,none⟩) (.inr (un HSZ).1) _
theorem Yw.ints {w:World} {v:Value} {l:List Int} (h:Yw w v l) (hl:l.length≤1000):Xn w v l:=by
 obtain ⟨g,cur,rfl,hg,hc⟩:=h
 refine ⟨_,_,rfl,by omega,fun i z hz=>⟨g,0,rfl,?_⟩⟩
 rw [Zd hg];simpa using hc i z hz
theorem StN.st {w:World} {gf go:Nat} {s:St} (h:StN w gf go s) (hs:Yi s):Zy w (.agg #[.slice (some ⟨gf,0,none⟩) s.fibers.length s.fibers.length,.int .i64 s.now,.slice (some ⟨go,0,none⟩) s.out.length s.out.length]) s:=by
 obtain ⟨⟨g,cur,e,hg,hc⟩,h2⟩:=h
 obtain ⟨s1,s2,s3⟩:=hs
 refine ⟨_,_,rfl,⟨_,_,rfl,by omega,fun i b hb=>?_⟩,h2.ints s2⟩
 obtain ⟨vf,q1,q2,⟨g',cur',rfl,hg',hc'⟩⟩:=hc i b hb
 obtain ⟨f1,f2⟩:=s3 b (List.mem_of_getElem? hb)
 obtain rfl:gf=g:=by simpa using e
 refine ⟨gf,0,.slice (some ⟨g',0,none⟩) b.frames.length b.frames.length,rfl,?_,?_,some ⟨g',0,none⟩,b.frames.length,rfl,⟨by omega,Nat.le_refl _⟩,fun j x hx=>?_⟩
 ·rw [Zd hg];simpa using q1
 ·rw [Zd hg];simpa using q2
 ·obtain ⟨vl,vs,p1,p2,p3,p4,p5,p6⟩:=hc' j x hx
  obtain ⟨t1,t2⟩:=f2 x (List.mem_of_getElem? hx)
  refine ⟨g',0,vl,vs,rfl,?_,?_,?_,?_,p5.ints t1,p6.ints t2⟩ <;> rw [Zd hg']
  ·simpa using p1
  ·simpa using p2
  ·simpa using p3
  ·simpa using p4
theorem Zml (g:Nat) (w:World) :
  CallsD Tryd.prog 41 #[.pointer (some ⟨g,0,none⟩)] .returning w fun e u' w'=>e=.returned (.tuple #[])∧u'=.returning∧w'=w:=by
 refine callsD_of_wpS Tryd.func41 rfl fun c₀ cs hu=>?_
 apply wpS_seq
 apply wpS_region
 simp [wpOpsS,go_sem,recoverD,hu,Tryd.ntmps41,Exit.thenS]
 have ht:(#[Value.pointer (some ⟨g,0,none⟩)]++((Array.replicate 6 undef).setIfInBounds 1 Value.nilIface).setIfInBounds 0 Value.nilIface)=#[Value.pointer (some ⟨g,0,none⟩),Value.nilIface,Value.nilIface,undef,undef,undef,undef]:=rfl
 rw [ht]
 apply wpS_seq
 apply wpS_region
 simp [wpOpsS,go_sem,Exit.thenS]
 refine wpS_cond (t:=false) (by simp [Act.eval]) ?_
 simp only [Bool.false_eq_true,if_false]
 refine wpS_of_wp (wp_skip ?_)
 cases c₀
 simp_all [bodyPostS,results,Tryd.results41]
def Zaj (s:St) (r:List UInt8) (w:World) (en:Ending) (w':World):Prop :=
 if r=[] then ∃ gf go,en=.returned (.tuple #[.agg #[.slice (some ⟨gf,0,none⟩) s.fibers.length s.fibers.length,.int .i64 s.now,.slice (some ⟨go,0,none⟩) s.out.length s.out.length],.int .i64 0])∧StN w' gf go s∧Zb w w'
 else en=.returned (.tuple #[.agg #[.slice none 0 0,.int .i64 0,.slice none 0 0],.int .i64 1])∧Zb w w'
theorem Zgs (w:World) (l r:List UInt8) (s:St) (hx:rdS l=some (s,r)) :
  Calls Tryd.prog 21 #[.string ⟨l.toArray⟩] w (Zaj s r w):=by
 have LR:Hid ((((w.alloc (.cells #[.slice none 0 0,.int .i64 0,.slice none 0 0] 26)).alloc (.cells #[.int .i64 0] 27)).alloc (.cells #[.string ⟨l.toArray⟩] 81)).heap[w.heap.size]?=some (.cells #[.slice none 0 0,.int .i64 0,.slice none 0 0] 26)):=Za (Zr (Zr (Zg rfl) _) _)
 have LE:Hid ((((w.alloc (.cells #[.slice none 0 0,.int .i64 0,.slice none 0 0] 26)).alloc (.cells #[.int .i64 0] 27)).alloc (.cells #[.string ⟨l.toArray⟩] 81)).heap[w.heap.size+1]?=some (.cells #[.int .i64 0] 27)):=Za (Zr (Zg (by simp)) _)
 have LB:Zu (((w.alloc (.cells #[.slice none 0 0,.int .i64 0,.slice none 0 0] 26)).alloc (.cells #[.int .i64 0] 27)).alloc (.cells #[.string ⟨l.toArray⟩] 81)) (w.heap.size+1+1) l:=Zg (by simp)
 have HC:=Za (Zyd _ _ l r s LB hx)
 have HK:Hid (Zb w (((w.alloc (.cells #[.slice none 0 0,.int .i64 0,.slice none 0 0] 26)).alloc (.cells #[.int .i64 0] 27)).alloc (.cells #[.string ⟨l.toArray⟩] 81))):=Za ((((Zb.refl w).alloc _).alloc _).alloc _)
 have HSZ:Hid (w.heap.size≤w.heap.size+1+1∧w.heap.size+1+1≠w.heap.size∧w.heap.size+1+1≠w.heap.size+1):=Za ⟨by omega,by omega,by omega⟩
 clear hx LB
 generalize hla:s.fibers.length=la at *
 generalize hls:s.out.length=ls at *
 have HLA:=Za (And.intro hla hls)
 clear hla hls
 generalize (ByteArray.mk l.toArray)=S at *
 go_enter_defers Tryd.func21,Tryd.ntmps21
 go_wp2_with fail
 generalize (((w.alloc (.cells #[.slice none 0 0,.int .i64 0,.slice none 0 0] 26)).alloc (.cells #[.int .i64 0] 27)).alloc (.cells #[.string S] 81))=wa at *
 generalize hRR:w.heap.size=R at LR LE HC HSZ ⊢
 have HR:Hid (w.heap.size≤R):=Za (by omega)
 clear hRR
 refine (un HC).mono ?_
 rintro _ w1 ⟨gf,go,rfl,i1,q1,q2⟩
 replace LR:=Za (q2.rd (un LR) (un HSZ).2.1.symm)
 replace LE:=Za (q2.rd (un LE) (un HSZ).2.2.symm)
 have HK1:Hid (Zb w w1):=Za (Zn.kept (un HK) (Nat.le_trans (un HR) (by omega)) q2)
 have l1:=Zl (un LR) 0 (.slice (some ⟨gf,0,none⟩) la la)
 have l2:=Zl l1 1 (.int .i64 s.now)
 have l3:=Zl l2 2 (.slice (some ⟨go,0,none⟩) ls ls)
 have st:=((Zs.set (ts:=[3,53,46]) (un LR) (by decide) 0 (.slice (some ⟨gf,0,none⟩) la la)).trans (Zs.set l1 (by decide) 1 (.int .i64 s.now))).trans (Zs.set l2 (by decide) 2 (.slice (some ⟨go,0,none⟩) ls ls))
 have I1:Hid (StN (((w1.setCell ⟨R,0,none⟩ (.slice (some ⟨gf,0,none⟩) la la)).setCell ⟨R,1,none⟩ (.int .i64 s.now)).setCell ⟨R,2,none⟩ (.slice (some ⟨go,0,none⟩) ls ls)) gf go s):=Za ⟨by have:=i1.1;exact this.stay st,i1.2.stay (st.sub (by simp))⟩
 have b0:=Zd (((q1.set (i:=0) (g:=R) (un HSZ).2.1 (.slice (some ⟨gf,0,none⟩) la la)).set (i:=1) (g:=R) (un HSZ).2.1 (.int .i64 s.now)).set (i:=2) (g:=R) (un HSZ).2.1 (.slice (some ⟨go,0,none⟩) ls ls):Zu (((w1.setCell ⟨R,0,none⟩ (.slice (some ⟨gf,0,none⟩) la la)).setCell ⟨R,1,none⟩ (.int .i64 s.now)).setCell ⟨R,2,none⟩ (.slice (some ⟨go,0,none⟩) ls ls)) (R+1+1) r) 0
 have HLR:=Za l3
 have HLE:=Za (Zz (Zz (Zz (un LE) (a:=⟨R,0,none⟩) (by simp) (.slice (some ⟨gf,0,none⟩) la la)) (a:=⟨R,1,none⟩) (by simp) (.int .i64 s.now)) (a:=⟨R,2,none⟩) (by simp) (.slice (some ⟨go,0,none⟩) ls ls))
 have HK2:=Za ((((un HK1).setCell (p:=⟨R,0,none⟩) (un HR) (.slice (some ⟨gf,0,none⟩) la la)).setCell (p:=⟨R,1,none⟩) (un HR) (.int .i64 s.now)).setCell (p:=⟨R,2,none⟩) (un HR) (.slice (some ⟨go,0,none⟩) ls ls))
 have x0:=Zd (un LR) 0
 have x1:=Zd (un LR) 1
 have x2:=Zd (un LR) 2
 have z0:=Zk (un LR) 0
 have z1:=Zk (un LR) 1
 have z2:=Zk (un LR) 2
 clear l1 l2 l3 st i1 q1 q2 HC
 simp only [List.getElem?_toArray,List.getElem?_cons_zero] at b0
 by_cases hr:r=[]
 ·have hem:(ByteArray.mk r.toArray).toList.isEmpty=true:=by rw [ByteArray.toList_mk,hr];rfl
  have HP:Hid (∀ e w',(∃ gf go,e=Ending.returned (.tuple #[.agg #[.slice (some ⟨gf,0,none⟩) la la,.int .i64 s.now,.slice (some ⟨go,0,none⟩) ls ls],.int .i64 0])∧StN w' gf go s∧Zb w w')→Zaj s r w e w'):=Za (fun e w' h=>by unfold Zaj;rw [if_pos hr,(un HLA).1,(un HLA).2];exact h)
  generalize (ByteArray.mk r.toArray)=S2 at b0 hem
  clear hr
  go_upto_region 6 with fail
  generalize ((w1.setCell ⟨R,0,none⟩ (.slice (some ⟨gf,0,none⟩) la la)).setCell ⟨R,1,none⟩ (.int .i64 s.now)).setCell ⟨R,2,none⟩ (.slice (some ⟨go,0,none⟩) ls ls)=wz at HLR HLE HK2 I1 b0 ⊢
  have hlr:=un HLR
  simp only [List.setIfInBounds_toArray,List.set_cons_zero,List.set_cons_succ] at hlr
  have c0:=Zd hlr 0
  have c1:=Zd hlr 1
  have c2:=Zd hlr 2
  have y0:=Zk hlr 0
  have y1:=Zk hlr 1
  have y2:=Zk hlr 2
  have c3:=Zd (un HLE) 0
  have y3:=Zk (un HLE) 0
  simp only [List.getElem?_toArray,List.getElem?_cons_zero,List.getElem?_cons_succ] at c0 c1 c2 c3
  have g1:=Zl hlr 0 (.slice (some ⟨gf,0,none⟩) la la)
  have g2:=Zl g1 1 (.int .i64 s.now)
  have g3:=Zl g2 2 (.slice (some ⟨go,0,none⟩) ls ls)
  have ge:=Zz (Zz (Zz (un HLE) (a:=⟨R,0,none⟩) (by simp) (.slice (some ⟨gf,0,none⟩) la la)) (a:=⟨R,1,none⟩) (by simp) (.int .i64 s.now)) (a:=⟨R,2,none⟩) (by simp) (.slice (some ⟨go,0,none⟩) ls ls)
  have e3:=Zd ge 0
  have f3:=Zk ge 0
  simp only [List.getElem?_toArray,List.getElem?_cons_zero] at e3
  have g4:=Zz g3 (a:=⟨R+1,0,none⟩) (by simp) (.int .i64 0)
  have ge2:=Zl ge 0 (.int .i64 0)
  have t0:=Zd g4 0
  have t1:=Zd g4 1
  have t2:=Zd g4 2
  have t3:=Zd ge2 0
  simp only [List.setIfInBounds_toArray,List.set_cons_zero,List.set_cons_succ,List.getElem?_toArray,List.getElem?_cons_zero,List.getElem?_cons_succ] at t0 t1 t2 t3
  have HKF:=Za (((((un HK2).setCell (p:=⟨R,0,none⟩) (un HR) (.slice (some ⟨gf,0,none⟩) la la)).setCell (p:=⟨R,1,none⟩) (un HR) (.int .i64 s.now)).setCell (p:=⟨R,2,none⟩) (un HR) (.slice (some ⟨go,0,none⟩) ls ls)).setCell (p:=⟨R+1,0,none⟩) (Nat.le_trans (un HR) (Nat.le_succ R)) (.int .i64 0))
  have st:=(((Zs.set (ts:=[3,53,46]) hlr (by decide) 0 (.slice (some ⟨gf,0,none⟩) la la)).trans (Zs.set g1 (by decide) 1 (.int .i64 s.now))).trans (Zs.set g2 (by decide) 2 (.slice (some ⟨go,0,none⟩) ls ls))).trans (Zs.set ge (by decide) 0 (.int .i64 0))
  have IF:Hid (StN _ gf go s):=Za ⟨(un I1).1.stay st,(un I1).2.stay (st.sub (by simp))⟩
  have HT:=Za (And.intro t0 (And.intro t1 (And.intro t2 t3)))
  clear hlr g1 g2 g3 ge g4 ge2 st t0 t1 t2 t3 x0 x1 x2 z0 z1 z2
  go_wp2_with fail
  generalize (((wz.setCell ⟨R,0,none⟩ (.slice (some ⟨gf,0,none⟩) la la)).setCell ⟨R,1,none⟩ (.int .i64 s.now)).setCell ⟨R,2,none⟩ (.slice (some ⟨go,0,none⟩) ls ls)).setCell ⟨R+1,0,none⟩ (.int .i64 0)=wy at HKF IF HT ⊢
  refine leaves_cons (f:=41) (args:=#[.pointer (some ⟨R+1,0,none⟩)]) (by simp) (by simp [go_sem]) ?_
  refine (Zml (R+1) _).mono ?_
  rintro e u' w'' ⟨rfl,rfl,rfl⟩
  obtain ⟨t0,t1,t2,t3⟩:=un HT
  simp [Leaves,settle,results,Tryd.results21,go_sem,t0,t1,t2,t3]
  exact (un HP) _ _ ⟨gf,go,rfl,un IF,un HKF⟩
 ·have hem:(ByteArray.mk r.toArray).toList.isEmpty=false:=by rw [ByteArray.toList_mk];cases r with | nil=>exact absurd rfl hr | cons a b=>rfl
  have HP:Hid (∀ e w',(e=Ending.returned (.tuple #[.agg #[.slice none 0 0,.int .i64 0,.slice none 0 0],.int .i64 1])∧Zb w w')→Zaj s r w e w'):=Za (fun e w' h=>by unfold Zaj;rw [if_neg hr];exact h)
  generalize (ByteArray.mk r.toArray)=S2 at b0 hem
  clear hr
  go_upto_region 5 with fail
  generalize ((w1.setCell ⟨R,0,none⟩ (.slice (some ⟨gf,0,none⟩) la la)).setCell ⟨R,1,none⟩ (.int .i64 s.now)).setCell ⟨R,2,none⟩ (.slice (some ⟨go,0,none⟩) ls ls)=wz at HLR HLE HK2 I1 b0 ⊢
  have hlr:=un HLR
  simp only [List.setIfInBounds_toArray,List.set_cons_zero,List.set_cons_succ] at hlr
  have c0:=Zd hlr 0
  have c1:=Zd hlr 1
  have c2:=Zd hlr 2
  have y0:=Zk hlr 0
  have y1:=Zk hlr 1
  have y2:=Zk hlr 2
  have c3:=Zd (un HLE) 0
  have y3:=Zk (un HLE) 0
  simp only [List.getElem?_toArray,List.getElem?_cons_zero,List.getElem?_cons_succ] at c0 c1 c2 c3
  have g1:=Zl hlr 0 (.slice none 0 0)
  have g2:=Zl g1 1 (.int .i64 0)
  have g3:=Zl g2 2 (.slice none 0 0)
  have ge:=Zz (Zz (Zz (un HLE) (a:=⟨R,0,none⟩) (by simp) (.slice none 0 0)) (a:=⟨R,1,none⟩) (by simp) (.int .i64 0)) (a:=⟨R,2,none⟩) (by simp) (.slice none 0 0)
  have e3:=Zd ge 0
  have f3:=Zk ge 0
  simp only [List.getElem?_toArray,List.getElem?_cons_zero] at e3
  have g4:=Zz g3 (a:=⟨R+1,0,none⟩) (by simp) (.int .i64 1)
  have ge2:=Zl ge 0 (.int .i64 1)
  have t0:=Zd g4 0
  have t1:=Zd g4 1
  have t2:=Zd g4 2
  have t3:=Zd ge2 0
  simp only [List.setIfInBounds_toArray,List.set_cons_zero,List.set_cons_succ,List.getElem?_toArray,List.getElem?_cons_zero,List.getElem?_cons_succ] at t0 t1 t2 t3
  have HKF:=Za (((((un HK2).setCell (p:=⟨R,0,none⟩) (un HR) (.slice none 0 0)).setCell (p:=⟨R,1,none⟩) (un HR) (.int .i64 0)).setCell (p:=⟨R,2,none⟩) (un HR) (.slice none 0 0)).setCell (p:=⟨R+1,0,none⟩) (Nat.le_trans (un HR) (Nat.le_succ R)) (.int .i64 1))
  have st:=(((Zs.set (ts:=[3,53,46]) hlr (by decide) 0 (.slice none 0 0)).trans (Zs.set g1 (by decide) 1 (.int .i64 0))).trans (Zs.set g2 (by decide) 2 (.slice none 0 0))).trans (Zs.set ge (by decide) 0 (.int .i64 1))
  have IF:Hid (StN _ gf go s):=Za ⟨(un I1).1.stay st,(un I1).2.stay (st.sub (by simp))⟩
  have HT:=Za (And.intro t0 (And.intro t1 (And.intro t2 t3)))
  clear hlr g1 g2 g3 ge g4 ge2 st t0 t1 t2 t3 x0 x1 x2 z0 z1 z2
  go_wp2_with fail
  generalize (((wz.setCell ⟨R,0,none⟩ (.slice none 0 0)).setCell ⟨R,1,none⟩ (.int .i64 0)).setCell ⟨R,2,none⟩ (.slice none 0 0)).setCell ⟨R+1,0,none⟩ (.int .i64 1)=wy at HKF IF HT ⊢
  refine leaves_cons (f:=41) (args:=#[.pointer (some ⟨R+1,0,none⟩)]) (by simp) (by simp [go_sem]) ?_
  refine (Zml (R+1) _).mono ?_
  rintro e u' w'' ⟨rfl,rfl,rfl⟩
  obtain ⟨t0,t1,t2,t3⟩:=un HT
  simp [Leaves,settle,results,Tryd.results21,go_sem,t0,t1,t2,t3]
  exact (un HP) _ _ ⟨rfl,un HKF⟩
open Go.RowKit Go.Maps
def Jh (l:List UInt8):List Value:=l.map fun b=>Value.int .u8 (b.toNat:Int)
theorem Zlb:(Tryd.prog.info? 5).map (fun i=>(i.zero,i.size,i.bytes))=some (some (.int .u8 0),1,1):=by kernel_rfl
def Jf (w0 w:World) (B:Nat) (l:List UInt8):Prop :=
 ∃ cv,w.heap[B]?=some (.cells #[cv] 42)∧w0.heap.size≤B∧w.ownsRow w0.heap.size 5 1 cv l.length (Jh l)∧cv.ownBlock≠some B∧Zb w0 w
def WrK (B:Nat) (w w':World):Prop:=w.heap.size≤w'.heap.size∧∀ (b:Nat) (c:Array Value) (t:TypeId),w.heap[b]?=some (.cells c t)→b≠B→t≠5→w'.heap[b]?=some (.cells c t)
theorem WrK.trans {B:Nat} {w w1 w2:World} (h:WrK B w w1) (k:WrK B w1 w2):WrK B w w2:=⟨Nat.le_trans h.1 k.1,fun b c t hb hn ht=>k.2 b c t (h.2 b c t hb hn ht) hn ht⟩
theorem WrK.kept {B:Nat} {w w':World} (h:Zb w w'):WrK B w w':=⟨h.size,fun _ _ _ hb _ _=>Zm h hb⟩
theorem Jf.kept {w0 w w':World} {B:Nat} {l:List UInt8} (h:Jf w0 w B l) (k:Zb w w'):Jf w0 w' B l:=by
 obtain ⟨cv,h1,h2,h3,h4,h5⟩:=h
 exact ⟨cv,Zm k h1,h2,Jl h3 (fun g hg=>k.block g (World.ownsRow.lt h3 g hg).2),h4,h5.trans k⟩
theorem Jf.k {w0 w:World} {B:Nat} {l:List UInt8} (h:Jf w0 w B l):Zb w0 w:=by
 obtain ⟨_,_,_,_,_,h⟩:=h
 exact h
theorem Jf.lt {w0 w:World} {B:Nat} {l:List UInt8} (h:Jf w0 w B l):B<w.heap.size:=by
 obtain ⟨_,h,_⟩:=h
 exact (Array.getElem?_eq_some_iff.1 h).1
theorem Zaq (w0 w:World) (B:Nat) (l:List UInt8) (z:Int) (h:Jf w0 w B l) (hl:l.length≤100000000000) :
  Calls Tryd.prog 30 #[.pointer (some ⟨B,0,none⟩),.int .i64 z] w fun en w'=>en=.returned (.tuple #[])∧Jf w0 w' B (l++[Xg z])∧WrK B w w':=by
 obtain ⟨i0,hi0,hz0,hz1,hz2⟩:=info_parts Zlb
 obtain ⟨cv,hB,hlow,hrow,hoff,hk⟩:=h
 obtain ⟨oa,cap,rfl,_⟩:=Zag hrow
 have hL:(w.alloc (.cells #[.int .u8 (IntKind.u8.wrap z)] 5)).heap[w.heap.size]?=some (.cells #[.int .u8 (IntKind.u8.wrap z)] 5):=Zg rfl
 obtain ⟨v',w2,hrun,hown,hgrow,_,hat⟩:=run_append_own_at (P:=Tryd.prog) _ w0.heap.size 40 40 5 i0 _ 1 1 Tryd.underlying40 hi0 hz0 hz1 hz2 rfl (by decide) _ l.length (Jh l) (Jl (w':=w.alloc (.cells #[.int .u8 (IntKind.u8.wrap z)] 5)) hrow (fun g hg=>Below.heap_alloc w _ g (World.ownsRow.lt hrow g hg).2)) ⟨w.heap.size,0,none⟩ 1 1 [.int .u8 (IntKind.u8.wrap z)] rfl (fun j x hj=>by
   have:((⟨w.heap.size,0,none⟩:Addr).add j)=⟨w.heap.size,j,none⟩:=by unfold Addr.add;split <;> simp_all
   rw [this,Zd hL];simpa using hj) (fun x hx=>by
   simp only [List.mem_cons,List.not_mem_nil,or_false] at hx
   rw [hx];rfl) (by unfold maxLen;omega) (by omega) (Nat.le_trans hk.size (by simp))
 obtain ⟨o2,c2,rfl,_⟩:=Zag hown
 have hBlt:B<w.heap.size:=(Array.getElem?_eq_some_iff.1 hB).1
 have hB2:w2.heap[B]?=some (.cells #[.slice oa l.length cap] 42):=(hgrow.block B (by simp;omega) (fun e=>hoff e.symm)).trans (Zr hB _)
 have hk2:Zb w0 w2:=Below.grown (hk.alloc _) hgrow (hk.alloc _).size (fun g hg=>(World.ownsRow.lt hrow g hg).1)
 have hne:(Value.slice o2 (l.length+1) c2).ownBlock≠some B:=by
  rcases hat with e | e
  ·rw [e];exact hoff
  ·rw [e]
   intro e'
   have:=Option.some.inj e'
   simp at this
   omega
 have hbv:Jh l++[.int .u8 (IntKind.u8.wrap z)]=Jh (l++[Xg z]):=by
  simp only [Jh,List.map_append,List.map_cons,List.map_nil,Zat,IntKind.wrap_u8]
 rw [hbv] at hown
 have hstay:∀ (b:Nat) (c:Array Value) (t:TypeId),w.heap[b]?=some (.cells c t)→t≠5→w2.heap[b]?=some (.cells c t):=fun b c t hb ht=>by
  have hlt:b<w.heap.size:=(Array.getElem?_eq_some_iff.1 hb).1
  refine (hgrow.block b (by simp;omega) (fun e=>?_)).trans (Zr hb _)
  obtain ⟨_,⟨h0,_⟩ | ⟨g,_,cur',h0,_,hh,_⟩⟩:=hrow
  ·rw [h0] at e;cases e
  ·rw [h0] at e
   obtain rfl:b=g:=by simpa [Value.ownBlock] using e
   rw [hb] at hh
   simp only [Option.some.injEq,Obj.cells.injEq] at hh
   exact ht hh.2.1
 have HP:Hid (Jf w0 (w2.setCell ⟨B,0,none⟩ (.slice o2 (l.length+1) c2)) B (l++[Xg z])∧WrK B w (w2.setCell ⟨B,0,none⟩ (.slice o2 (l.length+1) c2))):=Za (by
  refine ⟨⟨_,Zl hB2 0 _,hlow,?_,hne,hk2.setCell (p:=⟨B,0,none⟩) hlow _⟩,?_,fun b c t hb hn ht=>?_⟩
  ·rw [List.length_append]
   exact ownsRow_setCell_other (a:=⟨B,0,none⟩) hown hne _
  ·have h1:=hgrow.size
   simp [World.setCell] at h1 ⊢
   omega
  ·exact Zz (hstay b c t hb ht) (a:=⟨B,0,none⟩) hn _)
 have b0:=Zd hB 0
 have m0:=Zd hB2 0
 have f0:=Zk hB2 0
 have HR:=Za hrun
 generalize l.length=n at *
 clear hi0 hz0 hz1 hz2 hB hlow hrow hoff hk hL hrun hown hgrow hat hB2 hk2 hne hbv hstay
 go_enter Tryd.func30,Tryd.ntmps30
 go_wp2_with (at_builtin;refine un ?_)
 refine Za ?_
 refine Zai _ rfl (.tmp 8) (.tmp 11) 40 rfl rfl rfl (un HR) ?_
 clear HR
 go_wp2_with fail
 go_end0
 exact ⟨rfl,un HP⟩
def Zbk (w0:World) (B:Nat) (l e:List UInt8) (w:World) (en:Ending) (w':World):Prop:=en=.returned (.tuple #[])∧Jf w0 w' B (l++e)∧WrK B w w'
theorem Zkm (v:Int) {k:Nat} (hk:k<8):(Qd v)[k]?=some (Xg (v / 2 ^ (56 - 8*k))):=by simp [Qd,hk]
theorem Zpu (w0 w:World) (B:Nat) (l:List UInt8) (v:Int) (h:Jf w0 w B l) (hl:l.length+8≤100000000000) :
  Calls Tryd.prog 34 #[.pointer (some ⟨B,0,none⟩),.int .i64 v] w (Zbk w0 B l (Qd v) w):=by
 have HS:Hid (∀ (k:Nat) (u:World),k<8→Jf w0 u B (l++(Qd v).take k)→Calls Tryd.prog 30 #[.pointer (some ⟨B,0,none⟩),.int .i64 (v / 2 ^ (56 - 8*k))] u fun en w'=>en=.returned (.tuple #[])∧Jf w0 w' B (l++(Qd v).take (k+1))∧WrK B u w'):=Za (fun k u hk hu=>by
  have:=Zaq w0 u B _ (v / 2 ^ (56 - 8*k)) hu (by simp [Pe];omega)
  refine this.mono fun en w' ⟨h1,h2,h3⟩=>⟨h1,?_,h3⟩
  rwa [List.take_add_one,Zkm v hk,Option.toList_some,← List.append_assoc])
 have H0:=Za h
 have HL:=Za hl
 clear h hl
 go_enter Tryd.func34,Tryd.ntmps34
 go_wp2
 go_loopw [4] (fun s4 wr=>∃ k:Nat,k≤8∧s4=.int .i64 (56 - 8*(k:Int))∧Hid (Jf w0 wr B (l++(Qd v).take k)∧WrK B w wr)) (fun s4 _=>((intOf s4)+8).toNat)
 case atStart=>exact ⟨0,by omega,rfl,Za ⟨by simpa using un H0,WrK.kept (Zb.refl w)⟩⟩
 case round =>
  obtain ⟨k,hk8,rfl,HW⟩:=hrel
  by_cases hk:k<8
  ·have g0:(0:Int)≤56 - 8*(k:Int):=by omega
   have g1:¬ (56 - 8*(k:Int))<0:=by omega
   have g2:min (56 - 8*(k:Int)).toNat 64=56 - 8*k:=by omega
   have HC:=Za ((un HS) k wr hk (un HW).1)
   have HK:=Za (un HW).2
   clear HW
   go_wp2_with fail
   refine (un HC).mono ?_
   rintro _ w2 ⟨rfl,hw2,hk2⟩
   have HN:=Za (And.intro hw2 ((un HK).trans hk2))
   clear hw2 hk2 HC HK
   go_wp2_with fail
   go_roundw
   case rel=>exact ⟨k+1,by omega,by go_num,HN⟩
   case measure=>simp [intOf];omega
  ·obtain rfl:k=8:=by omega
   go_wp2
   go_end0
   obtain ⟨h1,h2⟩:=un HW
   refine ⟨rfl,?_,h2⟩
   rwa [List.take_of_length_le (by rw [Pe];omega)] at h1
theorem Zbz {α:Type} (g:α→List UInt8) (l:List α) {k:Nat} {x:α} (hx:l[k]?=some x):(l.take (k+1)).flatMap g=(l.take k).flatMap g++g x:=by
 rw [List.take_add_one,hx];simp
theorem Zmc {α:Type} (g:α→List UInt8):∀ (l:List α) (k:Nat),((l.take k).flatMap g).length≤(l.flatMap g).length
 | [],k=>by simp
 | x :: l,0=>by simp
 | x :: l,k+1=>by have:=Zmc g l k;simp only [List.take_succ_cons,List.flatMap_cons,List.length_append];omega
theorem Zdt {α:Type} (g:α→List UInt8) (l:List α) {k:Nat} {x:α} (hx:l[k]?=some x):((l.take k).flatMap g).length+(g x).length≤(l.flatMap g).length:=by
 have:=Zmc g l (k+1)
 rw [Zbz g l hx,List.length_append] at this
 exact this
theorem WrK.lays {B b:Nat} {w w':World} {c:Array Value} {t:TypeId} (k:WrK B w w') (h:w.heap[b]?=some (.cells c t)) (hn:b≠B) (ht:t≠5):w'.heap[b]?=some (.cells c t):=k.2 b c t h hn ht
theorem Zjf (w0 w:World) (B:Nat) (l:List UInt8) (xs:List Int) (vx:Value) (h:Jf w0 w B l) (hx:Xn w0 vx xs) (hl:l.length+(Xp Qd xs).length≤100000000000) :
  Calls Tryd.prog 33 #[.pointer (some ⟨B,0,none⟩),vx,.func (.func 34) #[.pointer (some ⟨B,0,none⟩)] #[]] w (Zbk w0 B l (Xp Qd xs) w):=by
 obtain ⟨oa,cap,rfl,hn,hi⟩:=hx
 have hle:(Xp Qd xs).length=1+(xs.flatMap Qd).length:=by simp [Xp];omega
 have HS:=Za (Zaq w0 w B l (xs.length:Nat) h (by omega))
 generalize hN:xs.length=n at *
 have HN:=Za hN
 have HI:=Za hi
 have HL:=Za hl
 have HLE:=Za hle
 have hn9:n≤8796093022208000:=by omega
 clear hi hl hle hN h hn
 go_enter Tryd.func33,Tryd.ntmps33
 go_wp2_with fail
 refine (un HS).mono ?_
 rintro _ w1 ⟨rfl,h1,k1⟩
 have H1:=Za (And.intro h1 k1)
 clear h1 k1 HS
 go_wp2_with fail
 go_loopw [14] (fun s14 wr=>∃ k:Nat,k≤n∧s14=.int .i64 k∧Hid (Jf w0 wr B (l++[Xg n]++(xs.take k).flatMap Qd)∧WrK B w wr)) (fun s14 _=>n - (intOf s14).toNat)
 case atStart=>exact ⟨0,Nat.zero_le _,rfl,Za (by simpa using un H1)⟩
 case round =>
  obtain ⟨k,hkm,rfl,HW⟩:=hrel
  by_cases hk:k<n
  ·obtain ⟨x,hx⟩:∃ x,xs[k]?=some x:=⟨_,List.getElem?_eq_getElem (by rw [un HN];exact hk)⟩
   have hlx:=Zdt Qd xs hx
   have hk0:(0:Int)≤(k:Int):=by omega
   have hk1:(k:Int)<(n:Int):=by omega
   have hkw:=(un HW).1.k
   obtain ⟨b,o,rfl,c0⟩:=(un HI) k x hx
   replace c0:=hkw.cell c0
   have HC:=Za (Zpu w0 wr B _ x (un HW).1 (by have:=un HL;have:=un HLE;rw [Pe] at hlx;simp only [List.length_append,List.length_cons,List.length_nil];omega))
   have HK:=Za (un HW).2
   have HX:=Za hx
   clear hkw hx hlx HW
   go_wp2_with fail
   refine (un HC).mono ?_
   rintro _ w2 ⟨rfl,h2,k2⟩
   have HN2:Hid (Jf w0 w2 B (l++[Xg n]++(xs.take (k+1)).flatMap Qd)∧WrK B w w2):=Za ⟨by rw [Zbz Qd xs (un HX),← List.append_assoc];exact h2,(un HK).trans (k2)⟩
   clear h2 k2 HC HK
   go_wp2_with fail
   go_roundw
   case rel=>exact ⟨k+1,by omega,by go_num,HN2⟩
   case measure=>simp [intOf];omega
  ·obtain rfl:k=n:=by omega
   go_wp2
   go_end0
   obtain ⟨h1,h2⟩:=un HW
   refine ⟨rfl,?_,h2⟩
   rw [List.take_of_length_le (by rw [un HN];omega)] at h1
   simpa [Xp,un HN] using h1
theorem Zyq (w0 w:World) (B:Nat) (l:List UInt8) (x:Fr) (vl vs:Value) (h:Jf w0 w B l) (h1:Xn w0 vl x.locals) (h2:Xn w0 vs x.stack) (hl:l.length+(Qx x).length≤100000000000) :
  Calls Tryd.prog 58 #[.pointer (some ⟨B,0,none⟩),.agg #[.int .i64 x.fn,.int .i64 x.at_,vl,vs]] w (Zbk w0 B l (Qx x) w):=by
 obtain ⟨ol,cl,rfl,_,_⟩:=id h1
 obtain ⟨os,cs,rfl,_,_⟩:=id h2
 have lx:(w.alloc (.cells #[.int .i64 x.fn,.int .i64 x.at_,.slice ol x.locals.length cl,.slice os x.stack.length cs] 53)).heap[w.heap.size]?=some (.cells #[.int .i64 x.fn,.int .i64 x.at_,.slice ol x.locals.length cl,.slice os x.stack.length cs] 53):=Zg rfl
 have kx:=(Zb.refl w).alloc (.cells #[.int .i64 x.fn,.int .i64 x.at_,.slice ol x.locals.length cl,.slice os x.stack.length cs] 53)
 have hB0:w.heap.size≠B:=by have:=h.lt;omega
 have hW:=h.kept kx
 have HLx:=Za lx
 have HK0:Hid (WrK B w (w.alloc (.cells #[.int .i64 x.fn,.int .i64 x.at_,.slice ol x.locals.length cl,.slice os x.stack.length cs] 53))):=Za (WrK.kept kx)
 have HS:=Za (Zaq w0 _ B l x.fn hW (by omega))
 have hle:(Qx x).length=2+(Xp Qd x.locals).length+(Xp Qd x.stack).length:=by simp [Qx];omega
 have HL:=Za (And.intro hl hle)
 have H1:=Za h1
 have H2:=Za h2
 generalize hnl:x.locals.length=nl at *
 generalize hns:x.stack.length=ns at *
 clear lx kx hW h h1 h2 hl hle hnl hns
 go_enter Tryd.func58,Tryd.ntmps58
 go_wp2_with fail
 generalize w.alloc (.cells #[.int .i64 x.fn,.int .i64 x.at_,.slice ol nl cl,.slice os ns cs] 53)=wx at *
 generalize w.heap.size=Bx at *
 have a0:=Zd (un HLx) 0
 simp only [List.getElem?_toArray,List.getElem?_cons_zero] at a0
 go_wp2_with fail
 refine (un HS).mono ?_
 rintro _ w1 ⟨rfl,q1,k1⟩
 replace HLx:=Za (k1.lays (un HLx) hB0 (by decide))
 replace HK0:=Za ((un HK0).trans k1)
 replace HS:=Za (Zaq w0 _ B _ x.at_ q1 (by have:=un HL;simp only [List.length_append,List.length_cons,List.length_nil];omega))
 clear q1 k1 a0
 have a1:=Zd (un HLx) 1
 simp only [List.getElem?_toArray,List.getElem?_cons_zero,List.getElem?_cons_succ] at a1
 go_wp2_with fail
 refine (un HS).mono ?_
 rintro _ w2 ⟨rfl,q2,k2⟩
 replace HLx:=Za (k2.lays (un HLx) hB0 (by decide))
 replace HK0:=Za ((un HK0).trans k2)
 have HC:=Za (Zjf w0 _ B _ x.locals _ q2 (un H1) (by have:=un HL;simp only [List.length_append,List.length_cons,List.length_nil];omega))
 clear q2 k2 a1 HS
 have a2:=Zd (un HLx) 2
 simp only [List.getElem?_toArray,List.getElem?_cons_zero,List.getElem?_cons_succ] at a2
 go_wp2_with fail
 refine (un HC).mono ?_
 rintro _ w3 ⟨rfl,q3,k3⟩
 replace HLx:=Za (k3.lays (un HLx) hB0 (by decide))
 replace HK0:=Za ((un HK0).trans k3)
 have HC2:=Za (Zjf w0 _ B _ x.stack _ q3 (un H2) (by have:=un HL;simp only [List.length_append,List.length_cons,List.length_nil];omega))
 clear q3 k3 a2 HC
 have a3:=Zd (un HLx) 3
 simp only [List.getElem?_toArray,List.getElem?_cons_zero,List.getElem?_cons_succ] at a3
 go_wp2_with fail
 refine (un HC2).mono ?_
 rintro _ w4 ⟨rfl,q4,k4⟩
 have HQ:=Za q4
 replace HK0:=Za ((un HK0).trans k4)
 clear q4 k4 HC2 a3
 go_wp2_with fail
 go_end0
 refine ⟨rfl,?_,un HK0⟩
 have:=un HQ
 simpa [Qx] using this
theorem Zrf (w0 w:World) (B:Nat) (l:List UInt8) (xs:List Fr) (vx:Value) (h:Jf w0 w B l) (hx:Ys w0 vx xs) (hl:l.length+(Xp Qx xs).length≤100000000000) :
  Calls Tryd.prog 57 #[.pointer (some ⟨B,0,none⟩),vx,.func (.func 58) #[.pointer (some ⟨B,0,none⟩)] #[]] w (Zbk w0 B l (Xp Qx xs) w):=by
 obtain ⟨oa,cap,rfl,hn,hi⟩:=hx
 have hle:(Xp Qx xs).length=1+(xs.flatMap Qx).length:=by simp [Xp];omega
 have HS:=Za (Zaq w0 w B l (xs.length:Nat) h (by omega))
 generalize hN:xs.length=n at *
 have HN:=Za hN
 have HI:=Za hi
 have HL:=Za hl
 have HLE:=Za hle
 have hn9:n≤8796093022208000:=by omega
 clear hi hl hle hN h hn
 go_enter Tryd.func57,Tryd.ntmps57
 go_wp2_with fail
 refine (un HS).mono ?_
 rintro _ w1 ⟨rfl,h1,k1⟩
 have H1:=Za (And.intro h1 k1)
 clear h1 k1 HS
 go_wp2_with fail
 go_loopw [14] (fun s14 wr=>∃ k:Nat,k≤n∧s14=.int .i64 k∧Hid (Jf w0 wr B (l++[Xg n]++(xs.take k).flatMap Qx)∧WrK B w wr)) (fun s14 _=>n - (intOf s14).toNat)
 case atStart=>exact ⟨0,Nat.zero_le _,rfl,Za (by simpa using un H1)⟩
 case round =>
  obtain ⟨k,hkm,rfl,HW⟩:=hrel
  by_cases hk:k<n
  ·obtain ⟨x,hx⟩:∃ x,xs[k]?=some x:=⟨_,List.getElem?_eq_getElem (by rw [un HN];exact hk)⟩
   have hlx:=Zdt Qx xs hx
   have hk0:(0:Int)≤(k:Int):=by omega
   have hk1:(k:Int)<(n:Int):=by omega
   have hkw:=(un HW).1.k
   obtain ⟨b,o,vl,vs,rfl,c0,c1,c2,c3,i1,i2⟩:=(un HI) k x hx
   replace c0:=hkw.cell c0
   replace c1:=hkw.cell c1
   replace c2:=hkw.cell c2
   replace c3:=hkw.cell c3
   obtain ⟨ol,cl,rfl,_,_⟩:=id i1
   obtain ⟨os,cs,rfl,_,_⟩:=id i2
   have HC:=Za (Zyq w0 (wr.alloc (.cells #[.int .i64 x.fn,.int .i64 x.at_,.slice ol x.locals.length cl,.slice os x.stack.length cs] 53)) B _ x _ _ ((un HW).1.kept ((Zb.refl wr).alloc _)) i1 i2 (by have:=un HL;have:=un HLE;simp only [List.length_append,List.length_cons,List.length_nil];omega))
   clear i1 i2
   have HK:=Za (un HW).2
   have HX:=Za hx
   clear hkw hx hlx HW
   go_wp2_with fail
   refine (un HC).mono ?_
   rintro _ w2 ⟨rfl,h2,k2⟩
   have HN2:Hid (Jf w0 w2 B (l++[Xg n]++(xs.take (k+1)).flatMap Qx)∧WrK B w w2):=Za ⟨by rw [Zbz Qx xs (un HX),← List.append_assoc];exact h2,(un HK).trans ((WrK.kept ((Zb.refl wr).alloc _)).trans k2)⟩
   clear h2 k2 HC HK
   go_wp2_with fail
   go_roundw
   case rel=>exact ⟨k+1,by omega,by go_num,HN2⟩
   case measure=>simp [intOf];omega
  ·obtain rfl:k=n:=by omega
   go_wp2
   go_end0
   obtain ⟨h1,h2⟩:=un HW
   refine ⟨rfl,?_,h2⟩
   rw [List.take_of_length_le (by rw [un HN];omega)] at h1
   simpa [Xp,un HN] using h1
theorem Xae (w0 w:World) (B:Nat) (l:List UInt8) (x:Fb) (vf:Value) (h:Jf w0 w B l) (h1:Ys w0 vf x.frames) (hc:-1≤x.caller∧x.caller<255) (hl:l.length+(Ja x).length≤100000000000) :
  Calls Tryd.prog 32 #[.pointer (some ⟨B,0,none⟩),.agg #[vf,.int .i64 x.caller]] w (Zbk w0 B l (Ja x) w):=by
 obtain ⟨ol,cl,rfl,_,_⟩:=id h1
 have lx:(w.alloc (.cells #[.slice ol x.frames.length cl,.int .i64 x.caller] 46)).heap[w.heap.size]?=some (.cells #[.slice ol x.frames.length cl,.int .i64 x.caller] 46):=Zg rfl
 have kx:=(Zb.refl w).alloc (.cells #[.slice ol x.frames.length cl,.int .i64 x.caller] 46)
 have hB0:w.heap.size≠B:=by have:=h.lt;omega
 have hW:=h.kept kx
 have HLx:=Za lx
 have HK0:Hid (WrK B w (w.alloc (.cells #[.slice ol x.frames.length cl,.int .i64 x.caller] 46))):=Za (WrK.kept kx)
 have HS:=Za (Zaq w0 _ B l (x.caller+1) hW (by omega))
 have hle:(Ja x).length=1+(Xp Qx x.frames).length:=by simp [Ja];omega
 have HL:=Za (And.intro hl hle)
 have H1:=Za h1
 obtain ⟨hc0,hc1⟩:=hc
 generalize hnl:x.frames.length=nl at *
 clear lx kx hW h h1 hl hle hnl
 go_enter Tryd.func32,Tryd.ntmps32
 go_wp2_with fail
 generalize w.alloc (.cells #[.slice ol nl cl,.int .i64 x.caller] 46)=wx at *
 generalize w.heap.size=Bx at *
 have a1:=Zd (un HLx) 1
 simp only [List.getElem?_toArray,List.getElem?_cons_zero,List.getElem?_cons_succ] at a1
 go_wp2_with fail
 refine (un HS).mono ?_
 rintro _ w1 ⟨rfl,q1,k1⟩
 replace HLx:=Za (k1.lays (un HLx) hB0 (by decide))
 replace HK0:=Za ((un HK0).trans k1)
 have HC:=Za (Zrf w0 _ B _ x.frames _ q1 (un H1) (by have:=un HL;simp only [List.length_append,List.length_cons,List.length_nil];omega))
 clear q1 k1 a1 HS
 have a0:=Zd (un HLx) 0
 simp only [List.getElem?_toArray,List.getElem?_cons_zero] at a0
 go_wp2_with fail
 refine (un HC).mono ?_
 rintro _ w2 ⟨rfl,q2,k2⟩
 have HQ:=Za q2
 replace HK0:=Za ((un HK0).trans k2)
 clear q2 k2 HC a0
 go_wp2_with fail
 go_end0
 refine ⟨rfl,?_,un HK0⟩
 have:=un HQ
 simpa [Ja] using this
theorem Zui (w0 w:World) (B:Nat) (l:List UInt8) (xs:List Fb) (vx:Value) (h:Jf w0 w B l) (hx:Wu w0 vx xs) (hl:l.length+(Xp Ja xs).length≤100000000000) (HCL:Hid (∀ x∈xs,-1≤x.caller∧x.caller<255)) :
  Calls Tryd.prog 31 #[.pointer (some ⟨B,0,none⟩),vx,.func (.func 32) #[.pointer (some ⟨B,0,none⟩)] #[]] w (Zbk w0 B l (Xp Ja xs) w):=by
 obtain ⟨oa,cap,rfl,hn,hi⟩:=hx
 have hle:(Xp Ja xs).length=1+(xs.flatMap Ja).length:=by simp [Xp];omega
 have HS:=Za (Zaq w0 w B l (xs.length:Nat) h (by omega))
 generalize hN:xs.length=n at *
 have HN:=Za hN
 have HI:=Za hi
 have HL:=Za hl
 have HLE:=Za hle
 have hn9:n≤8796093022208000:=by omega
 clear hi hl hle hN h hn
 go_enter Tryd.func31,Tryd.ntmps31
 go_wp2_with fail
 refine (un HS).mono ?_
 rintro _ w1 ⟨rfl,h1,k1⟩
 have H1:=Za (And.intro h1 k1)
 clear h1 k1 HS
 go_wp2_with fail
 go_loopw [14] (fun s14 wr=>∃ k:Nat,k≤n∧s14=.int .i64 k∧Hid (Jf w0 wr B (l++[Xg n]++(xs.take k).flatMap Ja)∧WrK B w wr)) (fun s14 _=>n - (intOf s14).toNat)
 case atStart=>exact ⟨0,Nat.zero_le _,rfl,Za (by simpa using un H1)⟩
 case round =>
  obtain ⟨k,hkm,rfl,HW⟩:=hrel
  by_cases hk:k<n
  ·obtain ⟨x,hx⟩:∃ x,xs[k]?=some x:=⟨_,List.getElem?_eq_getElem (by rw [un HN];exact hk)⟩
   have hlx:=Zdt Ja xs hx
   have hk0:(0:Int)≤(k:Int):=by omega
   have hk1:(k:Int)<(n:Int):=by omega
   have hkw:=(un HW).1.k
   obtain ⟨b,o,vf,rfl,c0,c1,i1⟩:=(un HI) k x hx
   replace c0:=hkw.cell c0
   replace c1:=hkw.cell c1
   obtain ⟨ol,cl,rfl,_,_⟩:=id i1
   have HC:=Za (Xae w0 (wr.alloc (.cells #[.slice ol x.frames.length cl,.int .i64 x.caller] 46)) B _ x _ ((un HW).1.kept ((Zb.refl wr).alloc _)) i1 ((un HCL) x (List.mem_of_getElem? hx)) (by have:=un HL;have:=un HLE;simp only [List.length_append,List.length_cons,List.length_nil];omega))
   clear i1
   have HK:=Za (un HW).2
   have HX:=Za hx
   clear hkw hx hlx HW
   go_wp2_with fail
   refine (un HC).mono ?_
   rintro _ w2 ⟨rfl,h2,k2⟩
   have HN2:Hid (Jf w0 w2 B (l++[Xg n]++(xs.take (k+1)).flatMap Ja)∧WrK B w w2):=Za ⟨by rw [Zbz Ja xs (un HX),← List.append_assoc];exact h2,(un HK).trans ((WrK.kept ((Zb.refl wr).alloc _)).trans k2)⟩
   clear h2 k2 HC HK
   go_wp2_with fail
   go_roundw
   case rel=>exact ⟨k+1,by omega,by go_num,HN2⟩
   case measure=>simp [intOf];omega
  ·obtain rfl:k=n:=by omega
   go_wp2
   go_end0
   obtain ⟨h1,h2⟩:=un HW
   refine ⟨rfl,?_,h2⟩
   rw [List.take_of_length_le (by rw [un HN];omega)] at h1
   simpa [Xp,un HN] using h1
theorem Zsw (w0 w:World) (B:Nat) (l:List UInt8) (s:St) (vf vo:Value) (h:Jf w0 w B l) (h1:Wu w0 vf s.fibers) (h2:Xn w0 vo s.out) (hc:-1≤s.now∧s.now<255) (HCL:Hid (∀ x∈s.fibers,-1≤x.caller∧x.caller<255)) (hl:l.length+(Xk s).length≤100000000000) :
  Calls Tryd.prog 14 #[.pointer (some ⟨B,0,none⟩),.agg #[vf,.int .i64 s.now,vo]] w (Zbk w0 B l (Xk s) w):=by
 obtain ⟨ol,cl,rfl,_,_⟩:=id h1
 obtain ⟨os,cs,rfl,_,_⟩:=id h2
 have lx:(w.alloc (.cells #[.slice ol s.fibers.length cl,.int .i64 s.now,.slice os s.out.length cs] 26)).heap[w.heap.size]?=some (.cells #[.slice ol s.fibers.length cl,.int .i64 s.now,.slice os s.out.length cs] 26):=Zg rfl
 have kx:=(Zb.refl w).alloc (.cells #[.slice ol s.fibers.length cl,.int .i64 s.now,.slice os s.out.length cs] 26)
 have hB0:w.heap.size≠B:=by have:=h.lt;omega
 have hW:=h.kept kx
 have HLx:=Za lx
 have HK0:Hid (WrK B w (w.alloc (.cells #[.slice ol s.fibers.length cl,.int .i64 s.now,.slice os s.out.length cs] 26))):=Za (WrK.kept kx)
 have HS:=Za (Zaq w0 _ B l (s.now+1) hW (by omega))
 have hle:(Xk s).length=1+(Xp Ja s.fibers).length+(Xp Qd s.out).length:=by simp [Xk];omega
 have HL:=Za (And.intro hl hle)
 have H1:=Za h1
 have H2:=Za h2
 obtain ⟨hc0,hc1⟩:=hc
 generalize hnl:s.fibers.length=nl at *
 generalize hns:s.out.length=ns at *
 clear lx kx hW h h1 h2 hl hle hnl hns
 go_enter Tryd.func14,Tryd.ntmps14
 go_wp2_with fail
 generalize w.alloc (.cells #[.slice ol nl cl,.int .i64 s.now,.slice os ns cs] 26)=wx at *
 generalize w.heap.size=Bx at *
 have a1:=Zd (un HLx) 1
 simp only [List.getElem?_toArray,List.getElem?_cons_zero,List.getElem?_cons_succ] at a1
 go_wp2_with fail
 refine (un HS).mono ?_
 rintro _ w1 ⟨rfl,q1,k1⟩
 replace HLx:=Za (k1.lays (un HLx) hB0 (by decide))
 replace HK0:=Za ((un HK0).trans k1)
 have HC:=Za (Zui w0 _ B _ s.fibers _ q1 (un H1) (by have:=un HL;simp only [List.length_append,List.length_cons,List.length_nil];omega) HCL)
 clear q1 k1 a1 HS
 have a0:=Zd (un HLx) 0
 simp only [List.getElem?_toArray,List.getElem?_cons_zero] at a0
 go_wp2_with fail
 refine (un HC).mono ?_
 rintro _ w2 ⟨rfl,q2,k2⟩
 replace HLx:=Za (k2.lays (un HLx) hB0 (by decide))
 replace HK0:=Za ((un HK0).trans k2)
 have HC2:=Za (Zjf w0 _ B _ s.out _ q2 (un H2) (by have:=un HL;simp only [List.length_append,List.length_cons,List.length_nil];omega))
 clear q2 k2 HC a0
 have a2:=Zd (un HLx) 2
 simp only [List.getElem?_toArray,List.getElem?_cons_zero,List.getElem?_cons_succ] at a2
 go_wp2_with fail
 refine (un HC2).mono ?_
 rintro _ w3 ⟨rfl,q3,k3⟩
 have HQ:=Za q3
 replace HK0:=Za ((un HK0).trans k3)
 clear q3 k3 HC2 a2
 go_wp2_with fail
 go_end0
 refine ⟨rfl,?_,un HK0⟩
 have:=un HQ
 simpa [Xk] using this
end Go.Proofs.YtblihfpigjiahaaDoor
