/- OpG, Hide, OpH, OpB, Count, OpL0, FlowS, OpM, FlowA, FlowB, FlowC, FlowD -/
import Derived.Test.YtblihfpigjiahaaDoorWB02
import Derived.Test.YtblihfpigjiahaaDoorWB03
import Derived.Test.YtblihfpigjiahaaDoorWB04
import Derived.Test.YtblihfpigjiahaaDoorWB05
import Derived.Test.YtblihfpigjiahaaDoorWB06
import Derived.Test.YtblihfpigjiahaaDoorWB07
import Derived.Test.YtblihfpigjiahaaDoorWB01
import Derived.Deep.LoopGhost
import Derived.Test.YtblihfpigjiahaaDoorChecked
import Derived.RangeFuncNested
import Derived.RangeFuncBound
import Derived.RangeFuncCalls
import Derived.RangeFuncLeaves
import Derived.Shelf.Abstract
import Derived.Shelf.RegionOpen
import Derived.WalkKit
import Derived.OwnWalkIn
import Derived.TacticsInMore
import Derived.LoopNIn
import Derived.LoopIn
set_option maxRecDepth 100000
set_option maxHeartbeats 8000000
namespace Go.Proofs.YtblihfpigjiahaaDoor
open Go.RowKit
structure Zeg (w:World) (p:List Fn) (f:Fn) (v:Value) (Bp Bf:Nat):Prop where
 prog:Zw w v p
 cp:w.cell? ⟨Bp,0,none⟩=some v
 cl:w.cell? ⟨Bf,1,none⟩=some (.int .i64 f.locals)
 cc:∃ oa cap,w.cell? ⟨Bf,2,none⟩=some (.slice oa f.code.length cap)
theorem Zeg.kept {w w':World} {p:List Fn} {f:Fn} {v:Value} {Bp Bf:Nat} (h:Zeg w p f v Bp Bf) (k:Zb w w'):Zeg w' p f v Bp Bf :=
 ⟨h.prog.kept k,k.cell h.cp,k.cell h.cl,by obtain ⟨oa,cap,hc⟩:=h.cc;exact ⟨oa,cap,k.cell hc⟩⟩
theorem Xba (k:Nat) (h:k<17):opd k=0∨opd k=1∨opd k=2∨opd k=3∨opd k=4:=by
 have:∀ k:Fin 17,opd k=0∨opd k=1∨opd k=2∨opd k=3∨opd k=4:=by decide
 exact this ⟨k,h⟩
theorem Zcl {p:List Fn} {f:Fn} {k:Nat} {a:Int} (h:k<17) (hm:Qm p f (opd k) a=false):opS p f (k,a)=3:=by
 unfold opS
 rw [if_pos ⟨by simp,by simp;omega⟩]
 simp [hm]
theorem Zdh {p:List Fn} {f:Fn} {k:Nat} {a:Int} (h:k<17) (hm:Qm p f (opd k) a=true) (hn:k≠13):opS p f (k,a)=0:=by
 unfold opS
 rw [if_pos ⟨by simp,by simp;omega⟩]
 have:¬ ((k:Int)=13):=by omega
 simp [hm,this]
theorem Zty (p:List Fn) (f:Fn) (v:Value) (kd a:Int) (Bp Bf:Nat) (w:World) (hk:Je w) (hm:Zeg w p f v Bp Bf) :
  Calls Tryd.prog 62 #[v,.agg #[.int .i64 kd,.int .i64 a],Qy Bp Bf] w fun e w'=>e=.returned (.int .i64 (opS p f (kd,a)))∧Zb w w':=by
 by_cases h:0≤kd∧kd<17
 ·obtain ⟨k,rfl⟩:=Int.eq_ofNat_of_zero_le h.1
  have hb:k<17:=by omega
  have hc:w.cell? ⟨0,k*3+2,none⟩=some (.int .i64 (opd k)):=hk (k*3+2) (by omega)
  obtain ⟨oa,cap,hcc⟩:=hm.cc
  by_cases h13:k=13
  ·subst h13
   have H:∀ u,Zb w u→Calls Tryd.prog 80 #[.int .i64 a,.pointer (some ⟨Bp,0,none⟩)] u fun e u'=>e=.returned (.bool (Qm p f 4 a))∧Zb u u':=fun u hu=>Zkr p v a Bp u (hu.cell hm.cp) (hm.prog.kept hu)
   have ho:opd 13=4:=rfl
   rw [ho] at hc
   cases hmay:Qm p f 4 a with
   | false =>
    rw [hmay] at H
    rw [Zcl hb (by rw [ho];exact hmay)]
    exact Zjp 13 a v hb Bp Bf w hc H
   | true =>
    rw [hmay] at H
    have hx:ixB a p.length=true:=by
     have:=hmay
     simp only [Qm] at this
     rw [if_neg (by decide),if_neg (by decide),if_neg (by decide),if_neg (by decide),Bool.and_eq_true] at this
     exact this.1
    rw [Jq] at hx
    obtain ⟨i,rfl⟩:=Int.eq_ofNat_of_zero_le hx.1
    obtain ⟨oa',cap',rfl,hl,hi⟩:=hm.prog
    obtain ⟨b,o,cv,rfl,c0,_⟩:=hi i _ (Zq p i Fn.zero (by omega))
    have e:opS p f (((13:Nat):Int),(i:Int))=if (p.getD i Fn.zero).args≠1 then 1 else 0:=by
     unfold opS
     rw [if_pos ⟨by simp,by simp⟩]
     have ho':opd ((((13:Nat):Int),(i:Int)).1).toNat=4:=rfl
     rw [ho',hmay,if_pos rfl]
     simp
    rw [e]
    by_cases hr:(p.getD i Fn.zero).args=1
    ·rw [if_neg (by simpa using hr)]
     exact Xbw i b o p.length cap' _ Bp Bf w hc H (by omega) c0 (by rw [hr];rfl)
    ·rw [if_pos hr]
     exact Xbl i b o p.length cap' _ Bp Bf w hc H (by omega) c0 (by rw [bne_iff_ne];exact hr)
  ·have hn:((k:Int) == 13)=false:=beq_eq_false_iff_ne.2 (by omega)
   rcases Xba k hb with ho | ho | ho | ho | ho
   ·rw [ho] at hc
    have H:∀ u,Zb w u→Calls Tryd.prog 76 #[.int .i64 a] u fun e u'=>e=.returned (.bool (Qm p f 0 a))∧Zb u u':=fun u _=>(Xaz a u).mono fun e u' ⟨h1,h2⟩=>⟨by rw [h1];simp only [Qm];rw [if_pos trivial];rfl,h2 ▸ Zb.refl _⟩
    cases hmay:Qm p f 0 a with
    | false=>rw [hmay] at H;rw [Zcl hb (by rw [ho];exact hmay)];exact Xaq k a v hb Bp Bf w hc H
    | true=>rw [hmay] at H;rw [Zdh hb (by rw [ho];exact hmay) h13];exact Zuu k a v hb hn Bp Bf w hc H
   ·rw [ho] at hc
    have H:∀ u,Zb w u→Calls Tryd.prog 77 #[.int .i64 a] u fun e u'=>e=.returned (.bool (Qm p f 1 a))∧Zb u u':=fun u _=>(Xbr a u).mono fun e u' ⟨h1,h2⟩=>⟨h1,h2 ▸ Zb.refl _⟩
    cases hmay:Qm p f 1 a with
    | false=>rw [hmay] at H;rw [Zcl hb (by rw [ho];exact hmay)];exact Zwo k a v hb Bp Bf w hc H
    | true=>rw [hmay] at H;rw [Zdh hb (by rw [ho];exact hmay) h13];exact Zsk k a v hb hn Bp Bf w hc H
   ·rw [ho] at hc
    have H:∀ u,Zb w u→Calls Tryd.prog 78 #[.int .i64 a,.pointer (some ⟨Bf,0,none⟩)] u fun e u'=>e=.returned (.bool (Qm p f 2 a))∧Zb u u':=fun u hu=>(Zox a f.locals Bf u (hu.cell hm.cl)).mono fun e u' ⟨h1,h2⟩=>⟨h1,h2 ▸ Zb.refl _⟩
    cases hmay:Qm p f 2 a with
    | false=>rw [hmay] at H;rw [Zcl hb (by rw [ho];exact hmay)];exact Xax k a v hb Bp Bf w hc H
    | true=>rw [hmay] at H;rw [Zdh hb (by rw [ho];exact hmay) h13];exact Zrl k a v hb hn Bp Bf w hc H
   ·rw [ho] at hc
    have H:∀ u,Zb w u→Calls Tryd.prog 79 #[.int .i64 a,.pointer (some ⟨Bf,0,none⟩)] u fun e u'=>e=.returned (.bool (Qm p f 3 a))∧Zb u u':=fun u hu=>(Zzz a Bf oa f.code.length cap u (hu.cell hcc)).mono fun e u' ⟨h1,h2⟩=>⟨h1,h2 ▸ Zb.refl _⟩
    cases hmay:Qm p f 3 a with
    | false=>rw [hmay] at H;rw [Zcl hb (by rw [ho];exact hmay)];exact Xbp k a v hb Bp Bf w hc H
    | true=>rw [hmay] at H;rw [Zdh hb (by rw [ho];exact hmay) h13];exact Zwc k a v hb hn Bp Bf w hc H
   ·rw [ho] at hc
    have H:∀ u,Zb w u→Calls Tryd.prog 80 #[.int .i64 a,.pointer (some ⟨Bp,0,none⟩)] u fun e u'=>e=.returned (.bool (Qm p f 4 a))∧Zb u u':=fun u hu=>Zkr p v a Bp u (hu.cell hm.cp) (hm.prog.kept hu)
    cases hmay:Qm p f 4 a with
    | false=>rw [hmay] at H;rw [Zcl hb (by rw [ho];exact hmay)];exact Zjp k a v hb Bp Bf w hc H
    | true=>rw [hmay] at H;rw [Zdh hb (by rw [ho];exact hmay) h13];exact Zql k a v hb hn Bp Bf w hc H
 ·have e:opS p f (kd,a)=4:=by unfold opS;rw [if_neg h]
  rw [e]
  exact Zov kd a v Bp Bf w (Wy h)
theorem Zzj (f:Int) (oa:Option Addr) (n cap:Nat) (w:World) (h:ixB f n=false) :
  Calls Tryd.prog 39 #[.slice oa n cap,.int .i64 f] w fun e w'=>e=.returned (.int .i64 5)∧Zb w w':=by
 go_enter Tryd.func39,Tryd.ntmps39
 go_wp2_with (go_at_call 59;refine (Jn _ _ _).mono ?_;rintro e w' ⟨rfl,rfl⟩)
 go_ret
 exact ⟨rfl,Zb.refl _⟩
theorem Zvs (i b o n cap:Nat) (oc:Option Addr) (m cc:Nat) (w:World) (hi:i<n) (c2:w.cell? ⟨b,o+i*3+2,none⟩=some (.slice oc m cc)) (hm:24<(m:Int)) :
  Calls Tryd.prog 39 #[.slice (some ⟨b,o,none⟩) n cap,.int .i64 i] w fun e w'=>e=.returned (.int .i64 2)∧Zb w w':=by
 have h:ixB i n=true:=Jr (by omega) (by omega)
 go_enter Tryd.func39,Tryd.ntmps39
 go_wp2_with (go_at_call 59;refine (Jn _ _ _).mono ?_;rintro e w' ⟨rfl,rfl⟩)
 go_ret
 exact ⟨rfl,Zb.refl _⟩
theorem Zxk (i b o n cap:Nat) (ar lo:Int) (oc:Option Addr) (m cc:Nat) (w:World) (hi:i<n) (c0:w.cell? ⟨b,o+i*3,none⟩=some (.int .i64 ar)) (c1:w.cell? ⟨b,o+i*3+1,none⟩=some (.int .i64 lo))
  (c2:w.cell? ⟨b,o+i*3+2,none⟩=some (.slice oc m cc)) (hm:¬ 24<(m:Int)) (hr:Qn ar lo=false) :
  Calls Tryd.prog 39 #[.slice (some ⟨b,o,none⟩) n cap,.int .i64 i] w fun e w'=>e=.returned (.int .i64 3)∧Zb w w':=by
 have h:ixB i n=true:=Jr (by omega) (by omega)
 go_enter Tryd.func39,Tryd.ntmps39
 go_wp2_with (first | (go_at_call 59;refine (Jn _ _ _).mono ?_;rintro e w' ⟨rfl,rfl⟩) | (go_at_call 60;refine (Ziq _ _ _ _).mono ?_;rintro e w' ⟨rfl,rfl⟩))
 go_ret
 exact ⟨rfl,(Zb.refl _).alloc _⟩
theorem Zmk {p:List Fn} {f:Fn} {c:List (Int × Int)} {k:Nat} {x:Int × Int} (h:c[k]?=some x):Wn p f (c.drop k)=if opS p f x=0 then Wn p f (c.drop (k+1)) else opS p f x:=by
 have hk:k<c.length:=(List.getElem?_eq_some_iff.1 h).1
 have hx:c[k]=x:=(List.getElem?_eq_some_iff.1 h).2
 rw [List.drop_eq_getElem_cons hk,hx]
 rfl
theorem Zwi (p:List Fn) (f:Fn) (i b o cap:Nat) (oc:Option Addr) (m cc:Nat) (w:World) (hk:Je w) (hp:Zw w (.slice (some ⟨b,o,none⟩) p.length cap) p) (hi:i<p.length)
  (c0:w.cell? ⟨b,o+i*3,none⟩=some (.int .i64 f.args)) (c1:w.cell? ⟨b,o+i*3+1,none⟩=some (.int .i64 f.locals))
  (c2:w.cell? ⟨b,o+i*3+2,none⟩=some (.slice oc m cc)) (hc:Wf w (.slice oc m cc) f.code) (hml:m=f.code.length) (hm:m≤24) (hr:Qn f.args f.locals=true) :
  Calls Tryd.prog 39 #[.slice (some ⟨b,o,none⟩) p.length cap,.int .i64 i] w fun e w'=>e=.returned (.int .i64 (Wn p f f.code))∧Zb w w':=by
 have h:ixB i p.length=true:=Jr (by omega) (by omega)
 have hm':¬ 24<(m:Int):=by omega
 have HP:Hid (Zw w (.slice (some ⟨b,o,none⟩) p.length cap) p):=hp
 have HK:Hid (Je w):=hk
 have HC:Hid (Wf w (.slice oc m cc) f.code):=hc
 have HL:Hid (m=f.code.length):=hml
 clear hp hk hc hml
 have d0:(w.alloc (.cells #[.int .i64 f.args,.int .i64 f.locals,.slice oc m cc] 58)).cell? ⟨b,o+i*3,none⟩=some (.int .i64 f.args):=((Zb.refl w).alloc _).cell c0
 have d1:(w.alloc (.cells #[.int .i64 f.args,.int .i64 f.locals,.slice oc m cc] 58)).cell? ⟨b,o+i*3+1,none⟩=some (.int .i64 f.locals):=((Zb.refl w).alloc _).cell c1
 have d2:(w.alloc (.cells #[.int .i64 f.args,.int .i64 f.locals,.slice oc m cc] 58)).cell? ⟨b,o+i*3+2,none⟩=some (.slice oc m cc):=((Zb.refl w).alloc _).cell c2
 go_enter Tryd.func39,Tryd.ntmps39
 go_wp2_with (first | (go_at_call 59;refine (Jn _ _ _).mono ?_;rintro e w' ⟨rfl,rfl⟩) | (go_at_call 60;refine (Ziq _ _ _ _).mono ?_;rintro e w' ⟨rfl,rfl⟩))
 refine (Zpd _ _ _ _ _ _ _ _ _).mono ?_
 rintro e w1 ⟨Bp,Bf,he,hbp,hbl,hbc,hbk⟩
 unfold Qy at he
 subst he
 have g2:∀ o1,(w1.alloc o1).cell? ⟨b,o+i*3+2,none⟩=some (.slice oc m cc):=fun o1=>((Zb.refl w1).alloc _).cell (hbk.cell d2)
 have HB:Hid (Zb w w1):=Zb.trans ((Zb.refl w).alloc _) hbk
 have HM:Hid (Zeg w1 p f (.slice (some ⟨b,o,none⟩) p.length cap) Bp Bf):=⟨HP.out.kept HB.out,hbp,hbl,⟨oc,cc,by rw [← HL.out];exact hbc⟩⟩
 clear d0 d1 d2 hbp hbl hbc hbk c0 c1 c2
 go_wp2
 generalize hW0:w1.alloc (.cells #[.func (.func 76) #[] #[],.func (.func 77) #[] #[],.func (.func 78) #[] #[.pointer (some ⟨Bf,0,none⟩)],.func (.func 79) #[] #[.pointer (some ⟨Bf,0,none⟩)],.func (.func 80) #[] #[.pointer (some ⟨Bp,0,none⟩)]] 104)=W0
 have HW:Hid (∀ u,Zb W0 u→∀ j v,(#[Value.func (.func 76) #[] #[],.func (.func 77) #[] #[],.func (.func 78) #[] #[.pointer (some ⟨Bf,0,none⟩)],.func (.func 79) #[] #[.pointer (some ⟨Bf,0,none⟩)],.func (.func 80) #[] #[.pointer (some ⟨Bp,0,none⟩)]])[j]?=some v→u.cell? ⟨w1.heap.size,j,none⟩=some v):=by
  intro u hu j v hv
  refine hu.cell ?_
  rw [← hW0]
  exact (Zd (Zg rfl) j).trans hv
 have H0:Hid (Zb w1 W0):=by rw [← hW0];exact (Zb.refl _).alloc _
 clear hW0 g2
 go_loopw [39] (fun i wr=>∃ k:Nat,k≤m∧i=.int .i64 k∧Hid (Wn p f (f.code.drop k)=Wn p f f.code)∧Hid (Zb W0 wr)) (fun i _=>m - (intOf i).toNat)
 case atStart=>exact ⟨0,Nat.zero_le _,rfl,rfl,Zb.refl _⟩
 case round =>
  obtain ⟨k,hkm,rfl,HO,HKW⟩:=hrel
  by_cases hlt:k<m
  ·obtain ⟨x,hx⟩:∃ x,f.code[k]?=some x:=⟨f.code[k]'(by rw [← HL.out];exact hlt),List.getElem?_eq_getElem _⟩
   have hKr:Zb w wr:=HB.out.trans (H0.out.trans HKW.out)
   obtain ⟨oa',cap',he,_,hcell⟩:=HC.out.kept hKr
   obtain ⟨b',o',rfl,x0,x1⟩:=hcell k x hx
   obtain ⟨rfl,-,-⟩:=(by simpa using he:oc=some ⟨b',o',none⟩∧m=f.code.length∧cc=cap')
   have HX:Hid (f.code[k]?=some x):=hx
   have HKr:Hid (Zb w wr):=hKr
   have e0:=HW.out _ (HKW.out.alloc (.cells #[.int .i64 x.1,.int .i64 x.2] 86)) 0 _ rfl
   have e1:=HW.out _ (HKW.out.alloc (.cells #[.int .i64 x.1,.int .i64 x.2] 86)) 1 _ rfl
   have e2:=HW.out _ (HKW.out.alloc (.cells #[.int .i64 x.1,.int .i64 x.2] 86)) 2 _ rfl
   have e3:=HW.out _ (HKW.out.alloc (.cells #[.int .i64 x.1,.int .i64 x.2] 86)) 3 _ rfl
   have e4:=HW.out _ (HKW.out.alloc (.cells #[.int .i64 x.1,.int .i64 x.2] 86)) 4 _ rfl
   clear hcell he hx hKr
   have hck:=Zty p f (.slice (some ⟨b,o,none⟩) p.length cap) x.1 x.2 Bp Bf (wr.alloc (.cells #[.int .i64 x.1,.int .i64 x.2] 86)) (HK.out.kept (HKr.out.alloc _)) (HM.out.kept ((H0.out.trans HKW.out).alloc _))
   unfold Qy at hck
   have HCK:=Za hck
   clear hck
   have hst:=Zmk (p:=p) (f:=f) HX.out
   go_wp2_with fail
   refine (un HCK).mono ?_
   clear HCK
   rintro e w2 ⟨he,hk2⟩
   by_cases hz:opS p f x=0
   ·rw [if_pos hz] at hst
    rw [show opS p f (x.1,x.2)=0 from hz] at he
    subst he
    have HST:=Za hst
    have HK2:Hid (Zb W0 w2):=Zb.trans (HKW.out.alloc _) hk2
    clear hst hz hk2
    go_wp2
    go_roundw
    case rel=>exact ⟨k+1,by omega,by go_num,(un HST).symm.trans HO.out,HK2⟩
    case measure=>simp [intOf];omega
   ·rw [if_neg hz] at hst
    have hz':(opS p f (x.1,x.2) != 0)=true:=by rw [bne_iff_ne];exact hz
    have HST:=Za hst
    have HK2:Hid (Zb w w2):=Zb.trans (HKr.out.alloc _) hk2
    clear hst hz hk2
    subst he
    go_wp2
    go_ret
    exact ⟨by rw [← HO.out,un HST];rfl,HK2⟩
  ·have hke:k=f.code.length:=by have:=HL.out;omega
   have HE:=Za hke
   clear hke
   go_wp2
   go_ret
   refine ⟨?_,HB.out.trans (H0.out.trans HKW.out)⟩
   rw [← HO.out,un HE,List.drop_length]
   rfl
theorem Zid (p:List Fn) (v:Value) (f:Int) (w:World) (hp:Zw w v p) (hk:Je w) :
  Calls Tryd.prog 39 #[v,.int .i64 f] w fun e w'=>e=.returned (.int .i64 (Xv p f))∧Zb w w':=by
 have hp0:=hp
 obtain ⟨oa,cap,rfl,hl,hi⟩:=hp
 unfold Xv
 by_cases h:0≤f∧f<p.length
 ·rw [if_pos h]
  obtain ⟨i,rfl⟩:=Int.eq_ofNat_of_zero_le h.1
  obtain ⟨b,o,cv,rfl,c0,c1,c2,hc⟩:=hi i _ (Zq p i Fn.zero (by omega))
  have hc0:=hc
  obtain ⟨oc,cc,rfl,_,_⟩:=hc
  rw [Int.toNat_natCast]
  generalize p.getD i Fn.zero=g at *
  by_cases hm:24<g.code.length
  ·simp only [if_pos hm]
   exact Zvs i b o p.length cap oc _ cc w (by omega) c2 (by omega)
  ·simp only [if_neg hm]
   cases hr:Qn g.args g.locals with
   | false =>
    rw [if_neg (by decide)]
    exact Zxk i b o p.length cap _ _ oc _ cc w (by omega) c0 c1 c2 (by omega) hr
   | true =>
    rw [if_pos rfl]
    exact Zwi p g i b o cap oc _ cc w hk hp0 (by omega) c0 c1 c2 hc0 rfl (by omega) hr
 ·rw [if_neg h]
  exact Zzj f oa p.length cap w (Wy h)
theorem Xat (kd a:Int) (v:Value) (w:World) (h:ixB kd 17=false) :
  Calls Tryd.prog 87 #[v,.agg #[.int .i64 kd,.int .i64 a]] w fun e w'=>e=.returned (.tuple #[.int .i64 0,.int .i64 0,.int .i64 4])∧Zb w w':=by
 go_enter Tryd.func87,Tryd.ntmps87
 go_wp2_with (go_at_call 59;refine (Jn _ _ _).mono ?_;rintro e w' ⟨rfl,rfl⟩)
 go_ret3
 exact ⟨rfl,(Zb.refl _).alloc _⟩
theorem Zua (k:Nat) (a:Int) (v:Value) (w:World) (hk:Je w) (h:ixB k 17=true) (hn:((k:Int) != 11)=true) :
  Calls Tryd.prog 87 #[v,.agg #[.int .i64 k,.int .i64 a]] w fun e w'=>e=.returned (.tuple #[.int .i64 (tk k),.int .i64 (lv k),.int .i64 0])∧Zb w w':=by
 have hb:k<17:=by rw [Jq] at h;omega
 have c0:(w.alloc (.cells #[.int .i64 k,.int .i64 a] 86)).cell? ⟨0,k*3,none⟩=some (.int .i64 (tk k)):=(Zb.alloc (Zb.refl w) _).cell (hk (k*3) (by omega))
 have c1:(w.alloc (.cells #[.int .i64 k,.int .i64 a] 86)).cell? ⟨0,k*3+1,none⟩=some (.int .i64 (lv k)):=(Zb.alloc (Zb.refl w) _).cell (hk (k*3+1) (by omega))
 have c2:(w.alloc (.cells #[.int .i64 k,.int .i64 a] 86)).cell? ⟨0,k*3+2,none⟩=some (.int .i64 (opd k)):=(Zb.alloc (Zb.refl w) _).cell (hk (k*3+2) (by omega))
 clear hk
 go_enter Tryd.func87,Tryd.ntmps87
 go_wp2_with (go_at_call 59;refine (Jn _ _ _).mono ?_;rintro e w' ⟨rfl,rfl⟩)
 go_quiet (fail)
 go_wp2
 go_ret3
 exact ⟨rfl,(((Zb.refl _).alloc _).alloc _).drewN _⟩
theorem Zor (a:Int) (oa:Option Addr) (n cap:Nat) (w:World) (hk:Je w) (ha:ixB a n=false) :
  Calls Tryd.prog 87 #[.slice oa n cap,.agg #[.int .i64 11,.int .i64 a]] w fun e w'=>e=.returned (.tuple #[.int .i64 0,.int .i64 0,.int .i64 5])∧Zb w w':=by
 have h:ixB 11 17=true:=rfl
 have c0:(w.alloc (.cells #[.int .i64 11,.int .i64 a] 86)).cell? ⟨0,33,none⟩=some (.int .i64 (tk 11)):=(Zb.alloc (Zb.refl w) _).cell (hk 33 (by omega))
 have c1:(w.alloc (.cells #[.int .i64 11,.int .i64 a] 86)).cell? ⟨0,34,none⟩=some (.int .i64 (lv 11)):=(Zb.alloc (Zb.refl w) _).cell (hk 34 (by omega))
 have c2:(w.alloc (.cells #[.int .i64 11,.int .i64 a] 86)).cell? ⟨0,35,none⟩=some (.int .i64 (opd 11)):=(Zb.alloc (Zb.refl w) _).cell (hk 35 (by omega))
 clear hk
 go_enter Tryd.func87,Tryd.ntmps87
 go_wp2_with (go_at_call 59;refine (Jn _ _ _).mono ?_;rintro e w' ⟨rfl,rfl⟩)
 go_ret3
 exact ⟨rfl,(((Zb.refl _).alloc _).alloc _)⟩
theorem Zvz (i b o n cap:Nat) (r:Int) (w:World) (hk:Je w) (hi:i<n) (hc:w.cell? ⟨b,o+i*3,none⟩=some (.int .i64 r)) :
  Calls Tryd.prog 87 #[.slice (some ⟨b,o,none⟩) n cap,.agg #[.int .i64 11,.int .i64 i]] w fun e w'=>e=.returned (.tuple #[.int .i64 r,.int .i64 1,.int .i64 0])∧Zb w w':=by
 have h:ixB 11 17=true:=rfl
 have ha:ixB i n=true:=Jr (by omega) (by omega)
 have c0:(w.alloc (.cells #[.int .i64 11,.int .i64 i] 86)).cell? ⟨0,33,none⟩=some (.int .i64 0):=(Zb.alloc (Zb.refl w) _).cell (hk 33 (by omega))
 have c1:(w.alloc (.cells #[.int .i64 11,.int .i64 i] 86)).cell? ⟨0,34,none⟩=some (.int .i64 1):=(Zb.alloc (Zb.refl w) _).cell (hk 34 (by omega))
 have c2:(w.alloc (.cells #[.int .i64 11,.int .i64 i] 86)).cell? ⟨0,35,none⟩=some (.int .i64 4):=(Zb.alloc (Zb.refl w) _).cell (hk 35 (by omega))
 have c3:((w.alloc (.cells #[.int .i64 11,.int .i64 i] 86)).alloc (.cells #[.int .i64 0,.int .i64 1,.int .i64 4] 118)).cell? ⟨b,o+i*3,none⟩=some (.int .i64 r):=(((Zb.refl w).alloc _).alloc _).cell hc
 clear hk hc
 go_enter Tryd.func87,Tryd.ntmps87
 go_wp2_with (go_at_call 59;refine (Jn _ _ _).mono ?_;rintro e w' ⟨rfl,rfl⟩)
 go_quiet (fail)
 go_wp2
 go_ret3
 exact ⟨rfl,(((Zb.refl _).alloc _).alloc _).drewN _⟩
theorem Zto (p:List Fn) (v:Value) (kd a:Int) (w:World) (hp:Zw w v p) (hk:Je w) :
  Calls Tryd.prog 87 #[v,.agg #[.int .i64 kd,.int .i64 a]] w fun e w'=>e=.returned (.tuple #[.int .i64 (Qr p kd a).1,.int .i64 (Qr p kd a).2.1,.int .i64 (Qr p kd a).2.2])∧Zb w w':=by
 unfold Qr
 by_cases h:0≤kd∧kd<17
 ·rw [if_pos h]
  by_cases h11:kd=11
  ·rw [if_pos h11]
   subst h11
   obtain ⟨oa,cap,rfl,hl,hi⟩:=hp
   by_cases ha:0≤a∧a<p.length
   ·rw [if_pos ha]
    obtain ⟨i,rfl⟩:=Int.eq_ofNat_of_zero_le ha.1
    obtain ⟨b,o,cv,rfl,c0,_⟩:=hi i _ (Zq p i Fn.zero (by omega))
    rw [Int.toNat_natCast]
    exact Zvz i b o p.length cap _ w hk (by omega) c0
   ·rw [if_neg ha]
    exact Zor a oa p.length cap w hk (Wy ha)
  ·rw [if_neg h11]
   obtain ⟨k,rfl⟩:=Int.eq_ofNat_of_zero_le h.1
   rw [Int.toNat_natCast]
   exact Zua k a v w hk (Jr h.1 h.2) (by rw [bne_iff_ne];exact h11)
 ·rw [if_neg h]
  exact Xat kd a v w (Wy h)
theorem o_any (k a:Int) (w:World) :
  Calls Tryd.prog 48 #[.int .i64 k,.int .i64 a] w fun e w'=>e=.returned (.agg #[.int .i64 k,.int .i64 a])∧w'=w.alloc (.cells #[.int .i64 k,.int .i64 a] 86):=by
 go_enter Tryd.func48,Tryd.ntmps48
 go_wp2
 exact bodyPost_ret (v:=.agg #[.int .i64 k,.int .i64 a]) (by simp [results,Tryd.results48,go_sem]) rfl ⟨rfl,rfl⟩
theorem Zwx (w:World) :
  Calls Tryd.prog 26 #[] w fun e w'=>∃ v,e=.returned v∧Zcv w.heap.size w' v∧Zb w w':=by
 go_enter Tryd.func26,Tryd.ntmps26
 go_wp2_with (go_at_call 48;refine (o_any _ _ _).mono ?_;rintro e w' ⟨rfl,rfl⟩)
 go_ret
 refine ⟨_,rfl,⟨w.heap.size+14,w.heap.size+27,w.heap.size+32,w.heap.size+33,by omega,by omega,by omega,by omega,rfl,?_,?_,?_,?_⟩,?_⟩
 ·repeat (first | exact Zg (by simp) | refine Zr ?_ _)
 ·repeat (first | exact Zg (by simp) | refine Zr ?_ _)
 ·repeat (first | exact Zg (by simp) | refine Zr ?_ _)
 ·repeat (first | exact Zg (by simp) | refine Zr ?_ _)
 ·repeat (refine Zb.alloc ?_ _)
  exact Zb.refl _
theorem Zxo (p:List Fn) (v:Value) (kd a r1 r2 r3:Int) (w:World) (hp:Zw w v p) (hk:Je w) (h:Qr p kd a=(r1,r2,r3)) :
  Calls Tryd.prog 87 #[v,.agg #[.int .i64 kd,.int .i64 a]] w fun e w'=>e=.returned (.tuple #[.int .i64 r1,.int .i64 r2,.int .i64 r3])∧Zb w w':=by
 have:=Zto p v kd a w hp hk
 rw [h] at this
 exact this
theorem Zpt (p:List Fn) (v:Value) (f r:Int) (w:World) (hp:Zw w v p) (hk:Je w) (h:Xv p f=r) :
  Calls Tryd.prog 39 #[v,.int .i64 f] w fun e w'=>e=.returned (.int .i64 r)∧Zb w w':=by
 have:=Zid p v f w hp hk
 rw [h] at this
 exact this
theorem Zcv.kept {n0:Nat} {w w':World} {v:Value} (h:Zcv n0 w v) (k:Zb w w'):Zcv n0 w' v:=by
 obtain ⟨b0,b1,b2,b,h1,h2,h3,h4,rfl,g0,g1,g2,g3⟩:=h
 exact ⟨b0,b1,b2,b,h1,h2,h3,h4,rfl,Zm k g0,Zm k g1,Zm k g2,Zm k g3⟩
def beh (p:List Fn) (x:Int × Int) (h:Int):Option Int :=
 if (Qr p x.1 x.2).2.2=0∧(Qr p x.1 x.2).1≤h∧¬ (x.1=12∧1<h)∧h - (Qr p x.1 x.2).1+(Qr p x.1 x.2).2.1≤8 then some (h - (Qr p x.1 x.2).1+(Qr p x.1 x.2).2.1) else none
def nexts (x:Int × Int) (k:Nat):List Nat :=
 if x.1=12 then [] else if x.1=9 then [x.2.toNat] else if x.1=10 then [x.2.toNat,k+1] else [k+1]
def Yz (f:List Int→Nat→Int→Bool × List Int):List Nat→List Int→Int→Bool × List Int
 | [],H,_=>(true,H)
 | j :: r,H,m=>match f H j m with
  | (true,H')=>Yz f r H' m
  | (false,H')=>(false,H')
def Ym (p:List Fn) (c:List (Int × Int)):Nat→List Int→Nat→Int→Bool × List Int
 | 0,H,_,_=>(false,H)
 | n+1,H,at_,h =>
  if c.length≤at_ then (false,H)
  else if H.getD at_ 0=-1 then
   match beh p (c.getD at_ (0,0)) h with
   | none=>(false,H.set at_ h)
   | some m=>Yz (Ym p c n) (nexts (c.getD at_ (0,0)) at_) (H.set at_ h) m
  else (decide (H.getD at_ 0=h),H)
theorem Znp (f:List Int→Nat→Int→Bool × List Int):∀ (l:List Nat) (j:Nat) (H:List Int) (m:Int),Yz f (l++[j]) H m=match Yz f l H m with
  | (true,H')=>f H' j m
  | (false,H')=>(false,H')
 | [],j,H,m=>by
  simp only [List.nil_append,Yz]
  cases f H j m with
  | mk b H'=>cases b <;> rfl
 | i :: l,j,H,m=>by
  simp only [List.cons_append,Yz]
  cases f H i m with
  | mk b H'=>cases b with
   | false=>rfl
   | true=>exact Znp f l j H' m
theorem Xab (f:List Int→Nat→Int→Bool × List Int) (l:List Nat) (H H':List Int) (m:Int) (h:Yz f l H m=(false,H')):∀ r,Yz f (l++r) H m=(false,H'):=by
 induction l generalizing H with
 | nil=>simp [Yz] at h
 | cons i l ih =>
  intro r
  simp only [List.cons_append,Yz] at h ⊢
  cases hf:f H i m with
  | mk b H2 =>
   rw [hf] at h
   cases b with
   | false=>exact h
   | true=>exact ih H2 h r
def unv (H:List Int):Nat:=(H.filter (fun z=>decide (z=-1))).length
theorem Zhv:∀ (H:List Int) (k:Nat) (z:Int),H.getD k 0=-1→z≠-1→unv (H.set k z)+1=unv H
 | [],k,z,h,_=>by simp at h
 | y :: H,0,z,h,hz=>by
  simp at h
  subst h
  simp [unv,hz]
 | y :: H,k+1,z,h,hz=>by
  have ih:=Zhv H k z (by simpa using h) hz
  simp only [unv,List.set_cons_succ,List.filter_cons] at ih ⊢
  split
  ·simp only [List.length_cons];omega
  ·exact ih
theorem Zcn {p:List Fn} {g:Fn}:∀ {c:List (Int × Int)},Wn p g c=0→∀ x,x∈c→opS p g x=0
 | [],_,x,hx=>by cases hx
 | y :: c,h,x,hx=>by
  unfold Wn at h
  by_cases hy:opS p g y=0
  ·rw [if_pos hy] at h
   rcases List.mem_cons.1 hx with rfl | hx
   ·exact hy
   ·exact Zcn h x hx
  ·rw [if_neg hy] at h
   exact absurd h hy
theorem Wc {p:List Fn} {g:Fn} {x:Int × Int} (h:opS p g x=0):0≤x.1∧x.1<17∧Qm p g (opd x.1.toNat) x.2=true:=by
 unfold opS at h
 by_cases hk:0≤x.1∧x.1<17
 ·rw [if_pos hk] at h
  by_cases hm:Qm p g (opd x.1.toNat) x.2=true
  ·exact ⟨hk.1,hk.2,hm⟩
  ·rw [if_neg hm] at h;omega
 ·rw [if_neg hk] at h;omega
theorem Zgg {p:List Fn} {g:Fn} {a:Int} (h:Qm p g 4 a=true):0≤a∧a<p.length∧Qn (p.getD a.toNat Fn.zero).args (p.getD a.toNat Fn.zero).locals=true:=by
 simp only [Qm] at h
 rw [if_neg (by decide),if_neg (by decide),if_neg (by decide),if_neg (by decide),Bool.and_eq_true,Jq] at h
 exact ⟨h.1.1,h.1.2,h.2⟩
theorem tk_lv (k:Nat) (h:k<17):0≤tk k∧tk k≤2∧0≤lv k∧lv k≤1:=by
 have:∀ k:Fin 17,0≤tk k∧tk k≤2∧0≤lv k∧lv k≤1:=by decide
 exact this ⟨k,h⟩
theorem Zba {p:List Fn} {g:Fn} {x:Int × Int} (h:opS p g x=0) (hk:x.1=11):0≤x.2∧x.2<p.length∧0≤(p.getD x.2.toNat Fn.zero).args∧Qr p x.1 x.2=((p.getD x.2.toNat Fn.zero).args,1,0):=by
 obtain ⟨_,_,hm⟩:=Wc h
 rw [hk] at hm
 obtain ⟨h1,h2,h3⟩:=Zgg (show Qm p g 4 x.2=true from hm)
 rw [Ws] at h3
 refine ⟨h1,h2,h3.1,?_⟩
 unfold Qr
 rw [if_pos ⟨by omega,by omega⟩,if_pos hk,if_pos ⟨h1,h2⟩]
theorem Zfm {p:List Fn} {g:Fn} {x:Int × Int} (h:opS p g x=0) (hk:x.1≠11):∃ ta lb,Qr p x.1 x.2=(ta,lb,0)∧0≤ta∧ta≤2∧0≤lb∧lb≤1:=by
 obtain ⟨h1,h2,_⟩:=Wc h
 obtain ⟨a,b,c,d⟩:=tk_lv x.1.toNat (by omega)
 refine ⟨_,_,?_,a,b,c,d⟩
 unfold Qr
 rw [if_pos ⟨h1,h2⟩,if_neg hk]
theorem Zcz {p:List Fn} {f:Int} (h:Xv p f=0):∃ i:Nat,f=i∧i<p.length∧(p.getD i Fn.zero).code.length≤24∧Qn (p.getD i Fn.zero).args (p.getD i Fn.zero).locals=true∧Wn p (p.getD i Fn.zero) (p.getD i Fn.zero).code=0:=by
 unfold Xv at h
 by_cases hf:0≤f∧f<p.length
 ·rw [if_pos hf] at h
  obtain ⟨i,rfl⟩:=Int.eq_ofNat_of_zero_le hf.1
  rw [Int.toNat_natCast] at h
  refine ⟨i,rfl,by omega,?_⟩
  generalize p.getD i Fn.zero=g at *
  by_cases hm:24<g.code.length
  ·simp only [if_pos hm] at h;omega
  ·simp only [if_neg hm] at h
   cases hr:Qn g.args g.locals with
   | false=>rw [hr,if_neg (by decide)] at h;omega
   | true=>rw [hr,if_pos rfl] at h;exact ⟨by omega,rfl,h⟩
 ·rw [if_neg hf] at h;omega
def Zlu (p:List Fn) (x:Int × Int) (h:Int) (w:World) (e:Ending) (w':World):Prop :=
 ∃ r,e=.returned (.tuple #[.int .i64 r,.bool (beh p x h).isSome])∧(∀ m,beh p x h=some m→r=m)∧Zb w w'
theorem Zpg (p:List Fn) (g:Fn) (vp:Value) (oc oh:Option Addr) (lc cc lh ch:Nat) (x:Int × Int) (h:Int) (w:World) (hp:Zw w vp p) (hk:Je w) (hx:opS p g x=0) (h0:0≤h) (h8:h≤8) :
  Calls Tryd.prog 81 #[.agg #[vp,.slice oc lc cc,.slice oh lh ch],.agg #[.int .i64 x.1,.int .i64 x.2],.int .i64 h] w fun e w'=>Zlu p x h w e w':=by
 obtain ⟨oa,cap,rfl,_,_⟩:=id hp
 have hef:∃ ta lb,Qr p x.1 x.2=(ta,lb,0)∧0≤ta∧ta≤4∧0≤lb∧lb≤1:=by
  by_cases h11:x.1=11
  ·obtain ⟨_,_,h3,h4⟩:=Zba hx h11
   refine ⟨_,_,h4,h3,?_,by decide,by decide⟩
   obtain ⟨_,_,hm⟩:=Wc hx
   rw [h11] at hm
   have:=(Zgg (show Qm p g 4 x.2=true from hm)).2.2
   rw [Ws] at this
   omega
  ·obtain ⟨ta,lb,h1,h2,h3,h4,h5⟩:=Zfm hx h11
   exact ⟨ta,lb,h1,h2,by omega,h4,h5⟩
 obtain ⟨ta,lb,he,t0,t4,l0,l1⟩:=hef
 have hb:beh p x h=if ta≤h∧¬ (x.1=12∧1<h)∧h - ta+lb≤8 then some (h - ta+lb) else none:=by
  unfold beh;rw [he];simp
 have HB:=Za hb
 have HE:=Za he
 have HP:=Za hp
 have HK:=Za hk
 clear he hp hk hb hx
 go_enter Tryd.func81,Tryd.ntmps81
 go_wp2_with fail
 refine (Zxo p _ x.1 x.2 ta lb 0 _ ((un HP).kept (((Zb.refl _).alloc _).alloc _)) ((un HK).kept (((Zb.refl _).alloc _).alloc _)) (un HE)).mono ?_
 rintro e w1 ⟨rfl,hk1⟩
 have q0:=hk1.cell (Zd (t:=86) (fr:=(0,0)) (b:=w.heap.size+1) (c:=#[.int .i64 x.1,.int .i64 x.2]) (Zg (by simp)) 0)
 have H1:Hid (Zb w w1):=(((Zb.refl _).alloc _).alloc _).trans hk1
 clear hk1
 by_cases c1:h<ta
 ·go_wp2
  go_ret2
  have hb:=un HB
  rw [if_neg (by omega)] at hb
  exact ⟨0,by rw [hb];rfl,(fun m hm=>by rw [hb] at hm;cases hm),H1⟩
 ·by_cases c2:x.1=12
  ·have c2':(x.1 == 12)=true:=beq_iff_eq.2 c2
   have C2:=Za c2
   clear c2
   by_cases c3:1<h
   ·go_wp2
    go_ret2
    have c2:=un C2
    have hb:=un HB
    rw [if_neg (by omega)] at hb
    exact ⟨0,by rw [hb];rfl,(fun m hm=>by rw [hb] at hm;cases hm),H1⟩
   ·go_wp2
    go_ret2
    have hb:=un HB
    refine ⟨h - ta+lb,?_,fun m hm=>?_,H1⟩
    ·by_cases c4:h - ta+lb≤8
     ·rw [hb,if_pos (by omega)];simp [c4]
     ·rw [hb,if_neg (by omega)];simp [c4]
    ·rw [hb] at hm
     split at hm
     ·simpa using hm
     ·cases hm
  ·have c2':(x.1 == 12)=false:=beq_eq_false_iff_ne.2 c2
   have C2:=Za c2
   clear c2
   go_wp2
   go_ret2
   have c2:=un C2
   have hb:=un HB
   refine ⟨h - ta+lb,?_,fun m hm=>?_,H1⟩
   ·by_cases c4:h - ta+lb≤8
    ·rw [hb,if_pos (by omega)];simp [c4]
    ·rw [hb,if_neg (by omega)];simp [c4]
   ·rw [hb] at hm
    split at hm
    ·simpa using hm
    ·cases hm
theorem Zvj (kd a at_:Int) (w:World) :
  Calls Tryd.prog 82 #[.agg #[.int .i64 kd,.int .i64 a],.int .i64 at_] w fun e w' =>
   e=.returned (.func (.func 88) #[] #[.pointer (some ⟨w.heap.size,0,none⟩),.pointer (some ⟨w.heap.size+1,0,none⟩)])∧w'=(w.alloc (.cells #[.int .i64 kd,.int .i64 a] 86)).alloc (.cells #[.int .i64 at_] 3):=by
 go_enter Tryd.func82,Tryd.ntmps82
 go_wp2
 go_ret
 exact ⟨rfl,rfl⟩
open Go.RowKit Go.Shelf
attribute [local go_sem] Oper.semAt_some
def KpAt (Ba:Nat) (W W':World):Prop:=W'.cell? ⟨Ba,0,none⟩=W.cell? ⟨Ba,0,none⟩
def SAll (l xs:List Nat):Prop:=xs=l
def SPre (l pre:List Nat):Prop:=∃ r,pre++r=l
theorem Zwy (n Bx Ba:Nat) (kd a:Int) (at_:Nat) (w0:World) (hn:1≤n) (c0:w0.cell? ⟨Bx,0,none⟩=some (.int .i64 kd)) (c1:w0.cell? ⟨Bx,1,none⟩=some (.int .i64 a)) (c2:w0.cell? ⟨Ba,0,none⟩=some (.int .i64 at_))
  (hA:kd=9∨kd=10→0≤a) (hat:at_≤8796093022208) :
  SeqStopsK Fence.wide n Tryd.prog 88 #[.pointer (some ⟨Bx,0,none⟩),.pointer (some ⟨Ba,0,none⟩)] (fun j:Nat=>#[Value.int .i64 j]) (KpAt Ba) (SAll (nexts (kd,a) at_)) (SPre (nexts (kd,a) at_)) 2 w0:=fun l J Jx W hW _ _ hY h0=>by
 have hK:Zb w0 W:=hW
 have d0:=hK.cell c0
 have d1:=hK.cell c1
 have d2:=hK.cell c2
 clear hK hW c0 c1 c2
 obtain ⟨L,hL⟩:∃ L,nexts (kd,a) at_=L:=⟨_,rfl⟩
 have HL:=Za hL
 rw [hL]
 clear hL
 refine callsIn_of_wp Tryd.func88 rfl trivial ?_ rfl
 simp only [Tryd.ntmps88,List.size_toArray,List.length_cons,List.length_nil,Nat.reduceAdd,Nat.reduceSub,Array.replicate_succ,Array.replicate_zero,List.push_toArray,List.append_toArray,List.nil_append,List.cons_append]
 by_cases h12:kd=12
 ·subst h12
  gi_wp2
  go_end0
  refine ⟨⟨_,rfl⟩,.inl ⟨[],?_,h0⟩⟩
  rw [← un HL];rfl
 ·have g12:(kd == 12)=false:=beq_eq_false_iff_ne.2 h12
  have N12:=Za h12
  clear h12
  by_cases h9:kd=9
  ·subst h9
   obtain ⟨j,rfl⟩:=Int.eq_ofNat_of_zero_le (hA (.inl rfl))
   obtain ⟨f1,t1,a1,b1,hy1,hR1⟩:=hY [] j W h0 (by simp)
   dsimp only at hy1
   gi_wp2
   refine hR1.mono ?_
   rintro e W1 (⟨rfl,hJ1,_⟩ | ⟨rfl,hx1⟩)
   ·gi_wp2
    go_end0
    refine ⟨⟨_,rfl⟩,.inl ⟨[j],?_,hJ1⟩⟩
    rw [← un HL];rfl
   ·gi_wp2
    go_end0
    refine ⟨⟨_,rfl⟩,.inr ⟨[j],⟨[],?_⟩,hx1⟩⟩
    rw [← un HL];rfl
  ·have g9:(kd == 9)=false:=beq_eq_false_iff_ne.2 h9
   have N9:=Za h9
   clear h9
   by_cases h10:kd=10
   ·subst h10
    obtain ⟨j,rfl⟩:=Int.eq_ofNat_of_zero_le (hA (.inr rfl))
    obtain ⟨f1,t1,a1,b1,hy1,hR1⟩:=hY [] j W h0 (by simp)
    dsimp only at hy1
    gi_wp2
    refine hR1.mono ?_
    rintro e W1 (⟨rfl,hJ1,hk1⟩ | ⟨rfl,hx1⟩)
    ·have d3:W1.cell? ⟨Ba,0,none⟩=some (.int .i64 at_):=Eq.trans hk1 d2
     obtain ⟨f2,t2,a2,b2,hy2,hR2⟩:=hY [j] (at_+1) W1 hJ1 (by simp)
     rw [show ((at_+1:Nat):Int)=(at_:Int)+1 from by omega] at hy2
     clear hk1
     gi_wp2
     refine hR2.mono ?_
     rintro e W2 (⟨rfl,hJ2,_⟩ | ⟨rfl,hx2⟩)
     ·gi_wp2
      go_end0
      refine ⟨⟨_,rfl⟩,.inl ⟨[j,at_+1],?_,hJ2⟩⟩
      rw [← un HL];rfl
     ·gi_wp2
      go_end0
      refine ⟨⟨_,rfl⟩,.inr ⟨[j,at_+1],⟨[],?_⟩,hx2⟩⟩
      rw [← un HL];rfl
    ·gi_wp2
     go_end0
     refine ⟨⟨_,rfl⟩,.inr ⟨[j],⟨[at_+1],?_⟩,hx1⟩⟩
     rw [← un HL];rfl
   ·have g10:(kd == 10)=false:=beq_eq_false_iff_ne.2 h10
    have hl:nexts (kd,a) at_=[at_+1]:=by
     unfold nexts
     rw [if_neg (un N12),if_neg (un N9),if_neg h10]
    have HM:=Za hl
    clear h10 hl
    obtain ⟨f1,t1,a1,b1,hy1,hR1⟩:=hY [] (at_+1) W h0 (by simp)
    dsimp only at hy1
    rw [show ((at_+1:Nat):Int)=(at_:Int)+1 from by omega] at hy1
    gi_wp2
    refine hR1.mono ?_
    rintro e W1 (⟨rfl,hJ1,_⟩ | ⟨rfl,hx1⟩)
    ·gi_wp2
     go_end0
     refine ⟨⟨_,rfl⟩,.inl ⟨[at_+1],?_,hJ1⟩⟩
     rw [← un HL,un HM];rfl
    ·gi_wp2
     go_end0
     refine ⟨⟨_,rfl⟩,.inr ⟨[at_+1],⟨[],?_⟩,hx1⟩⟩
     rw [← un HL,un HM];rfl
def Qe (w:World) (B:Nat) (H:List Int):Prop:=w.heap[B]?=some (.cells (H.map (fun z=>Value.int .i64 z)).toArray 3)
theorem Qe.kept {w w':World} {B:Nat} {H:List Int} (h:Qe w B H) (k:Zb w w'):Qe w' B H:=Zm k h
theorem Qe.cell {w:World} {B:Nat} {H:List Int} (h:Qe w B H) {k:Nat} (hk:k<H.length):w.cell? ⟨B,k,none⟩=some (.int .i64 (H.getD k 0)):=by
 rw [Zd h k];simp [hk,List.getD]
theorem Qe.frozen {w:World} {B:Nat} {H:List Int} (h:Qe w B H) (k:Nat):w.frozen? ⟨B,k,none⟩=false:=Zk h k
theorem Qe.set {w:World} {B:Nat} {H:List Int} (h:Qe w B H) (k:Nat) (z:Int):Qe (w.setCell ⟨B,k,none⟩ (.int .i64 z)) B (H.set k z):=by
 unfold Qe at *
 rw [Zl h k]
 congr 2
 simp [List.map_set]
theorem Qe.lt {w:World} {B:Nat} {H:List Int} (h:Qe w B H):B<w.heap.size:=(Array.getElem?_eq_some_iff.1 h).1
theorem Qe.other {w:World} {B:Nat} {H:List Int} (h:Qe w B H) {p:Addr} (hp:p.block≠B) (u:Value):Qe (w.setCell p u) B H:=Zz h (fun e=>hp e.symm) u
structure ComeAt (w0 w:World) (p:List Fn) (g:Fn) (vp vc:Value) (B:Nat) (H:List Int):Prop where
 prog:Zw w0 vp p
 code:Wf w0 vc g.code
 kinds:Je w0
 right:∀ x,x∈g.code→opS p g x=0
 most:g.code.length≤24
 kept:Zb w0 w
 new:w0.heap.size≤B
 hs:Qe w B H
 len:H.length=g.code.length
def Zee (p:List Fn) (g:Fn) (n:Nat) (H:List Int) (at_:Nat) (h:Int) (B:Nat) (w:World) (e:Ending) (w':World):Prop :=
 ∃ b H',Ym p g.code n H at_ h=(b,H')∧e=.returned (.bool b)∧Qe w' B H'∧Zn B w w'
attribute [local go_sem] Oper.semAt_some
theorem Zyc (n:Nat) (p:List Fn) (g:Fn) (oa oc:Option Addr) (lp cp lc cc B:Nat) (H:List Int) (at_:Nat) (h:Int) (w:World) (hH:Qe w B H) (hlc:lc=g.code.length) (hat:((lc:Int)≤at_)) :
  Calls Tryd.prog 63 #[.agg #[.slice oa lp cp,.slice oc lc cc,.slice (some ⟨B,0,none⟩) lc lc],.int .i64 at_,.int .i64 h] w fun e w'=>Zee p g (n+1) H at_ h B w e w':=by
 have HL:=Za hlc
 have HH:=Za hH
 clear hlc hH
 refine (callsIn_wide (n:=9)).1 (callsIn_of_wp_marks Tryd.func63 rfl trivial ?_ rfl)
 refine wpIn_wide.2 ?_
 simp only [Tryd.ntmps63,List.size_toArray,List.length_cons,List.length_nil,Nat.reduceAdd,Nat.reduceSub,Array.replicate_succ,Array.replicate_zero,List.push_toArray,List.append_toArray,List.nil_append,List.cons_append]
 go_wp2
 refine ⟨.bool false,by simp [results,Tryd.results63,go_sem],false,H,?_,rfl,(un HH).kept (((Zb.refl _).alloc _).alloc _),.of (((Zb.refl _).alloc _).alloc _)⟩
 have:=un HL
 unfold Ym
 rw [if_pos (by omega)]
theorem Zzn (n:Nat) (p:List Fn) (g:Fn) (oa oc:Option Addr) (lp cp lc cc B:Nat) (H:List Int) (at_:Nat) (h:Int) (w:World) (hH:Qe w B H) (hlc:lc=g.code.length) (hlh:H.length=g.code.length) (hat:¬ ((lc:Int)≤at_)) (hs:H.getD at_ 0≠-1) :
  Calls Tryd.prog 63 #[.agg #[.slice oa lp cp,.slice oc lc cc,.slice (some ⟨B,0,none⟩) lc lc],.int .i64 at_,.int .i64 h] w fun e w'=>Zee p g (n+1) H at_ h B w e w':=by
 have q:=hH.cell (k:=at_) (by omega)
 generalize hz:H.getD at_ 0=z at *
 have d:=(((Zb.refl w).alloc (.cells #[.slice oa lp cp,.slice oc lc cc,.slice (some ⟨B,0,none⟩) lc lc] 108)).alloc (.cells #[.bool false] 4)).cell q
 have hs':(z != -1)=true:=by rw [bne_iff_ne];exact hs
 have HS:=Za hs
 have HL:=Za hlc
 have HZ:=Za hz
 have HH:=Za hH
 clear hlc hH hz q hs hlh
 refine (callsIn_wide (n:=9)).1 (callsIn_of_wp_marks Tryd.func63 rfl trivial ?_ rfl)
 refine wpIn_wide.2 ?_
 simp only [Tryd.ntmps63,List.size_toArray,List.length_cons,List.length_nil,Nat.reduceAdd,Nat.reduceSub,Array.replicate_succ,Array.replicate_zero,List.push_toArray,List.append_toArray,List.nil_append,List.cons_append]
 go_wp2
 refine ⟨.bool (z == h),by simp [results,Tryd.results63,go_sem],z == h,H,?_,rfl,(un HH).kept (((Zb.refl _).alloc _).alloc _),.of (((Zb.refl _).alloc _).alloc _)⟩
 have:=un HL
 unfold Ym
 rw [if_neg (by omega),un HZ,if_neg (un HS)]
 rfl
end Go.Proofs.YtblihfpigjiahaaDoor
