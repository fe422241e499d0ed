/- OpC, OpJ, OpK, Same, FlowH0, FlowI0 -/
import Derived.Test.YtblihfpigjiahaaDoorWB01
import Derived.Deep.RegionWith
import Derived.Test.YtblihfpigjiahaaDoorWB17
import Derived.Test.YtblihfpigjiahaaDoorWB08
import Derived.Test.YtblihfpigjiahaaDoorWB11
set_option maxRecDepth 100000
set_option maxHeartbeats 8000000
namespace Go.Proofs.YtblihfpigjiahaaDoor
open Go.RowKit
theorem Zha {k:Nat} (h:k<17) (h':k≠11):k=0∨k=1∨k=2∨k=3∨k=4∨k=5∨k=6∨k=7∨k=8∨k=9∨k=10∨k=12∨k=13∨k=14∨k=15∨k=16:=by omega
theorem Ztu (k:Nat) (a:Int) (v:Value) (w:World) (h:k<17) (h':k≠11) :
  Calls Tryd.prog 45 #[v,.agg #[.int .i64 k,.int .i64 a]] w fun e w'=>e=.returned (.int .i64 (tk k))∧w'=w.alloc (.cells #[.int .i64 k,.int .i64 a] 86):=by
 rcases Zha h h' with rfl | rfl | rfl | rfl | rfl | rfl | rfl | rfl | rfl | rfl | rfl | rfl | rfl | rfl | rfl | rfl
 all_goals
  as_aux_lemma =>
   go_enter Tryd.func45,Tryd.ntmps45
   go_wp2
   go_ret
   exact ⟨rfl,rfl⟩
theorem Zxi (i b o n cap:Nat) (r:Int) (w:World) (hi:i<n) (hc:w.cell? ⟨b,o+i*3,none⟩=some (.int .i64 r)) :
  Calls Tryd.prog 45 #[.slice (some ⟨b,o,none⟩) n cap,.agg #[.int .i64 11,.int .i64 i]] w fun e w'=>e=.returned (.int .i64 r)∧w'=w.alloc (.cells #[.int .i64 11,.int .i64 i] 86):=by
 have c3:(w.alloc (.cells #[.int .i64 11,.int .i64 i] 86)).cell? ⟨b,o+i*3,none⟩=some (.int .i64 r):=((Zb.refl w).alloc _).cell hc
 clear hc
 go_enter Tryd.func45,Tryd.ntmps45
 go_wp2
 go_ret
 exact ⟨rfl,rfl⟩
theorem Zyb (k:Nat) (a:Int) (w:World) (h:k<17) :
  Calls Tryd.prog 46 #[.agg #[.int .i64 k,.int .i64 a]] w fun e w'=>e=.returned (.int .i64 (lv k))∧w'=w.alloc (.cells #[.int .i64 k,.int .i64 a] 86):=by
 by_cases h':k=11
 ·subst h'
  go_enter Tryd.func46,Tryd.ntmps46
  go_wp2
  go_ret
  exact ⟨rfl,rfl⟩
 ·rcases Zha h h' with rfl | rfl | rfl | rfl | rfl | rfl | rfl | rfl | rfl | rfl | rfl | rfl | rfl | rfl | rfl | rfl
  all_goals
   as_aux_lemma =>
    go_enter Tryd.func46,Tryd.ntmps46
    go_wp2
    go_ret
    exact ⟨rfl,rfl⟩
theorem Zly {p:List Fn} {f:Fn} {k:Nat} {a:Int} (h:k<17):opS p f (k,a)=if Qm p f (opd k) a=true then (if k=13∧(p.getD a.toNat Fn.zero).args≠1 then 1 else 0) else 3:=by
 unfold opS
 rw [if_pos ⟨by simp,by simp;omega⟩]
 have e:((k:Int)=13)=(k=13):=by rw [eq_iff_iff];omega
 simp [e]
theorem Znz {p:List Fn} {f:Fn} {k:Nat} {a:Int} (h:k<17) (hn:k≠13):opS p f (k,a)=bif Qm p f (opd k) a then 0 else 3:=by
 rw [Zly h]
 cases Qm p f (opd k) a <;> simp [hn]
theorem Zpv (p:List Fn) (i b o cap:Nat) (f:Fn) (oc:Option Addr) (cc:Nat) (kd a:Int) (w:World) (hp:Zw w (.slice (some ⟨b,o,none⟩) p.length cap) p) (hi:i<p.length)
  (hcl:f.code.length≤8796093022208) (c1:w.cell? ⟨b,o+i*3+1,none⟩=some (.int .i64 f.locals)) (c2:w.cell? ⟨b,o+i*3+2,none⟩=some (.slice oc f.code.length cc)) (hr:Qn f.args f.locals=true) :
  Calls Tryd.prog 44 #[.slice (some ⟨b,o,none⟩) p.length cap,.int .i64 i,.agg #[.int .i64 kd,.int .i64 a]] w fun e w'=>e=.returned (.int .i64 (opS p f (kd,a)))∧Zb w w':=by
 have hl:=hp.lt
 rw [Ws] at hr
 by_cases h:0≤kd∧kd<17
 ·obtain ⟨k,rfl⟩:=Int.eq_ofNat_of_zero_le h.1
  have hb:k<17:=by omega
  have hfn:∀ k:Nat,(opd k=4)→Qm p f (opd k) a=(ixB a p.length && Qn (p.getD a.toNat Fn.zero).args (p.getD a.toNat Fn.zero).locals):=by
   intro k hk
   rw [hk]
   simp only [Qm]
   rw [if_neg (by decide),if_neg (by decide),if_neg (by decide),if_neg (by decide)]
  by_cases h11:k=11
  ·subst h11
   rw [Znz hb (by decide),hfn 11 rfl]
   by_cases ha:0≤a∧a<p.length
   ·obtain ⟨j,rfl⟩:=Int.eq_ofNat_of_zero_le ha.1
    obtain ⟨oa',cap',he,_,hcell⟩:=hp
    obtain ⟨b',o',cv,rfl,d0,d1,d2,_⟩:=hcell j _ (Zq p j Fn.zero (by omega))
    obtain ⟨⟨rfl,rfl⟩,-⟩:=(by simpa using he:(b=b'∧o=o')∧cap=cap')
    rw [Jr ha.1 ha.2,Int.toNat_natCast,Bool.true_and]
    cases hroom:Qn (p.getD j Fn.zero).args (p.getD j Fn.zero).locals with
    | false=>exact Xak i j b o p.length cap _ _ cv w hl (by omega) d0 d1 d2 hroom
    | true=>exact Zom i j b o p.length cap _ _ cv w hl (by omega) d0 d1 d2 hroom
   ·rw [Wy ha,Bool.false_and]
    exact Zou a i _ p.length cap w hl (Pr (by omega))
  ·by_cases h13:k=13
   ·subst h13
    rw [Zly hb,hfn 13 rfl]
    by_cases ha:0≤a∧a<p.length
    ·obtain ⟨j,rfl⟩:=Int.eq_ofNat_of_zero_le ha.1
     obtain ⟨oa',cap',he,_,hcell⟩:=hp
     obtain ⟨b',o',cv,rfl,d0,d1,d2,_⟩:=hcell j _ (Zq p j Fn.zero (by omega))
     obtain ⟨⟨rfl,rfl⟩,-⟩:=(by simpa using he:(b=b'∧o=o')∧cap=cap')
     rw [Jr ha.1 ha.2,Int.toNat_natCast,Bool.true_and]
     cases hroom:Qn (p.getD j Fn.zero).args (p.getD j Fn.zero).locals with
     | false=>exact Xbu i j b o p.length cap _ _ cv w hl (by omega) d0 d1 d2 hroom
     | true =>
      by_cases har:(p.getD j Fn.zero).args=1
      ·rw [if_pos rfl,if_neg (by simpa using har)]
       exact Zrd i j b o p.length cap _ _ cv w hl (by omega) d0 d1 d2 hroom (by rw [har];rfl)
      ·rw [if_pos rfl,if_pos ⟨rfl,har⟩]
       exact Zxt i j b o p.length cap _ _ cv w hl (by omega) d0 d1 d2 hroom (by rw [bne_iff_ne];exact har)
    ·rw [Wy ha,Bool.false_and,if_neg (by decide)]
     exact Zxr a i _ p.length cap w hl (Pr (by omega))
   ·rw [Znz hb h13]
    have e0:∀ k:Nat,opd k=0→Qm p f (opd k) a=inB a 0 0:=by
     intro k hk
     rw [hk,Bool.eq_iff_iff,Zbb]
     simp only [Qm]
     rw [if_pos trivial,decide_eq_true_eq]
     omega
    have e1:Qm p f (opd 0) a=inB a 0 999:=rfl
    have e2:∀ k:Nat,opd k=2→Qm p f (opd k) a=inB a 0 (f.locals - 1):=by
     intro k hk;rw [hk,Zgd];rfl
    have e3:∀ k:Nat,opd k=3→Qm p f (opd k) a=inB a 0 ((f.code.length:Int) - 1):=by
     intro k hk;rw [hk,Zgd];rfl
    rcases Zha hb h11 with rfl | rfl | rfl | rfl | rfl | rfl | rfl | rfl | rfl | rfl | rfl | rfl | rfl | rfl | rfl | rfl
    ·rw [e1]
     cases hm:inB a 0 999 with
     | false=>exact Zrg a i _ w hm
     | true=>exact Zye a i _ w hm
    ·rw [e0 1 rfl]
     cases hm:inB a 0 0 with
     | false=>exact Zyi a i _ w hm
     | true=>exact Xcg a i _ w hm
    ·rw [e2 2 rfl]
     cases hm:inB a 0 (f.locals - 1) with
     | false=>exact Zwd a i b o p.length cap _ w hi (by omega) hr.2.2 c1 hm
     | true=>exact Zoh a i b o p.length cap _ w hi (by omega) hr.2.2 c1 hm
    ·rw [e2 3 rfl]
     cases hm:inB a 0 (f.locals - 1) with
     | false=>exact Xay a i b o p.length cap _ w hi (by omega) hr.2.2 c1 hm
     | true=>exact Zst a i b o p.length cap _ w hi (by omega) hr.2.2 c1 hm
    ·rw [e0 4 rfl]
     cases hm:inB a 0 0 with
     | false=>exact Ztc a i _ w hm
     | true=>exact Xbx a i _ w hm
    ·rw [e0 5 rfl]
     cases hm:inB a 0 0 with
     | false=>exact Zvt a i _ w hm
     | true=>exact Zsu a i _ w hm
    ·rw [e0 6 rfl]
     cases hm:inB a 0 0 with
     | false=>exact Zqp a i _ w hm
     | true=>exact Xce a i _ w hm
    ·rw [e0 7 rfl]
     cases hm:inB a 0 0 with
     | false=>exact Zsr a i _ w hm
     | true=>exact Zwt a i _ w hm
    ·rw [e0 8 rfl]
     cases hm:inB a 0 0 with
     | false=>exact Zvq a i _ w hm
     | true=>exact Zxa a i _ w hm
    ·rw [e3 9 rfl]
     cases hm:inB a 0 ((f.code.length:Int) - 1) with
     | false=>exact Zrh a i b o p.length cap oc _ cc w hi hcl c2 hm
     | true=>exact Zqu a i b o p.length cap oc _ cc w hi hcl c2 hm
    ·rw [e3 10 rfl]
     cases hm:inB a 0 ((f.code.length:Int) - 1) with
     | false=>exact Zuj a i b o p.length cap oc _ cc w hi hcl c2 hm
     | true=>exact Zwa a i b o p.length cap oc _ cc w hi hcl c2 hm
    ·rw [e0 12 rfl]
     cases hm:inB a 0 0 with
     | false=>exact Zzi a i _ w hm
     | true=>exact Zyj a i _ w hm
    ·exact absurd rfl h13
    ·rw [e0 14 rfl]
     cases hm:inB a 0 0 with
     | false=>exact Zxn a i _ w hm
     | true=>exact Xap a i _ w hm
    ·rw [e0 15 rfl]
     cases hm:inB a 0 0 with
     | false=>exact Zxc a i _ w hm
     | true=>exact Xbz a i _ w hm
    ·rw [e0 16 rfl]
     cases hm:inB a 0 0 with
     | false=>exact Zsp a i _ w hm
     | true=>exact Xbg a i _ w hm
 ·have e:opS p f (kd,a)=4:=by unfold opS;rw [if_neg h]
  rw [e]
  exact Zxy kd a i _ w (Pr (by omega)) (beq_eq_false_iff_ne.2 (by omega)) (beq_eq_false_iff_ne.2 (by omega)) (beq_eq_false_iff_ne.2 (by omega)) (beq_eq_false_iff_ne.2 (by omega)) (beq_eq_false_iff_ne.2 (by omega)) (beq_eq_false_iff_ne.2 (by omega)) (beq_eq_false_iff_ne.2 (by omega))
theorem Zot (f:Int) (oa:Option Addr) (n cap:Nat) (w:World) (hn:n≤8796093022208) (h:inB f 0 ((n:Int) - 1)=false) :
  Calls Tryd.prog 22 #[.slice oa n cap,.int .i64 f] w fun e w'=>e=.returned (.int .i64 5)∧Zb w w':=by
 go_enter Tryd.func22,Tryd.ntmps22
 go_wp2_with (go_at_call 15;refine (Xm _ _ _ _).mono ?_;rintro e w' ⟨rfl,rfl⟩)
 go_ret
 exact ⟨rfl,Zb.refl _⟩
theorem Zpp (i b o n cap:Nat) (oc:Option Addr) (m cc:Nat) (w:World) (hn:n≤8796093022208) (hi:i<n) (c2:w.cell? ⟨b,o+i*3+2,none⟩=some (.slice oc m cc)) (hm:24<(m:Int)) :
  Calls Tryd.prog 22 #[.slice (some ⟨b,o,none⟩) n cap,.int .i64 i] w fun e w'=>e=.returned (.int .i64 2)∧Zb w w':=by
 have h:inB i 0 ((n:Int) - 1)=true:=Wl (by omega) (by omega)
 go_enter Tryd.func22,Tryd.ntmps22
 go_wp2_with (go_at_call 15;refine (Xm _ _ _ _).mono ?_;rintro e w' ⟨rfl,rfl⟩)
 go_ret
 exact ⟨rfl,Zb.refl _⟩
theorem Ztv (i b o n cap:Nat) (ar lo:Int) (oc:Option Addr) (m cc:Nat) (w:World) (hn:n≤8796093022208) (hi:i<n) (c0:w.cell? ⟨b,o+i*3,none⟩=some (.int .i64 ar)) (c1:w.cell? ⟨b,o+i*3+1,none⟩=some (.int .i64 lo))
  (c2:w.cell? ⟨b,o+i*3+2,none⟩=some (.slice oc m cc)) (hm:¬ 24<(m:Int)) (hr:Qn ar lo=false) :
  Calls Tryd.prog 22 #[.slice (some ⟨b,o,none⟩) n cap,.int .i64 i] w fun e w'=>e=.returned (.int .i64 3)∧Zb w w':=by
 have h:inB i 0 ((n:Int) - 1)=true:=Wl (by omega) (by omega)
 go_enter Tryd.func22,Tryd.ntmps22
 go_wp2_with (first | (go_at_call 15;refine (Xm _ _ _ _).mono ?_;rintro e w' ⟨rfl,rfl⟩) | (go_at_call 43;refine (Zbh _ _ _ _).mono ?_;rintro e w' ⟨rfl,rfl⟩))
 go_ret
 exact ⟨rfl,(Zb.refl _).alloc _⟩
theorem Zqn (p:List Fn) (f:Fn) (i b o cap:Nat) (oc:Option Addr) (m cc:Nat) (w:World) (hp:Zw w (.slice (some ⟨b,o,none⟩) p.length cap) p) (hi:i<p.length)
  (c0:w.cell? ⟨b,o+i*3,none⟩=some (.int .i64 f.args)) (c1:w.cell? ⟨b,o+i*3+1,none⟩=some (.int .i64 f.locals))
  (c2:w.cell? ⟨b,o+i*3+2,none⟩=some (.slice oc m cc)) (hc:Wf w (.slice oc m cc) f.code) (hml:m=f.code.length) (hm:m≤24) (hr:Qn f.args f.locals=true) :
  Calls Tryd.prog 22 #[.slice (some ⟨b,o,none⟩) p.length cap,.int .i64 i] w fun e w'=>e=.returned (.int .i64 (Wn p f f.code))∧Zb w w':=by
 have hl:=hp.lt
 have h:inB i 0 ((p.length:Int) - 1)=true:=Wl (by omega) (by omega)
 have hm':¬ 24<(m:Int):=by omega
 have HP:Hid (Zw w (.slice (some ⟨b,o,none⟩) p.length cap) p):=hp
 have HC:Hid (Wf w (.slice oc m cc) f.code):=hc
 have HL:Hid (m=f.code.length):=hml
 have C1:=Za c1
 have C2:=Za c2
 have hr':(!Qn f.args f.locals)=false:=by rw [hr];rfl
 have HR:=Za hr
 clear hp hc hml hr
 go_enter Tryd.func22,Tryd.ntmps22
 go_wp2_with (first | (go_at_call 15;refine (Xm _ _ _ _).mono ?_;rintro e w' ⟨rfl,rfl⟩) | (go_at_call 43;refine (Zbh _ _ _ _).mono ?_;rintro e w' ⟨rfl,rfl⟩))
 clear c0 c1 c2
 go_loopw [5] (fun i wr=>∃ k:Nat,k≤m∧i=.int .i64 k∧Hid (Wn p f (f.code.drop k)=Wn p f f.code)∧Hid (Zb w wr)) (fun i _=>m - (intOf i).toNat)
 case atStart=>exact ⟨0,Nat.zero_le _,rfl,rfl,(Zb.refl _).alloc _⟩
 case round =>
  obtain ⟨k,hkm,rfl,HO,HKW⟩:=hrel
  have d2:=HKW.out.cell (un C2)
  by_cases hlt:k<m
  ·obtain ⟨x,hx⟩:∃ x,f.code[k]?=some x:=⟨f.code[k]'(by rw [← HL.out];exact hlt),List.getElem?_eq_getElem _⟩
   obtain ⟨oa',cap',he,_,hcell⟩:=HC.out.kept HKW.out
   obtain ⟨b',o',rfl,x0,x1⟩:=hcell k x hx
   obtain ⟨rfl,-,-⟩:=(by simpa using he:oc=some ⟨b',o',none⟩∧m=f.code.length∧cc=cap')
   have HX:Hid (f.code[k]?=some x):=hx
   have hck:=Zpv p i b o cap f (some ⟨b',o',none⟩) cc x.1 x.2 wr (HP.out.kept HKW.out) hi (by have:=HL.out;omega) (HKW.out.cell (un C1)) (by rw [← HL.out];exact d2) (un HR)
   have HCK:=Za hck
   clear hcell he hx hck
   have hst:=Zmk (p:=p) (f:=f) HX.out
   go_wp2_with fail
   refine (un HCK).mono ?_
   clear HCK
   rintro e w2 ⟨he,hk2⟩
   by_cases hz:opS p f x=0
   ·rw [if_pos hz] at hst
    rw [show opS p f (x.1,x.2)=0 from hz] at he
    subst he
    have HST:=Za hst
    have HK2:Hid (Zb w w2):=HKW.out.trans hk2
    clear hst hz hk2
    go_wp2
    go_roundw
    case rel=>exact ⟨k+1,by omega,by go_num,(un HST).symm.trans HO.out,HK2⟩
    case measure=>simp [intOf];omega
   ·rw [if_neg hz] at hst
    have hz':(opS p f (x.1,x.2) != 0)=true:=by rw [bne_iff_ne];exact hz
    have HST:=Za hst
    have HK2:Hid (Zb w w2):=HKW.out.trans hk2
    clear hst hz hk2
    subst he
    go_wp2
    go_ret
    exact ⟨by rw [← HO.out,un HST];rfl,HK2⟩
  ·have hke:k=f.code.length:=by have:=HL.out;omega
   have HE:=Za hke
   clear hke
   go_wp2
   go_ret
   refine ⟨?_,HKW.out⟩
   rw [← HO.out,un HE,List.drop_length]
   rfl
theorem Zth (p:List Fn) (v:Value) (f:Int) (w:World) (hp:Zw w v p) :
  Calls Tryd.prog 22 #[v,.int .i64 f] w fun e w'=>e=.returned (.int .i64 (Xv p f))∧Zb w w':=by
 have hp0:=hp
 obtain ⟨oa,cap,rfl,hl,hi⟩:=hp
 unfold Xv
 by_cases h:0≤f∧f<p.length
 ·rw [if_pos h]
  obtain ⟨i,rfl⟩:=Int.eq_ofNat_of_zero_le h.1
  obtain ⟨b,o,cv,rfl,c0,c1,c2,hc⟩:=hi i _ (Zq p i Fn.zero (by omega))
  have hc0:=hc
  obtain ⟨oc,cc,rfl,_,_⟩:=hc
  rw [Int.toNat_natCast]
  generalize p.getD i Fn.zero=g at *
  by_cases hm:24<g.code.length
  ·simp only [if_pos hm]
   exact Zpp i b o p.length cap oc _ cc w hl (by omega) c2 (by omega)
  ·simp only [if_neg hm]
   cases hr:Qn g.args g.locals with
   | false =>
    rw [if_neg (by decide)]
    exact Ztv i b o p.length cap _ _ oc _ cc w hl (by omega) c0 c1 c2 (by omega) hr
   | true =>
    rw [if_pos rfl]
    exact Zqn p g i b o cap oc _ cc w hp0 (by omega) c0 c1 c2 hc0 rfl (by omega) hr
 ·rw [if_neg h]
  exact Zot f oa p.length cap w hl (Pr (by omega))
theorem Zrs {l1 l2:List Int} (hl:l1.length=l2.length) (h:∀ i,i<l1.length→l1.getD i 0=l2.getD i 0):l1=l2:=by
 apply List.ext_getElem hl
 intro k h1 h2
 have:=h k h1
 simpa [List.getD,h1,h2] using this
theorem Zus (p:List Fn) (g:Fn) (v:Value) (x:Int × Int) (ta lb:Int) (u:World) (hp:Zw u v p) (hop:opS p g x=0) (he:Qr p x.1 x.2=(ta,lb,0)) :
  Calls Tryd.prog 45 #[v,.agg #[.int .i64 x.1,.int .i64 x.2]] u fun e u'=>e=.returned (.int .i64 ta)∧u'=u.alloc (.cells #[.int .i64 x.1,.int .i64 x.2] 86):=by
 obtain ⟨kd,a⟩:=x
 obtain ⟨h1,h2,_⟩:=Wc hop
 simp only at h1 h2 he ⊢
 obtain ⟨k,rfl⟩:=Int.eq_ofNat_of_zero_le h1
 by_cases h11:k=11
 ·subst h11
  obtain ⟨a0,a1,_,a3⟩:=Zba hop rfl
  simp only at a0 a1 a3
  obtain ⟨j,rfl⟩:=Int.eq_ofNat_of_zero_le a0
  rw [show (((11:Nat):Int))=11 from rfl] at he a3
  rw [he] at a3
  obtain ⟨oa,cap,rfl,_,hi⟩:=hp
  obtain ⟨b,o,cv,rfl,c0,_⟩:=hi j _ (Zq p j Fn.zero (by omega))
  have hta:ta=(p.getD j Fn.zero).args:=by
   have:=congrArg Prod.fst a3
   simpa using this
  rw [hta]
  exact Zxi j b o p.length cap _ u (by omega) c0
 ·have hta:ta=tk k:=by
   unfold Qr at he
   rw [if_pos ⟨by omega,by omega⟩,if_neg (by omega)] at he
   have:=congrArg Prod.fst he
   simpa using this.symm
  rw [hta]
  exact Ztu k a v u (by omega) h11
theorem Zzv (p:List Fn) (g:Fn) (x:Int × Int) (ta lb:Int) (u:World) (hop:opS p g x=0) (he:Qr p x.1 x.2=(ta,lb,0)) :
  Calls Tryd.prog 46 #[.agg #[.int .i64 x.1,.int .i64 x.2]] u fun e u'=>e=.returned (.int .i64 lb)∧u'=u.alloc (.cells #[.int .i64 x.1,.int .i64 x.2] 86):=by
 obtain ⟨kd,a⟩:=x
 obtain ⟨h1,h2,_⟩:=Wc hop
 simp only at h1 h2 he ⊢
 obtain ⟨k,rfl⟩:=Int.eq_ofNat_of_zero_le h1
 have hlb:lb=lv k:=by
  by_cases h11:k=11
  ·subst h11
   obtain ⟨_,_,_,a3⟩:=Zba hop rfl
   simp only at a3
   rw [show (((11:Nat):Int))=11 from rfl] at he a3
   rw [he] at a3
   have:=congrArg (fun t=>t.2.1) a3
   exact this
  ·unfold Qr at he
   rw [if_pos ⟨by omega,by omega⟩,if_neg (by omega)] at he
   have:=congrArg (fun t=>t.2.1) he
   simpa using this.symm
 rw [hlb]
 exact Zyb k a u (by omega)
theorem Zpa {p:List Fn} {c:List (Int × Int)} {H:List Int} {k:Nat} (h:Ju p c k H=none):∀ n,k≤n→Ju p c n H=none:=by
 intro n hn
 induction n with
 | zero =>
  obtain rfl:k=0:=by omega
  exact h
 | succ n ih =>
  by_cases e:k=n+1
  ·rw [← e];exact h
  ·simp only [Ju];rw [ih (by omega)];rfl
theorem Zzh {p:List Fn} {c:List (Int × Int)} {H:List Int} {k:Nat} (h:Wm p c k H=none):∀ n,k≤n→Wm p c n H=none:=by
 intro n hn
 induction n with
 | zero =>
  obtain rfl:k=0:=by omega
  exact h
 | succ n ih =>
  by_cases e:k=n+1
  ·rw [← e];exact h
  ·simp only [Wm];rw [ih (by omega)];rfl
theorem Zqo {p:List Fn} {c:List (Int × Int)} {r k:Nat} {Hr Hk:List Int} (h0:c.length≠0) (hr:r≤c.length) (hk:k<c.length) (h1:Wm p c r ((start c).set 0 0)=some Hr) (h2:Ju p c k Hr=some Hk) (h3:Uw p c Hk k=none):Ql p c=none:=by
 unfold Ql
 rw [if_neg h0]
 refine Zzh (k:=r+1) ?_ _ (by omega)
 simp only [Wm,h1,Option.bind_some]
 refine Zpa (k:=k+1) ?_ _ (by omega)
 simp only [Ju,h2,Option.bind_some]
 exact h3
end Go.Proofs.YtblihfpigjiahaaDoor
