/- OpC, OpJ, OpK, FlowI0 -/
import Derived.Test.YtblihfpigjiahaaGreatDoorYB01
import Derived.Deep.RegionWith
import Derived.Test.YtblihfpigjiahaaGreatDoorYB40
import Derived.Test.YtblihfpigjiahaaGreatDoorYB08
import Derived.Test.YtblihfpigjiahaaGreatDoorYB29
import Derived.Test.YtblihfpigjiahaaGreatDoorYB11
set_option maxRecDepth 100000
set_option maxHeartbeats 8000000
namespace Go.Proofs.YtblihfpigjiahaaGreatDoor
open Go.RowKit
theorem Zid {k:Nat} (h:k<17) (h':k≠11):k=0∨k=1∨k=2∨k=3∨k=4∨k=5∨k=6∨k=7∨k=8∨k=9∨k=10∨k=12∨k=13∨k=14∨k=15∨k=16:=by omega
theorem Zvt (k:Nat) (a:Int) (v:Value) (w:World) (h:k<17) (h':k≠11) :
  Calls Tryz.prog 85 #[v,.agg #[.int .i64 k,.int .i64 a]] w fun e w'=>e=.returned (.int .i64 (tk k))∧w'=w.alloc (.cells #[.int .i64 k,.int .i64 a] 66):=by
 rcases Zid h h' with rfl | rfl | rfl | rfl | rfl | rfl | rfl | rfl | rfl | rfl | rfl | rfl | rfl | rfl | rfl | rfl
 all_goals
  as_aux_lemma =>
   go_enter Tryz.func85,Tryz.ntmps85
   go_wp2
   go_ret
   exact ⟨rfl,rfl⟩
theorem Zsd (i b o n cap:Nat) (r:Int) (w:World) (hi:i<n) (hc:w.cell? ⟨b,o+i*3,none⟩=some (.int .i64 r)) :
  Calls Tryz.prog 85 #[.slice (some ⟨b,o,none⟩) n cap,.agg #[.int .i64 11,.int .i64 i]] w fun e w'=>e=.returned (.int .i64 r)∧w'=w.alloc (.cells #[.int .i64 11,.int .i64 i] 66):=by
 have c3:(w.alloc (.cells #[.int .i64 11,.int .i64 i] 66)).cell? ⟨b,o+i*3,none⟩=some (.int .i64 r):=((Za.refl w).alloc _).cell hc
 clear hc
 go_enter Tryz.func85,Tryz.ntmps85
 go_wp2
 go_ret
 exact ⟨rfl,rfl⟩
theorem Zpz (k:Nat) (a:Int) (w:World) (h:k<17) :
  Calls Tryz.prog 86 #[.agg #[.int .i64 k,.int .i64 a]] w fun e w'=>e=.returned (.int .i64 (lv k))∧w'=w.alloc (.cells #[.int .i64 k,.int .i64 a] 66):=by
 by_cases h':k=11
 ·subst h'
  go_enter Tryz.func86,Tryz.ntmps86
  go_wp2
  go_ret
  exact ⟨rfl,rfl⟩
 ·rcases Zid h h' with rfl | rfl | rfl | rfl | rfl | rfl | rfl | rfl | rfl | rfl | rfl | rfl | rfl | rfl | rfl | rfl
  all_goals
   as_aux_lemma =>
    go_enter Tryz.func86,Tryz.ntmps86
    go_wp2
    go_ret
    exact ⟨rfl,rfl⟩
theorem Zkb {p:List Fn} {f:Fn} {k:Nat} {a:Int} (h:k<17):opS p f (k,a)=if Qg p f (opd k) a=true then (if k=13∧(p.getD a.toNat Fn.zero).args≠1 then 1 else 0) else 3:=by
 unfold opS
 rw [if_pos ⟨by simp,by simp;omega⟩]
 have e:((k:Int)=13)=(k=13):=by rw [eq_iff_iff];omega
 simp [e]
theorem Zkc {p:List Fn} {f:Fn} {k:Nat} {a:Int} (h:k<17) (hn:k≠13):opS p f (k,a)=bif Qg p f (opd k) a then 0 else 3:=by
 rw [Zkb h]
 cases Qg p f (opd k) a <;> simp [hn]
theorem Xcd (p:List Fn) (i b o cap:Nat) (f:Fn) (oc:Option Addr) (cc:Nat) (kd a:Int) (w:World) (hp:Xa w (.slice (some ⟨b,o,none⟩) p.length cap) p) (hi:i<p.length)
  (hcl:f.code.length≤8796093022208) (c1:w.cell? ⟨b,o+i*3+1,none⟩=some (.int .i64 f.locals)) (c2:w.cell? ⟨b,o+i*3+2,none⟩=some (.slice oc f.code.length cc)) (hr:Qh f.args f.locals=true) :
  Calls Tryz.prog 84 #[.slice (some ⟨b,o,none⟩) p.length cap,.int .i64 i,.agg #[.int .i64 kd,.int .i64 a]] w fun e w'=>e=.returned (.int .i64 (opS p f (kd,a)))∧Za w w':=by
 have hl:=hp.lt
 rw [Wz] at hr
 by_cases h:0≤kd∧kd<17
 ·obtain ⟨k,rfl⟩:=Int.eq_ofNat_of_zero_le h.1
  have hb:k<17:=by omega
  have hfn:∀ k:Nat,(opd k=4)→Qg p f (opd k) a=(ixB a p.length && Qh (p.getD a.toNat Fn.zero).args (p.getD a.toNat Fn.zero).locals):=by
   intro k hk
   rw [hk]
   simp only [Qg]
   rw [if_neg (by decide),if_neg (by decide),if_neg (by decide),if_neg (by decide)]
  by_cases h11:k=11
  ·subst h11
   rw [Zkc hb (by decide),hfn 11 rfl]
   by_cases ha:0≤a∧a<p.length
   ·obtain ⟨j,rfl⟩:=Int.eq_ofNat_of_zero_le ha.1
    obtain ⟨oa',cap',he,_,hcell⟩:=hp
    obtain ⟨b',o',cv,rfl,d0,d1,d2,_⟩:=hcell j _ (Zs p j Fn.zero (by omega))
    obtain ⟨⟨rfl,rfl⟩,-⟩:=(by simpa using he:(b=b'∧o=o')∧cap=cap')
    rw [Jp ha.1 ha.2,Int.toNat_natCast,Bool.true_and]
    cases hroom:Qh (p.getD j Fn.zero).args (p.getD j Fn.zero).locals with
    | false=>exact Zqv i j b o p.length cap _ _ cv w hl (by omega) d0 d1 d2 hroom
    | true=>exact Xcj i j b o p.length cap _ _ cv w hl (by omega) d0 d1 d2 hroom
   ·rw [Uh ha,Bool.false_and]
    exact Zxi a i _ p.length cap w hl (Uz (by omega))
  ·by_cases h13:k=13
   ·subst h13
    rw [Zkb hb,hfn 13 rfl]
    by_cases ha:0≤a∧a<p.length
    ·obtain ⟨j,rfl⟩:=Int.eq_ofNat_of_zero_le ha.1
     obtain ⟨oa',cap',he,_,hcell⟩:=hp
     obtain ⟨b',o',cv,rfl,d0,d1,d2,_⟩:=hcell j _ (Zs p j Fn.zero (by omega))
     obtain ⟨⟨rfl,rfl⟩,-⟩:=(by simpa using he:(b=b'∧o=o')∧cap=cap')
     rw [Jp ha.1 ha.2,Int.toNat_natCast,Bool.true_and]
     cases hroom:Qh (p.getD j Fn.zero).args (p.getD j Fn.zero).locals with
     | false=>exact Ztu i j b o p.length cap _ _ cv w hl (by omega) d0 d1 d2 hroom
     | true =>
      by_cases har:(p.getD j Fn.zero).args=1
      ·rw [if_pos rfl,if_neg (by simpa using har)]
       exact Zyf i j b o p.length cap _ _ cv w hl (by omega) d0 d1 d2 hroom (by rw [har];rfl)
      ·rw [if_pos rfl,if_pos ⟨rfl,har⟩]
       exact Xbj i j b o p.length cap _ _ cv w hl (by omega) d0 d1 d2 hroom (by rw [bne_iff_ne];exact har)
    ·rw [Uh ha,Bool.false_and,if_neg (by decide)]
     exact Xbw a i _ p.length cap w hl (Uz (by omega))
   ·rw [Zkc hb h13]
    have e0:∀ k:Nat,opd k=0→Qg p f (opd k) a=inB a 0 0:=by
     intro k hk
     rw [hk,Bool.eq_iff_iff,Zaq]
     simp only [Qg]
     rw [if_pos trivial,decide_eq_true_eq]
     omega
    have e1:Qg p f (opd 0) a=inB a 0 999:=rfl
    have e2:∀ k:Nat,opd k=2→Qg p f (opd k) a=inB a 0 (f.locals - 1):=by
     intro k hk;rw [hk,Zfu];rfl
    have e3:∀ k:Nat,opd k=3→Qg p f (opd k) a=inB a 0 ((f.code.length:Int) - 1):=by
     intro k hk;rw [hk,Zfu];rfl
    rcases Zid hb h11 with rfl | rfl | rfl | rfl | rfl | rfl | rfl | rfl | rfl | rfl | rfl | rfl | rfl | rfl | rfl | rfl
    ·rw [e1]
     cases hm:inB a 0 999 with
     | false=>exact Zwq a i _ w hm
     | true=>exact Zrs a i _ w hm
    ·rw [e0 1 rfl]
     cases hm:inB a 0 0 with
     | false=>exact Zzi a i _ w hm
     | true=>exact Zva a i _ w hm
    ·rw [e2 2 rfl]
     cases hm:inB a 0 (f.locals - 1) with
     | false=>exact Zrz a i b o p.length cap _ w hi (by omega) hr.2.2 c1 hm
     | true=>exact Zwv a i b o p.length cap _ w hi (by omega) hr.2.2 c1 hm
    ·rw [e2 3 rfl]
     cases hm:inB a 0 (f.locals - 1) with
     | false=>exact Zps a i b o p.length cap _ w hi (by omega) hr.2.2 c1 hm
     | true=>exact Xab a i b o p.length cap _ w hi (by omega) hr.2.2 c1 hm
    ·rw [e0 4 rfl]
     cases hm:inB a 0 0 with
     | false=>exact Zvj a i _ w hm
     | true=>exact Zyl a i _ w hm
    ·rw [e0 5 rfl]
     cases hm:inB a 0 0 with
     | false=>exact Xbs a i _ w hm
     | true=>exact Zsx a i _ w hm
    ·rw [e0 6 rfl]
     cases hm:inB a 0 0 with
     | false=>exact Zwy a i _ w hm
     | true=>exact Zrf a i _ w hm
    ·rw [e0 7 rfl]
     cases hm:inB a 0 0 with
     | false=>exact Zsv a i _ w hm
     | true=>exact Zxv a i _ w hm
    ·rw [e0 8 rfl]
     cases hm:inB a 0 0 with
     | false=>exact Zqr a i _ w hm
     | true=>exact Xdr a i _ w hm
    ·rw [e3 9 rfl]
     cases hm:inB a 0 ((f.code.length:Int) - 1) with
     | false=>exact Zxh a i b o p.length cap oc _ cc w hi hcl c2 hm
     | true=>exact Zry a i b o p.length cap oc _ cc w hi hcl c2 hm
    ·rw [e3 10 rfl]
     cases hm:inB a 0 ((f.code.length:Int) - 1) with
     | false=>exact Zzx a i b o p.length cap oc _ cc w hi hcl c2 hm
     | true=>exact Zse a i b o p.length cap oc _ cc w hi hcl c2 hm
    ·rw [e0 12 rfl]
     cases hm:inB a 0 0 with
     | false=>exact Zxq a i _ w hm
     | true=>exact Zxc a i _ w hm
    ·exact absurd rfl h13
    ·rw [e0 14 rfl]
     cases hm:inB a 0 0 with
     | false=>exact Zvn a i _ w hm
     | true=>exact Xaf a i _ w hm
    ·rw [e0 15 rfl]
     cases hm:inB a 0 0 with
     | false=>exact Xci a i _ w hm
     | true=>exact Xac a i _ w hm
    ·rw [e0 16 rfl]
     cases hm:inB a 0 0 with
     | false=>exact Xaq a i _ w hm
     | true=>exact Zyg a i _ w hm
 ·have e:opS p f (kd,a)=4:=by unfold opS;rw [if_neg h]
  rw [e]
  exact Zqj kd a i _ w (Uz (by omega)) (beq_eq_false_iff_ne.2 (by omega)) (beq_eq_false_iff_ne.2 (by omega)) (beq_eq_false_iff_ne.2 (by omega)) (beq_eq_false_iff_ne.2 (by omega)) (beq_eq_false_iff_ne.2 (by omega)) (beq_eq_false_iff_ne.2 (by omega)) (beq_eq_false_iff_ne.2 (by omega))
theorem Zue (f:Int) (oa:Option Addr) (n cap:Nat) (w:World) (hn:n≤8796093022208) (h:inB f 0 ((n:Int) - 1)=false) :
  Calls Tryz.prog 53 #[.slice oa n cap,.int .i64 f] w fun e w'=>e=.returned (.int .i64 5)∧Za w w':=by
 go_enter Tryz.func53,Tryz.ntmps53
 go_wp2_with (go_at_call 30;refine (Xl _ _ _ _).mono ?_;rintro e w' ⟨rfl,rfl⟩)
 go_ret
 exact ⟨rfl,Za.refl _⟩
theorem Zpw (i b o n cap:Nat) (oc:Option Addr) (m cc:Nat) (w:World) (hn:n≤8796093022208) (hi:i<n) (c2:w.cell? ⟨b,o+i*3+2,none⟩=some (.slice oc m cc)) (hm:24<(m:Int)) :
  Calls Tryz.prog 53 #[.slice (some ⟨b,o,none⟩) n cap,.int .i64 i] w fun e w'=>e=.returned (.int .i64 2)∧Za w w':=by
 have h:inB i 0 ((n:Int) - 1)=true:=Yu (by omega) (by omega)
 go_enter Tryz.func53,Tryz.ntmps53
 go_wp2_with (go_at_call 30;refine (Xl _ _ _ _).mono ?_;rintro e w' ⟨rfl,rfl⟩)
 go_ret
 exact ⟨rfl,Za.refl _⟩
theorem Zwe (i b o n cap:Nat) (ar lo:Int) (oc:Option Addr) (m cc:Nat) (w:World) (hn:n≤8796093022208) (hi:i<n) (c0:w.cell? ⟨b,o+i*3,none⟩=some (.int .i64 ar)) (c1:w.cell? ⟨b,o+i*3+1,none⟩=some (.int .i64 lo))
  (c2:w.cell? ⟨b,o+i*3+2,none⟩=some (.slice oc m cc)) (hm:¬ 24<(m:Int)) (hr:Qh ar lo=false) :
  Calls Tryz.prog 53 #[.slice (some ⟨b,o,none⟩) n cap,.int .i64 i] w fun e w'=>e=.returned (.int .i64 3)∧Za w w':=by
 have h:inB i 0 ((n:Int) - 1)=true:=Yu (by omega) (by omega)
 go_enter Tryz.func53,Tryz.ntmps53
 go_wp2_with (first | (go_at_call 30;refine (Xl _ _ _ _).mono ?_;rintro e w' ⟨rfl,rfl⟩) | (go_at_call 83;refine (Zby _ _ _ _).mono ?_;rintro e w' ⟨rfl,rfl⟩))
 go_ret
 exact ⟨rfl,(Za.refl _).alloc _⟩
theorem Zyi (p:List Fn) (f:Fn) (i b o cap:Nat) (oc:Option Addr) (m cc:Nat) (w:World) (hp:Xa w (.slice (some ⟨b,o,none⟩) p.length cap) p) (hi:i<p.length)
  (c0:w.cell? ⟨b,o+i*3,none⟩=some (.int .i64 f.args)) (c1:w.cell? ⟨b,o+i*3+1,none⟩=some (.int .i64 f.locals))
  (c2:w.cell? ⟨b,o+i*3+2,none⟩=some (.slice oc m cc)) (hc:Wc w (.slice oc m cc) f.code) (hml:m=f.code.length) (hm:m≤24) (hr:Qh f.args f.locals=true) :
  Calls Tryz.prog 53 #[.slice (some ⟨b,o,none⟩) p.length cap,.int .i64 i] w fun e w'=>e=.returned (.int .i64 (Ws p f f.code))∧Za w w':=by
 have hl:=hp.lt
 have h:inB i 0 ((p.length:Int) - 1)=true:=Yu (by omega) (by omega)
 have hm':¬ 24<(m:Int):=by omega
 have HP:Hid (Xa w (.slice (some ⟨b,o,none⟩) p.length cap) p):=hp
 have HC:Hid (Wc w (.slice oc m cc) f.code):=hc
 have HL:Hid (m=f.code.length):=hml
 have C1:=Zb c1
 have C2:=Zb c2
 have hr':(!Qh f.args f.locals)=false:=by rw [hr];rfl
 have HR:=Zb hr
 clear hp hc hml hr
 go_enter Tryz.func53,Tryz.ntmps53
 go_wp2_with (first | (go_at_call 30;refine (Xl _ _ _ _).mono ?_;rintro e w' ⟨rfl,rfl⟩) | (go_at_call 83;refine (Zby _ _ _ _).mono ?_;rintro e w' ⟨rfl,rfl⟩))
 clear c0 c1 c2
 go_loopw [5] (fun i wr=>∃ k:Nat,k≤m∧i=.int .i64 k∧Hid (Ws p f (f.code.drop k)=Ws p f f.code)∧Hid (Za w wr)) (fun i _=>m - (intOf i).toNat)
 case atStart=>exact ⟨0,Nat.zero_le _,rfl,rfl,(Za.refl _).alloc _⟩
 case round =>
  obtain ⟨k,hkm,rfl,HO,HKW⟩:=hrel
  have d2:=HKW.out.cell (un C2)
  by_cases hlt:k<m
  ·obtain ⟨x,hx⟩:∃ x,f.code[k]?=some x:=⟨f.code[k]'(by rw [← HL.out];exact hlt),List.getElem?_eq_getElem _⟩
   obtain ⟨oa',cap',he,_,hcell⟩:=HC.out.kept HKW.out
   obtain ⟨b',o',rfl,x0,x1⟩:=hcell k x hx
   obtain ⟨rfl,-,-⟩:=(by simpa using he:oc=some ⟨b',o',none⟩∧m=f.code.length∧cc=cap')
   have HX:Hid (f.code[k]?=some x):=hx
   have hck:=Xcd p i b o cap f (some ⟨b',o',none⟩) cc x.1 x.2 wr (HP.out.kept HKW.out) hi (by have:=HL.out;omega) (HKW.out.cell (un C1)) (by rw [← HL.out];exact d2) (un HR)
   have HCK:=Zb hck
   clear hcell he hx hck
   have hst:=Zmu (p:=p) (f:=f) HX.out
   go_wp2_with fail
   refine (un HCK).mono ?_
   clear HCK
   rintro e w2 ⟨he,hk2⟩
   by_cases hz:opS p f x=0
   ·rw [if_pos hz] at hst
    rw [show opS p f (x.1,x.2)=0 from hz] at he
    subst he
    have HST:=Zb hst
    have HK2:Hid (Za w w2):=HKW.out.trans hk2
    clear hst hz hk2
    go_wp2
    go_roundw
    case rel=>exact ⟨k+1,by omega,by go_num,(un HST).symm.trans HO.out,HK2⟩
    case measure=>simp [intOf];omega
   ·rw [if_neg hz] at hst
    have hz':(opS p f (x.1,x.2) != 0)=true:=by rw [bne_iff_ne];exact hz
    have HST:=Zb hst
    have HK2:Hid (Za w w2):=HKW.out.trans hk2
    clear hst hz hk2
    subst he
    go_wp2
    go_ret
    exact ⟨by rw [← HO.out,un HST];rfl,HK2⟩
  ·have hke:k=f.code.length:=by have:=HL.out;omega
   have HE:=Zb hke
   clear hke
   go_wp2
   go_ret
   refine ⟨?_,HKW.out⟩
   rw [← HO.out,un HE,List.drop_length]
   rfl
theorem Zqt (p:List Fn) (v:Value) (f:Int) (w:World) (hp:Xa w v p) :
  Calls Tryz.prog 53 #[v,.int .i64 f] w fun e w'=>e=.returned (.int .i64 (Xv p f))∧Za w w':=by
 have hp0:=hp
 obtain ⟨oa,cap,rfl,hl,hi⟩:=hp
 unfold Xv
 by_cases h:0≤f∧f<p.length
 ·rw [if_pos h]
  obtain ⟨i,rfl⟩:=Int.eq_ofNat_of_zero_le h.1
  obtain ⟨b,o,cv,rfl,c0,c1,c2,hc⟩:=hi i _ (Zs p i Fn.zero (by omega))
  have hc0:=hc
  obtain ⟨oc,cc,rfl,_,_⟩:=hc
  rw [Int.toNat_natCast]
  generalize p.getD i Fn.zero=g at *
  by_cases hm:24<g.code.length
  ·simp only [if_pos hm]
   exact Zpw i b o p.length cap oc _ cc w hl (by omega) c2 (by omega)
  ·simp only [if_neg hm]
   cases hr:Qh g.args g.locals with
   | false =>
    rw [if_neg (by decide)]
    exact Zwe i b o p.length cap _ _ oc _ cc w hl (by omega) c0 c1 c2 (by omega) hr
   | true =>
    rw [if_pos rfl]
    exact Zyi p g i b o cap oc _ cc w hp0 (by omega) c0 c1 c2 hc0 rfl (by omega) hr
 ·rw [if_neg h]
  exact Zue f oa p.length cap w hl (Uz (by omega))
theorem Zou (p:List Fn) (g:Fn) (v:Value) (x:Int × Int) (ta lb:Int) (u:World) (hp:Xa u v p) (hop:opS p g x=0) (he:Qn p x.1 x.2=(ta,lb,0)) :
  Calls Tryz.prog 85 #[v,.agg #[.int .i64 x.1,.int .i64 x.2]] u fun e u'=>e=.returned (.int .i64 ta)∧u'=u.alloc (.cells #[.int .i64 x.1,.int .i64 x.2] 66):=by
 obtain ⟨kd,a⟩:=x
 obtain ⟨h1,h2,_⟩:=Wm hop
 simp only at h1 h2 he ⊢
 obtain ⟨k,rfl⟩:=Int.eq_ofNat_of_zero_le h1
 by_cases h11:k=11
 ·subst h11
  obtain ⟨a0,a1,_,a3⟩:=Zbf hop rfl
  simp only at a0 a1 a3
  obtain ⟨j,rfl⟩:=Int.eq_ofNat_of_zero_le a0
  rw [show (((11:Nat):Int))=11 from rfl] at he a3
  rw [he] at a3
  obtain ⟨oa,cap,rfl,_,hi⟩:=hp
  obtain ⟨b,o,cv,rfl,c0,_⟩:=hi j _ (Zs p j Fn.zero (by omega))
  have hta:ta=(p.getD j Fn.zero).args:=by
   have:=congrArg Prod.fst a3
   simpa using this
  rw [hta]
  exact Zsd j b o p.length cap _ u (by omega) c0
 ·have hta:ta=tk k:=by
   unfold Qn at he
   rw [if_pos ⟨by omega,by omega⟩,if_neg (by omega)] at he
   have:=congrArg Prod.fst he
   simpa using this.symm
  rw [hta]
  exact Zvt k a v u (by omega) h11
theorem Xde (p:List Fn) (g:Fn) (x:Int × Int) (ta lb:Int) (u:World) (hop:opS p g x=0) (he:Qn p x.1 x.2=(ta,lb,0)) :
  Calls Tryz.prog 86 #[.agg #[.int .i64 x.1,.int .i64 x.2]] u fun e u'=>e=.returned (.int .i64 lb)∧u'=u.alloc (.cells #[.int .i64 x.1,.int .i64 x.2] 66):=by
 obtain ⟨kd,a⟩:=x
 obtain ⟨h1,h2,_⟩:=Wm hop
 simp only at h1 h2 he ⊢
 obtain ⟨k,rfl⟩:=Int.eq_ofNat_of_zero_le h1
 have hlb:lb=lv k:=by
  by_cases h11:k=11
  ·subst h11
   obtain ⟨_,_,_,a3⟩:=Zbf hop rfl
   simp only at a3
   rw [show (((11:Nat):Int))=11 from rfl] at he a3
   rw [he] at a3
   have:=congrArg (fun t=>t.2.1) a3
   exact this
  ·unfold Qn at he
   rw [if_pos ⟨by omega,by omega⟩,if_neg (by omega)] at he
   have:=congrArg (fun t=>t.2.1) he
   simpa using this.symm
 rw [hlb]
 exact Zpz k a u (by omega)
theorem Zyj {p:List Fn} {c:List (Int × Int)} {H:List Int} {k:Nat} (h:Ju p c k H=none):∀ n,k≤n→Ju p c n H=none:=by
 intro n hn
 induction n with
 | zero =>
  obtain rfl:k=0:=by omega
  exact h
 | succ n ih =>
  by_cases e:k=n+1
  ·rw [← e];exact h
  ·simp only [Ju];rw [ih (by omega)];rfl
theorem Zxf {p:List Fn} {c:List (Int × Int)} {H:List Int} {k:Nat} (h:Wv p c k H=none):∀ n,k≤n→Wv p c n H=none:=by
 intro n hn
 induction n with
 | zero =>
  obtain rfl:k=0:=by omega
  exact h
 | succ n ih =>
  by_cases e:k=n+1
  ·rw [← e];exact h
  ·simp only [Wv];rw [ih (by omega)];rfl
theorem Zpj {p:List Fn} {c:List (Int × Int)} {r k:Nat} {Hr Hk:List Int} (h0:c.length≠0) (hr:r≤c.length) (hk:k<c.length) (h1:Wv p c r ((start c).set 0 0)=some Hr) (h2:Ju p c k Hr=some Hk) (h3:Uy p c Hk k=none):Qe p c=none:=by
 unfold Qe
 rw [if_neg h0]
 refine Zxf (k:=r+1) ?_ _ (by omega)
 simp only [Wv,h1,Option.bind_some]
 refine Zyj (k:=k+1) ?_ _ (by omega)
 simp only [Ju,h2,Option.bind_some]
 exact h3
end Go.Proofs.YtblihfpigjiahaaGreatDoor
