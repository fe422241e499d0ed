/- SaveWritesW -/
import Derived.Test.YtblihfpigjiahaaDoorWB22
import Derived.Test.YtblihfpigjiahaaDoorWB43
import Derived.Test.YtblihfpigjiahaaDoorWB42
import Derived.Laws.Strings
set_option maxRecDepth 100000
set_option maxHeartbeats 8000000
namespace Go.Proofs.YtblihfpigjiahaaDoor
open Go.RowKit
def Pg (u:World) (vp:Value) (l:List UInt8) (y:St) (b:Bool):Prop:=Calls Tryd.prog 10 #[vp,.string ⟨l.toArray⟩] u fun e w'=>∃ oa n cap c oo m co,e=.returned (.tuple #[.agg #[.slice oa n cap,.int .i64 c,.slice oo m co],.bool b])∧(∀ W,Zs [3,53,46] w' W→Zy W (.agg #[.slice oa n cap,.int .i64 c,.slice oo m co]) y)∧Zb u w'
theorem Zso (vp:Value) (w:World) (oa oo:Option Addr) (n cap m co:Nat) (c:Int) (t:List UInt8) (l:List UInt8)
  (HW:Hid (∀ u,Zb w u→Calls Tryd.prog 5 #[vp,.agg #[.slice oa n cap,.int .i64 c,.slice oo m co]] u fun e w'=>e=.returned (.tuple #[.string ⟨(t:List UInt8).toArray⟩,.int .i64 0])∧Zb u w'))
  (HE:Hid (∀ u,Zb w u→Calls Tryd.prog 6 #[vp,.agg #[.slice oa n cap,.int .i64 c,.slice oo m co]] u fun e w'=>e=.returned (.int .i64 0)∧Zb u w'))
  (HB:Hid (∀ u,Zb w u→Calls Tryd.prog 7 #[.agg #[.slice oa n cap,.int .i64 c,.slice oo m co]] u fun e w'=>e=.returned (.string ⟨t.toArray⟩)∧Zb u w'))
  (HR:Hid (∀ u,Zb w u→Jc 8 #[vp,.string ⟨l.toArray⟩] u St.zero [.int .i64 2]))
  (HP:Hid (∀ u,Zb w u→Calls Tryd.prog 9 #[vp] u fun e w'=>e=.returned (.int .i64 0)∧Zb u w'))
  (HSB:Hid (∀ u,Zb w u→Calls Tryd.prog 11 #[] u fun e w'=>e=.returned (.bool true)∧Zb u w'))
  (HSS:Hid (∀ u v1 v2,Zy u v1 St.zero→Zy u v2 St.zero→Calls Tryd.prog 12 #[v1,v2] u fun e w'=>e=.returned (.bool true)∧Zb u w'))
  (hl:8192<l.length)
  : Calls Tryd.prog 3 #[vp,.agg #[.slice oa n cap,.int .i64 c,.slice oo m co],.string ⟨l.toArray⟩] w fun e w'=>e=.returned (.bool true)∧Zb w w':=by
 have hsz:(ByteArray.mk l.toArray).size=l.length:=by simp [ByteArray.size]
 unfold Jc at HR
 generalize (ByteArray.mk t.toArray)=T at *
 generalize l.length=N at *
 generalize (ByteArray.mk l.toArray)=L at *
 go_enter Tryd.func3,Tryd.ntmps3
 go_wp2_with fail
 obtain ⟨k9,l9⟩:=Jm (Zb.refl w) #[.slice oa n cap,.int .i64 c,.slice oo m co] 26
 generalize w.alloc (.cells #[.slice oa n cap,.int .i64 c,.slice oo m co] 26)=w1 at *
 generalize w.heap.size=B0 at *
 have HK:=Za k9
 have HL:=Za l9
 clear k9 l9
 refine ((un HW) _ (un HK)).mono ?_
 rintro _ w2 ⟨rfl,hk⟩
 replace HK:=Za ((un HK).trans hk)
 replace HL:=Za (Zm hk (un HL))
 clear hk HW
 have a0:=Zd (un HL) 0
 have a1:=Zd (un HL) 1
 have a2:=Zd (un HL) 2
 go_wp2_with fail
 refine ((un HE) _ (un HK)).mono ?_
 rintro _ w3 ⟨rfl,hk⟩
 replace HK:=Za ((un HK).trans hk)
 replace HL:=Za (Zm hk (un HL))
 clear hk HE a0 a1 a2
 have a0:=Zd (un HL) 0
 have a1:=Zd (un HL) 1
 have a2:=Zd (un HL) 2
 go_wp2_with fail
 refine ((un HB) _ (un HK)).mono ?_
 rintro _ w4 ⟨rfl,hk⟩
 replace HK:=Za ((un HK).trans hk)
 clear hk HB HL a0 a1 a2
 go_wp2_with fail
 refine ((un HR) _ (un HK)).mono ?_
 rintro _ x1 ⟨o1,n1,c1,z1,q1,m1,d1,rfl,h1,hk⟩
 replace HK:=Za ((un HK).trans hk)
 have H1:=Za h1
 clear hk h1 HR
 go_wp2_with fail
 obtain ⟨k9,l9⟩:=Jm (Zb.refl x1) #[.slice o1 n1 c1,.int .i64 z1,.slice q1 m1 d1] 26
 generalize x1.alloc (.cells #[.slice o1 n1 c1,.int .i64 z1,.slice q1 m1 d1] 26)=x2 at *
 generalize x1.heap.size=B1 at *
 replace HK:=Za ((un HK).trans k9)
 replace H1:=Za ((un H1).kept k9)
 have L1:=Za l9
 clear k9 l9
 refine ((un HP) _ (un HK)).mono ?_
 rintro _ x3 ⟨rfl,hk⟩
 replace HK:=Za ((un HK).trans hk)
 replace H1:=Za ((un H1).kept hk)
 replace L1:=Za (Zm hk (un L1))
 clear hk HP
 have h8:(8192:Int)<(N:Int):=by omega
 go_wp2_with fail
 obtain ⟨k9,l9⟩:=Jm (Zb.refl x3) #[.slice none 0 0,.int .i64 0,.slice none 0 0] 26
 generalize x3.alloc (.cells #[.slice none 0 0,.int .i64 0,.slice none 0 0] 26)=x4 at *
 generalize hb2:x3.heap.size=B2 at *
 clear hb2
 replace HK:=Za ((un HK).trans k9)
 replace H1:=Za ((un H1).kept k9)
 replace L1:=Za (Zm k9 (un L1))
 have L2:=Za l9
 clear k9 l9
 refine ((un HSB) _ (un HK)).mono ?_
 rintro _ x6 ⟨rfl,hk⟩
 replace HK:=Za ((un HK).trans hk)
 replace H1:=Za ((un H1).kept hk)
 replace L1:=Za (Zm hk (un L1))
 replace L2:=Za (Zm hk (un L2))
 clear hk HSB
 have a0:=Zd (un L1) 0
 have a1:=Zd (un L1) 1
 have a2:=Zd (un L1) 2
 have b0:=Zd (un L2) 0
 have b1:=Zd (un L2) 1
 have b2:=Zd (un L2) 2
 go_wp2_with fail
 refine ((un HSS) _ _ _ (un H1) (Ps _)).mono ?_
 rintro _ x7 ⟨rfl,hk⟩
 replace HK:=Za ((un HK).trans hk)
 clear hk HSS a0 a1 a2 b0 b1 b2 H1 L1 L2
 go_wp2
 go_ret
 exact ⟨rfl,un HK⟩
theorem Zoq (vp:Value) (w:World) (oa oo:Option Addr) (n cap m co:Nat) (c:Int) (t:List UInt8) (l:List UInt8) (y:St)
  (HW:Hid (∀ u,Zb w u→Calls Tryd.prog 5 #[vp,.agg #[.slice oa n cap,.int .i64 c,.slice oo m co]] u fun e w'=>e=.returned (.tuple #[.string ⟨(t:List UInt8).toArray⟩,.int .i64 0])∧Zb u w'))
  (HE:Hid (∀ u,Zb w u→Calls Tryd.prog 6 #[vp,.agg #[.slice oa n cap,.int .i64 c,.slice oo m co]] u fun e w'=>e=.returned (.int .i64 0)∧Zb u w'))
  (HB:Hid (∀ u,Zb w u→Calls Tryd.prog 7 #[.agg #[.slice oa n cap,.int .i64 c,.slice oo m co]] u fun e w'=>e=.returned (.string ⟨t.toArray⟩)∧Zb u w'))
  (HR:Hid (∀ u,Zb w u→Jc 8 #[vp,.string ⟨l.toArray⟩] u y [.int .i64 0]))
  (HP:Hid (∀ u,Zb w u→Calls Tryd.prog 9 #[vp] u fun e w'=>e=.returned (.int .i64 0)∧Zb u w'))
  (HF:Hid (∀ u,Zb w u→Pg u vp l y true))
  (HSB:Hid (∀ u,Zb w u→Calls Tryd.prog 11 #[] u fun e w'=>e=.returned (.bool true)∧Zb u w'))
  (HSS:Hid (∀ u v1 v2,Zy u v1 y→Zy u v2 y→Calls Tryd.prog 12 #[v1,v2] u fun e w'=>e=.returned (.bool true)∧Zb u w'))
  (hl:l.length≤8192)
  : Calls Tryd.prog 3 #[vp,.agg #[.slice oa n cap,.int .i64 c,.slice oo m co],.string ⟨l.toArray⟩] w fun e w'=>e=.returned (.bool true)∧Zb w w':=by
 have hsz:(ByteArray.mk l.toArray).size=l.length:=by simp [ByteArray.size]
 unfold Jc at HR
 unfold Pg at HF
 generalize (ByteArray.mk t.toArray)=T at *
 generalize l.length=N at *
 generalize (ByteArray.mk l.toArray)=L at *
 go_enter Tryd.func3,Tryd.ntmps3
 go_wp2_with fail
 obtain ⟨k9,l9⟩:=Jm (Zb.refl w) #[.slice oa n cap,.int .i64 c,.slice oo m co] 26
 generalize w.alloc (.cells #[.slice oa n cap,.int .i64 c,.slice oo m co] 26)=w1 at *
 generalize w.heap.size=B0 at *
 have HK:=Za k9
 have HL:=Za l9
 clear k9 l9
 refine ((un HW) _ (un HK)).mono ?_
 rintro _ w2 ⟨rfl,hk⟩
 replace HK:=Za ((un HK).trans hk)
 replace HL:=Za (Zm hk (un HL))
 clear hk HW
 have a0:=Zd (un HL) 0
 have a1:=Zd (un HL) 1
 have a2:=Zd (un HL) 2
 go_wp2_with fail
 refine ((un HE) _ (un HK)).mono ?_
 rintro _ w3 ⟨rfl,hk⟩
 replace HK:=Za ((un HK).trans hk)
 replace HL:=Za (Zm hk (un HL))
 clear hk HE a0 a1 a2
 have a0:=Zd (un HL) 0
 have a1:=Zd (un HL) 1
 have a2:=Zd (un HL) 2
 go_wp2_with fail
 refine ((un HB) _ (un HK)).mono ?_
 rintro _ w4 ⟨rfl,hk⟩
 replace HK:=Za ((un HK).trans hk)
 clear hk HB HL a0 a1 a2
 go_wp2_with fail
 refine ((un HR) _ (un HK)).mono ?_
 rintro _ x1 ⟨o1,n1,c1,z1,q1,m1,d1,rfl,h1,hk⟩
 replace HK:=Za ((un HK).trans hk)
 have H1:=Za h1
 clear hk h1 HR
 go_wp2_with fail
 obtain ⟨k9,l9⟩:=Jm (Zb.refl x1) #[.slice o1 n1 c1,.int .i64 z1,.slice q1 m1 d1] 26
 generalize x1.alloc (.cells #[.slice o1 n1 c1,.int .i64 z1,.slice q1 m1 d1] 26)=x2 at *
 generalize x1.heap.size=B1 at *
 replace HK:=Za ((un HK).trans k9)
 replace H1:=Za ((un H1).kept k9)
 have L1:=Za l9
 clear k9 l9
 have HL1:Hid (B1<x2.heap.size):=Za (Array.getElem?_eq_some_iff.1 (un L1)).1
 refine ((un HP) _ (un HK)).mono ?_
 rintro _ x3 ⟨rfl,hk⟩
 replace HK:=Za ((un HK).trans hk)
 replace H1:=Za ((un H1).kept hk)
 replace L1:=Za (Zm hk (un L1))
 have HNE:Hid (B1≠x3.heap.size):=Za (by have h1:=un HL1;have h2:=hk.size;omega)
 clear hk HP HL1
 have h8:¬ (8192:Int)<(N:Int):=by omega
 go_wp2_with fail
 obtain ⟨k9,l9⟩:=Jm (Zb.refl x3) #[.slice none 0 0,.int .i64 0,.slice none 0 0] 26
 have HB2:Hid (w.heap.size≤x3.heap.size):=Za (un HK).size
 have K3:=Za k9
 generalize x3.alloc (.cells #[.slice none 0 0,.int .i64 0,.slice none 0 0] 26)=x4 at *
 generalize hb2:x3.heap.size=B2 at *
 have HB3:Hid (x3.heap.size≤B2):=Za (Nat.le_of_eq hb2)
 clear hb2
 replace HK:=Za ((un HK).trans k9)
 replace L1:=Za (Zm k9 (un L1))
 have L2:=Za l9
 clear k9 l9
 refine ((un HF) _ (un HK)).mono ?_
 rintro _ x5 ⟨o2,n2,c2,z2,q2,m2,d2,rfl,h2,hk⟩
 replace HK:=Za ((un HK).trans hk)
 replace L1:=Za (Zm hk (un L1))
 replace L2:=Za (Zm hk (un L2))
 replace K3:=Za ((un K3).trans hk)
 have H2:=Za h2
 clear hk h2 HF
 have b0:=Zd (un L2) 0
 have b1:=Zd (un L2) 1
 have b2:=Zd (un L2) 2
 have f0:=Zk (un L2) 0
 have f1:=Zk (un L2) 1
 have f2:=Zk (un L2) 2
 have j0:=un L2
 have j1:=Zl j0 0 (.slice o2 n2 c2)
 have j2:=Zl j1 1 (.int .i64 z2)
 have j3:=Zl j2 2 (.slice q2 m2 d2)
 simp only [Array.setIfInBounds,List.size_toArray,List.length_cons,List.length_nil] at j3
 have st:=((Zs.set (ts:=[3,53,46]) j0 (by decide) 0 (.slice o2 n2 c2)).trans (Zs.set j1 (by decide) 1 (.int .i64 z2))).trans (Zs.set j2 (by decide) 2 (.slice q2 m2 d2))
 have kx:=((((un K3).setCell (p:=⟨B2,0,none⟩) (un HB3) (.slice o2 n2 c2)).setCell (p:=⟨B2,1,none⟩) (un HB3) (.int .i64 z2)).setCell (p:=⟨B2,2,none⟩) (un HB3) (.slice q2 m2 d2))
 have ky:=((((un HK).setCell (p:=⟨B2,0,none⟩) (un HB2) (.slice o2 n2 c2)).setCell (p:=⟨B2,1,none⟩) (un HB2) (.int .i64 z2)).setCell (p:=⟨B2,2,none⟩) (un HB2) (.slice q2 m2 d2))
 have HN1:=Za ((un H1).kept kx)
 have HN2:=Za ((un H2) _ st)
 have LN2:=Za j3
 have LN1:=Za (Zz (a:=⟨B2,2,none⟩) (Zz (a:=⟨B2,1,none⟩) (Zz (a:=⟨B2,0,none⟩) (un L1) (un HNE) (.slice o2 n2 c2)) (un HNE) (.int .i64 z2)) (un HNE) (.slice q2 m2 d2))
 have HKN:=Za ky
 clear j0 j1 j2 j3 st kx ky L1 L2 H1 H2 HK K3
 go_wp2_with fail
 generalize (((x5.setCell ⟨B2,0,none⟩ (.slice o2 n2 c2)).setCell ⟨B2,1,none⟩ (.int .i64 z2)).setCell ⟨B2,2,none⟩ (.slice q2 m2 d2))=x6 at *
 clear b0 b1 b2 f0 f1 f2
 refine ((un HSB) _ (un HKN)).mono ?_
 rintro _ x7 ⟨rfl,hk⟩
 replace HKN:=Za ((un HKN).trans hk)
 replace HN1:=Za ((un HN1).kept hk)
 replace HN2:=Za ((un HN2).kept hk)
 replace LN1:=Za (Zm hk (un LN1))
 replace LN2:=Za (Zm hk (un LN2))
 clear hk HSB
 have a0:=Zd (un LN1) 0
 have a1:=Zd (un LN1) 1
 have a2:=Zd (un LN1) 2
 have b0:=Zd (un LN2) 0
 have b1:=Zd (un LN2) 1
 have b2:=Zd (un LN2) 2
 simp only [List.getElem?_toArray,List.getElem?_cons_zero,List.getElem?_cons_succ] at a0 a1 a2 b0 b1 b2
 go_wp2_with fail
 refine ((un HSS) _ _ _ (un HN1) (un HN2)).mono ?_
 rintro _ x8 ⟨rfl,hk⟩
 replace HKN:=Za ((un HKN).trans hk)
 clear hk HSS a0 a1 a2 b0 b1 b2 HN1 HN2 LN1 LN2
 go_wp2
 go_ret
 exact ⟨rfl,un HKN⟩
theorem Zuf (vp:Value) (w:World) (oa oo:Option Addr) (n cap m co:Nat) (c:Int) (t:List UInt8) (l:List UInt8) (y:St)
  (HW:Hid (∀ u,Zb w u→Calls Tryd.prog 5 #[vp,.agg #[.slice oa n cap,.int .i64 c,.slice oo m co]] u fun e w'=>e=.returned (.tuple #[.string ⟨(t:List UInt8).toArray⟩,.int .i64 0])∧Zb u w'))
  (HE:Hid (∀ u,Zb w u→Calls Tryd.prog 6 #[vp,.agg #[.slice oa n cap,.int .i64 c,.slice oo m co]] u fun e w'=>e=.returned (.int .i64 0)∧Zb u w'))
  (HB:Hid (∀ u,Zb w u→Calls Tryd.prog 7 #[.agg #[.slice oa n cap,.int .i64 c,.slice oo m co]] u fun e w'=>e=.returned (.string ⟨t.toArray⟩)∧Zb u w'))
  (HR:Hid (∀ u,Zb w u→Jc 8 #[vp,.string ⟨l.toArray⟩] u y [.int .i64 1]))
  (HP:Hid (∀ u,Zb w u→Calls Tryd.prog 9 #[vp] u fun e w'=>e=.returned (.int .i64 0)∧Zb u w'))
  (HF:Hid (∀ u,Zb w u→Pg u vp l y false))
  (HSB:Hid (∀ u,Zb w u→Calls Tryd.prog 11 #[] u fun e w'=>e=.returned (.bool true)∧Zb u w'))
  (HSS:Hid (∀ u v1 v2,Zy u v1 y→Zy u v2 y→Calls Tryd.prog 12 #[v1,v2] u fun e w'=>e=.returned (.bool true)∧Zb u w'))
  (hl:l.length≤8192)
  : Calls Tryd.prog 3 #[vp,.agg #[.slice oa n cap,.int .i64 c,.slice oo m co],.string ⟨l.toArray⟩] w fun e w'=>e=.returned (.bool true)∧Zb w w':=by
 have hsz:(ByteArray.mk l.toArray).size=l.length:=by simp [ByteArray.size]
 unfold Jc at HR
 unfold Pg at HF
 generalize (ByteArray.mk t.toArray)=T at *
 generalize l.length=N at *
 generalize (ByteArray.mk l.toArray)=L at *
 go_enter Tryd.func3,Tryd.ntmps3
 go_wp2_with fail
 obtain ⟨k9,l9⟩:=Jm (Zb.refl w) #[.slice oa n cap,.int .i64 c,.slice oo m co] 26
 generalize w.alloc (.cells #[.slice oa n cap,.int .i64 c,.slice oo m co] 26)=w1 at *
 generalize w.heap.size=B0 at *
 have HK:=Za k9
 have HL:=Za l9
 clear k9 l9
 refine ((un HW) _ (un HK)).mono ?_
 rintro _ w2 ⟨rfl,hk⟩
 replace HK:=Za ((un HK).trans hk)
 replace HL:=Za (Zm hk (un HL))
 clear hk HW
 have a0:=Zd (un HL) 0
 have a1:=Zd (un HL) 1
 have a2:=Zd (un HL) 2
 go_wp2_with fail
 refine ((un HE) _ (un HK)).mono ?_
 rintro _ w3 ⟨rfl,hk⟩
 replace HK:=Za ((un HK).trans hk)
 replace HL:=Za (Zm hk (un HL))
 clear hk HE a0 a1 a2
 have a0:=Zd (un HL) 0
 have a1:=Zd (un HL) 1
 have a2:=Zd (un HL) 2
 go_wp2_with fail
 refine ((un HB) _ (un HK)).mono ?_
 rintro _ w4 ⟨rfl,hk⟩
 replace HK:=Za ((un HK).trans hk)
 clear hk HB HL a0 a1 a2
 go_wp2_with fail
 refine ((un HR) _ (un HK)).mono ?_
 rintro _ x1 ⟨o1,n1,c1,z1,q1,m1,d1,rfl,h1,hk⟩
 replace HK:=Za ((un HK).trans hk)
 have H1:=Za h1
 clear hk h1 HR
 go_wp2_with fail
 obtain ⟨k9,l9⟩:=Jm (Zb.refl x1) #[.slice o1 n1 c1,.int .i64 z1,.slice q1 m1 d1] 26
 generalize x1.alloc (.cells #[.slice o1 n1 c1,.int .i64 z1,.slice q1 m1 d1] 26)=x2 at *
 generalize x1.heap.size=B1 at *
 replace HK:=Za ((un HK).trans k9)
 replace H1:=Za ((un H1).kept k9)
 have L1:=Za l9
 clear k9 l9
 have HL1:Hid (B1<x2.heap.size):=Za (Array.getElem?_eq_some_iff.1 (un L1)).1
 refine ((un HP) _ (un HK)).mono ?_
 rintro _ x3 ⟨rfl,hk⟩
 replace HK:=Za ((un HK).trans hk)
 replace H1:=Za ((un H1).kept hk)
 replace L1:=Za (Zm hk (un L1))
 have HNE:Hid (B1≠x3.heap.size):=Za (by have h1:=un HL1;have h2:=hk.size;omega)
 clear hk HP HL1
 have h8:¬ (8192:Int)<(N:Int):=by omega
 go_wp2_with fail
 obtain ⟨k9,l9⟩:=Jm (Zb.refl x3) #[.slice none 0 0,.int .i64 0,.slice none 0 0] 26
 have HB2:Hid (w.heap.size≤x3.heap.size):=Za (un HK).size
 have K3:=Za k9
 generalize x3.alloc (.cells #[.slice none 0 0,.int .i64 0,.slice none 0 0] 26)=x4 at *
 generalize hb2:x3.heap.size=B2 at *
 have HB3:Hid (x3.heap.size≤B2):=Za (Nat.le_of_eq hb2)
 clear hb2
 replace HK:=Za ((un HK).trans k9)
 replace L1:=Za (Zm k9 (un L1))
 have L2:=Za l9
 clear k9 l9
 refine ((un HF) _ (un HK)).mono ?_
 rintro _ x5 ⟨o2,n2,c2,z2,q2,m2,d2,rfl,h2,hk⟩
 replace HK:=Za ((un HK).trans hk)
 replace L1:=Za (Zm hk (un L1))
 replace L2:=Za (Zm hk (un L2))
 replace K3:=Za ((un K3).trans hk)
 have H2:=Za h2
 clear hk h2 HF
 have b0:=Zd (un L2) 0
 have b1:=Zd (un L2) 1
 have b2:=Zd (un L2) 2
 have f0:=Zk (un L2) 0
 have f1:=Zk (un L2) 1
 have f2:=Zk (un L2) 2
 have j0:=un L2
 have j1:=Zl j0 0 (.slice o2 n2 c2)
 have j2:=Zl j1 1 (.int .i64 z2)
 have j3:=Zl j2 2 (.slice q2 m2 d2)
 simp only [Array.setIfInBounds,List.size_toArray,List.length_cons,List.length_nil] at j3
 have st:=((Zs.set (ts:=[3,53,46]) j0 (by decide) 0 (.slice o2 n2 c2)).trans (Zs.set j1 (by decide) 1 (.int .i64 z2))).trans (Zs.set j2 (by decide) 2 (.slice q2 m2 d2))
 have kx:=((((un K3).setCell (p:=⟨B2,0,none⟩) (un HB3) (.slice o2 n2 c2)).setCell (p:=⟨B2,1,none⟩) (un HB3) (.int .i64 z2)).setCell (p:=⟨B2,2,none⟩) (un HB3) (.slice q2 m2 d2))
 have ky:=((((un HK).setCell (p:=⟨B2,0,none⟩) (un HB2) (.slice o2 n2 c2)).setCell (p:=⟨B2,1,none⟩) (un HB2) (.int .i64 z2)).setCell (p:=⟨B2,2,none⟩) (un HB2) (.slice q2 m2 d2))
 have HN1:=Za ((un H1).kept kx)
 have HN2:=Za ((un H2) _ st)
 have LN2:=Za j3
 have LN1:=Za (Zz (a:=⟨B2,2,none⟩) (Zz (a:=⟨B2,1,none⟩) (Zz (a:=⟨B2,0,none⟩) (un L1) (un HNE) (.slice o2 n2 c2)) (un HNE) (.int .i64 z2)) (un HNE) (.slice q2 m2 d2))
 have HKN:=Za ky
 clear j0 j1 j2 j3 st kx ky L1 L2 H1 H2 HK K3
 go_wp2_with fail
 generalize (((x5.setCell ⟨B2,0,none⟩ (.slice o2 n2 c2)).setCell ⟨B2,1,none⟩ (.int .i64 z2)).setCell ⟨B2,2,none⟩ (.slice q2 m2 d2))=x6 at *
 clear b0 b1 b2 f0 f1 f2
 refine ((un HSB) _ (un HKN)).mono ?_
 rintro _ x7 ⟨rfl,hk⟩
 replace HKN:=Za ((un HKN).trans hk)
 replace HN1:=Za ((un HN1).kept hk)
 replace HN2:=Za ((un HN2).kept hk)
 replace LN1:=Za (Zm hk (un LN1))
 replace LN2:=Za (Zm hk (un LN2))
 clear hk HSB
 have a0:=Zd (un LN1) 0
 have a1:=Zd (un LN1) 1
 have a2:=Zd (un LN1) 2
 have b0:=Zd (un LN2) 0
 have b1:=Zd (un LN2) 1
 have b2:=Zd (un LN2) 2
 simp only [List.getElem?_toArray,List.getElem?_cons_zero,List.getElem?_cons_succ] at a0 a1 a2 b0 b1 b2
 go_wp2_with fail
 refine ((un HSS) _ _ _ (un HN1) (un HN2)).mono ?_
 rintro _ x8 ⟨rfl,hk⟩
 replace HKN:=Za ((un HKN).trans hk)
 clear hk HSS a0 a1 a2 b0 b1 b2 HN1 HN2 LN1 LN2
 go_wp2
 go_ret
 exact ⟨rfl,un HKN⟩
theorem Zpi (vp:Value) (w:World) (oa oo:Option Addr) (n cap m co:Nat) (c:Int) (er:Int) (v0:Int) (l:List UInt8)
  (HW:Hid (∀ u,Zb w u→Calls Tryd.prog 5 #[vp,.agg #[.slice oa n cap,.int .i64 c,.slice oo m co]] u fun e w'=>e=.returned (.tuple #[.string ⟨([]:List UInt8).toArray⟩,.int .i64 er])∧Zb u w'))
  (HE:Hid (∀ u,Zb w u→Calls Tryd.prog 6 #[vp,.agg #[.slice oa n cap,.int .i64 c,.slice oo m co]] u fun e w'=>e=.returned (.int .i64 er)∧Zb u w'))
  (HR:Hid (∀ u,Zb w u→Jc 8 #[vp,.string ⟨l.toArray⟩] u St.zero [.int .i64 v0]))
  (HP:Hid (∀ u,Zb w u→Calls Tryd.prog 9 #[vp] u fun e w'=>e=.returned (.int .i64 v0)∧Zb u w'))
  (HSB:Hid (∀ u,Zb w u→Calls Tryd.prog 11 #[] u fun e w'=>e=.returned (.bool true)∧Zb u w'))
  (HSS:Hid (∀ u v1 v2,Zy u v1 St.zero→Zy u v2 St.zero→Calls Tryd.prog 12 #[v1,v2] u fun e w'=>e=.returned (.bool true)∧Zb u w'))
  (he:er≠0)
  (hv:v0≠0)
  : Calls Tryd.prog 3 #[vp,.agg #[.slice oa n cap,.int .i64 c,.slice oo m co],.string ⟨l.toArray⟩] w fun e w'=>e=.returned (.bool true)∧Zb w w':=by
 have hsz:(ByteArray.mk l.toArray).size=l.length:=by simp [ByteArray.size]
 unfold Jc at HR
 generalize l.length=N at *
 generalize (ByteArray.mk l.toArray)=L at *
 go_enter Tryd.func3,Tryd.ntmps3
 go_wp2_with fail
 obtain ⟨k9,l9⟩:=Jm (Zb.refl w) #[.slice oa n cap,.int .i64 c,.slice oo m co] 26
 generalize w.alloc (.cells #[.slice oa n cap,.int .i64 c,.slice oo m co] 26)=w1 at *
 generalize w.heap.size=B0 at *
 have HK:=Za k9
 have HL:=Za l9
 clear k9 l9
 refine ((un HW) _ (un HK)).mono ?_
 rintro _ w2 ⟨rfl,hk⟩
 replace HK:=Za ((un HK).trans hk)
 replace HL:=Za (Zm hk (un HL))
 clear hk HW
 have a0:=Zd (un HL) 0
 have a1:=Zd (un HL) 1
 have a2:=Zd (un HL) 2
 go_wp2_with fail
 refine ((un HE) _ (un HK)).mono ?_
 rintro _ w3 ⟨rfl,hk⟩
 replace HK:=Za ((un HK).trans hk)
 replace HL:=Za (Zm hk (un HL))
 clear hk HE a0 a1 a2
 have a0:=Zd (un HL) 0
 have a1:=Zd (un HL) 1
 have a2:=Zd (un HL) 2
 go_wp2_with fail
 clear HL a0 a1 a2
 refine ((un HR) _ (un HK)).mono ?_
 rintro _ x1 ⟨o1,n1,c1,z1,q1,m1,d1,rfl,h1,hk⟩
 replace HK:=Za ((un HK).trans hk)
 have H1:=Za h1
 clear hk h1 HR
 go_wp2_with fail
 obtain ⟨k9,l9⟩:=Jm (Zb.refl x1) #[.slice o1 n1 c1,.int .i64 z1,.slice q1 m1 d1] 26
 generalize x1.alloc (.cells #[.slice o1 n1 c1,.int .i64 z1,.slice q1 m1 d1] 26)=x2 at *
 generalize x1.heap.size=B1 at *
 replace HK:=Za ((un HK).trans k9)
 replace H1:=Za ((un H1).kept k9)
 have L1:=Za l9
 clear k9 l9
 refine ((un HP) _ (un HK)).mono ?_
 rintro _ x3 ⟨rfl,hk⟩
 replace HK:=Za ((un HK).trans hk)
 replace H1:=Za ((un H1).kept hk)
 replace L1:=Za (Zm hk (un L1))
 clear hk HP
 go_wp2_with fail
 obtain ⟨k9,l9⟩:=Jm (Zb.refl x3) #[.slice none 0 0,.int .i64 0,.slice none 0 0] 26
 generalize x3.alloc (.cells #[.slice none 0 0,.int .i64 0,.slice none 0 0] 26)=x4 at *
 generalize hb2:x3.heap.size=B2 at *
 clear hb2
 replace HK:=Za ((un HK).trans k9)
 replace H1:=Za ((un H1).kept k9)
 replace L1:=Za (Zm k9 (un L1))
 have L2:=Za l9
 clear k9 l9
 refine ((un HSB) _ (un HK)).mono ?_
 rintro _ x6 ⟨rfl,hk⟩
 replace HK:=Za ((un HK).trans hk)
 replace H1:=Za ((un H1).kept hk)
 replace L1:=Za (Zm hk (un L1))
 replace L2:=Za (Zm hk (un L2))
 clear hk HSB
 have a0:=Zd (un L1) 0
 have a1:=Zd (un L1) 1
 have a2:=Zd (un L1) 2
 have b0:=Zd (un L2) 0
 have b1:=Zd (un L2) 1
 have b2:=Zd (un L2) 2
 go_wp2_with fail
 refine ((un HSS) _ _ _ (un H1) (Ps _)).mono ?_
 rintro _ x7 ⟨rfl,hk⟩
 replace HK:=Za ((un HK).trans hk)
 clear hk HSS a0 a1 a2 b0 b1 b2 H1 L1 L2
 go_wp2
 go_ret
 exact ⟨rfl,un HK⟩
theorem Zzd (vp:Value) (w:World) (oa oo:Option Addr) (n cap m co:Nat) (c:Int) (er:Int) (l:List UInt8)
  (HW:Hid (∀ u,Zb w u→Calls Tryd.prog 5 #[vp,.agg #[.slice oa n cap,.int .i64 c,.slice oo m co]] u fun e w'=>e=.returned (.tuple #[.string ⟨([]:List UInt8).toArray⟩,.int .i64 er])∧Zb u w'))
  (HE:Hid (∀ u,Zb w u→Calls Tryd.prog 6 #[vp,.agg #[.slice oa n cap,.int .i64 c,.slice oo m co]] u fun e w'=>e=.returned (.int .i64 er)∧Zb u w'))
  (HR:Hid (∀ u,Zb w u→Jc 8 #[vp,.string ⟨l.toArray⟩] u St.zero [.int .i64 2]))
  (HP:Hid (∀ u,Zb w u→Calls Tryd.prog 9 #[vp] u fun e w'=>e=.returned (.int .i64 0)∧Zb u w'))
  (HSB:Hid (∀ u,Zb w u→Calls Tryd.prog 11 #[] u fun e w'=>e=.returned (.bool true)∧Zb u w'))
  (HSS:Hid (∀ u v1 v2,Zy u v1 St.zero→Zy u v2 St.zero→Calls Tryd.prog 12 #[v1,v2] u fun e w'=>e=.returned (.bool true)∧Zb u w'))
  (he:er≠0)
  (hl:8192<l.length)
  : Calls Tryd.prog 3 #[vp,.agg #[.slice oa n cap,.int .i64 c,.slice oo m co],.string ⟨l.toArray⟩] w fun e w'=>e=.returned (.bool true)∧Zb w w':=by
 have hsz:(ByteArray.mk l.toArray).size=l.length:=by simp [ByteArray.size]
 unfold Jc at HR
 generalize l.length=N at *
 generalize (ByteArray.mk l.toArray)=L at *
 go_enter Tryd.func3,Tryd.ntmps3
 go_wp2_with fail
 obtain ⟨k9,l9⟩:=Jm (Zb.refl w) #[.slice oa n cap,.int .i64 c,.slice oo m co] 26
 generalize w.alloc (.cells #[.slice oa n cap,.int .i64 c,.slice oo m co] 26)=w1 at *
 generalize w.heap.size=B0 at *
 have HK:=Za k9
 have HL:=Za l9
 clear k9 l9
 refine ((un HW) _ (un HK)).mono ?_
 rintro _ w2 ⟨rfl,hk⟩
 replace HK:=Za ((un HK).trans hk)
 replace HL:=Za (Zm hk (un HL))
 clear hk HW
 have a0:=Zd (un HL) 0
 have a1:=Zd (un HL) 1
 have a2:=Zd (un HL) 2
 go_wp2_with fail
 refine ((un HE) _ (un HK)).mono ?_
 rintro _ w3 ⟨rfl,hk⟩
 replace HK:=Za ((un HK).trans hk)
 replace HL:=Za (Zm hk (un HL))
 clear hk HE a0 a1 a2
 have a0:=Zd (un HL) 0
 have a1:=Zd (un HL) 1
 have a2:=Zd (un HL) 2
 go_wp2_with fail
 clear HL a0 a1 a2
 refine ((un HR) _ (un HK)).mono ?_
 rintro _ x1 ⟨o1,n1,c1,z1,q1,m1,d1,rfl,h1,hk⟩
 replace HK:=Za ((un HK).trans hk)
 have H1:=Za h1
 clear hk h1 HR
 go_wp2_with fail
 obtain ⟨k9,l9⟩:=Jm (Zb.refl x1) #[.slice o1 n1 c1,.int .i64 z1,.slice q1 m1 d1] 26
 generalize x1.alloc (.cells #[.slice o1 n1 c1,.int .i64 z1,.slice q1 m1 d1] 26)=x2 at *
 generalize x1.heap.size=B1 at *
 replace HK:=Za ((un HK).trans k9)
 replace H1:=Za ((un H1).kept k9)
 have L1:=Za l9
 clear k9 l9
 refine ((un HP) _ (un HK)).mono ?_
 rintro _ x3 ⟨rfl,hk⟩
 replace HK:=Za ((un HK).trans hk)
 replace H1:=Za ((un H1).kept hk)
 replace L1:=Za (Zm hk (un L1))
 clear hk HP
 have h8:(8192:Int)<(N:Int):=by omega
 go_wp2_with fail
 obtain ⟨k9,l9⟩:=Jm (Zb.refl x3) #[.slice none 0 0,.int .i64 0,.slice none 0 0] 26
 generalize x3.alloc (.cells #[.slice none 0 0,.int .i64 0,.slice none 0 0] 26)=x4 at *
 generalize hb2:x3.heap.size=B2 at *
 clear hb2
 replace HK:=Za ((un HK).trans k9)
 replace H1:=Za ((un H1).kept k9)
 replace L1:=Za (Zm k9 (un L1))
 have L2:=Za l9
 clear k9 l9
 refine ((un HSB) _ (un HK)).mono ?_
 rintro _ x6 ⟨rfl,hk⟩
 replace HK:=Za ((un HK).trans hk)
 replace H1:=Za ((un H1).kept hk)
 replace L1:=Za (Zm hk (un L1))
 replace L2:=Za (Zm hk (un L2))
 clear hk HSB
 have a0:=Zd (un L1) 0
 have a1:=Zd (un L1) 1
 have a2:=Zd (un L1) 2
 have b0:=Zd (un L2) 0
 have b1:=Zd (un L2) 1
 have b2:=Zd (un L2) 2
 go_wp2_with fail
 refine ((un HSS) _ _ _ (un H1) (Ps _)).mono ?_
 rintro _ x7 ⟨rfl,hk⟩
 replace HK:=Za ((un HK).trans hk)
 clear hk HSS a0 a1 a2 b0 b1 b2 H1 L1 L2
 go_wp2
 go_ret
 exact ⟨rfl,un HK⟩
theorem Xbh (vp:Value) (w:World) (oa oo:Option Addr) (n cap m co:Nat) (c:Int) (er:Int) (l:List UInt8) (y:St)
  (HW:Hid (∀ u,Zb w u→Calls Tryd.prog 5 #[vp,.agg #[.slice oa n cap,.int .i64 c,.slice oo m co]] u fun e w'=>e=.returned (.tuple #[.string ⟨([]:List UInt8).toArray⟩,.int .i64 er])∧Zb u w'))
  (HE:Hid (∀ u,Zb w u→Calls Tryd.prog 6 #[vp,.agg #[.slice oa n cap,.int .i64 c,.slice oo m co]] u fun e w'=>e=.returned (.int .i64 er)∧Zb u w'))
  (HR:Hid (∀ u,Zb w u→Jc 8 #[vp,.string ⟨l.toArray⟩] u y [.int .i64 0]))
  (HP:Hid (∀ u,Zb w u→Calls Tryd.prog 9 #[vp] u fun e w'=>e=.returned (.int .i64 0)∧Zb u w'))
  (HF:Hid (∀ u,Zb w u→Pg u vp l y true))
  (HSB:Hid (∀ u,Zb w u→Calls Tryd.prog 11 #[] u fun e w'=>e=.returned (.bool true)∧Zb u w'))
  (HSS:Hid (∀ u v1 v2,Zy u v1 y→Zy u v2 y→Calls Tryd.prog 12 #[v1,v2] u fun e w'=>e=.returned (.bool true)∧Zb u w'))
  (he:er≠0)
  (hl:l.length≤8192)
  : Calls Tryd.prog 3 #[vp,.agg #[.slice oa n cap,.int .i64 c,.slice oo m co],.string ⟨l.toArray⟩] w fun e w'=>e=.returned (.bool true)∧Zb w w':=by
 have hsz:(ByteArray.mk l.toArray).size=l.length:=by simp [ByteArray.size]
 unfold Jc at HR
 unfold Pg at HF
 generalize l.length=N at *
 generalize (ByteArray.mk l.toArray)=L at *
 go_enter Tryd.func3,Tryd.ntmps3
 go_wp2_with fail
 obtain ⟨k9,l9⟩:=Jm (Zb.refl w) #[.slice oa n cap,.int .i64 c,.slice oo m co] 26
 generalize w.alloc (.cells #[.slice oa n cap,.int .i64 c,.slice oo m co] 26)=w1 at *
 generalize w.heap.size=B0 at *
 have HK:=Za k9
 have HL:=Za l9
 clear k9 l9
 refine ((un HW) _ (un HK)).mono ?_
 rintro _ w2 ⟨rfl,hk⟩
 replace HK:=Za ((un HK).trans hk)
 replace HL:=Za (Zm hk (un HL))
 clear hk HW
 have a0:=Zd (un HL) 0
 have a1:=Zd (un HL) 1
 have a2:=Zd (un HL) 2
 go_wp2_with fail
 refine ((un HE) _ (un HK)).mono ?_
 rintro _ w3 ⟨rfl,hk⟩
 replace HK:=Za ((un HK).trans hk)
 replace HL:=Za (Zm hk (un HL))
 clear hk HE a0 a1 a2
 have a0:=Zd (un HL) 0
 have a1:=Zd (un HL) 1
 have a2:=Zd (un HL) 2
 go_wp2_with fail
 clear HL a0 a1 a2
 refine ((un HR) _ (un HK)).mono ?_
 rintro _ x1 ⟨o1,n1,c1,z1,q1,m1,d1,rfl,h1,hk⟩
 replace HK:=Za ((un HK).trans hk)
 have H1:=Za h1
 clear hk h1 HR
 go_wp2_with fail
 obtain ⟨k9,l9⟩:=Jm (Zb.refl x1) #[.slice o1 n1 c1,.int .i64 z1,.slice q1 m1 d1] 26
 generalize x1.alloc (.cells #[.slice o1 n1 c1,.int .i64 z1,.slice q1 m1 d1] 26)=x2 at *
 generalize x1.heap.size=B1 at *
 replace HK:=Za ((un HK).trans k9)
 replace H1:=Za ((un H1).kept k9)
 have L1:=Za l9
 clear k9 l9
 have HL1:Hid (B1<x2.heap.size):=Za (Array.getElem?_eq_some_iff.1 (un L1)).1
 refine ((un HP) _ (un HK)).mono ?_
 rintro _ x3 ⟨rfl,hk⟩
 replace HK:=Za ((un HK).trans hk)
 replace H1:=Za ((un H1).kept hk)
 replace L1:=Za (Zm hk (un L1))
 have HNE:Hid (B1≠x3.heap.size):=Za (by have h1:=un HL1;have h2:=hk.size;omega)
 clear hk HP HL1
 have h8:¬ (8192:Int)<(N:Int):=by omega
 go_wp2_with fail
 obtain ⟨k9,l9⟩:=Jm (Zb.refl x3) #[.slice none 0 0,.int .i64 0,.slice none 0 0] 26
 have HB2:Hid (w.heap.size≤x3.heap.size):=Za (un HK).size
 have K3:=Za k9
 generalize x3.alloc (.cells #[.slice none 0 0,.int .i64 0,.slice none 0 0] 26)=x4 at *
 generalize hb2:x3.heap.size=B2 at *
 have HB3:Hid (x3.heap.size≤B2):=Za (Nat.le_of_eq hb2)
 clear hb2
 replace HK:=Za ((un HK).trans k9)
 replace L1:=Za (Zm k9 (un L1))
 have L2:=Za l9
 clear k9 l9
 refine ((un HF) _ (un HK)).mono ?_
 rintro _ x5 ⟨o2,n2,c2,z2,q2,m2,d2,rfl,h2,hk⟩
 replace HK:=Za ((un HK).trans hk)
 replace L1:=Za (Zm hk (un L1))
 replace L2:=Za (Zm hk (un L2))
 replace K3:=Za ((un K3).trans hk)
 have H2:=Za h2
 clear hk h2 HF
 have b0:=Zd (un L2) 0
 have b1:=Zd (un L2) 1
 have b2:=Zd (un L2) 2
 have f0:=Zk (un L2) 0
 have f1:=Zk (un L2) 1
 have f2:=Zk (un L2) 2
 have j0:=un L2
 have j1:=Zl j0 0 (.slice o2 n2 c2)
 have j2:=Zl j1 1 (.int .i64 z2)
 have j3:=Zl j2 2 (.slice q2 m2 d2)
 simp only [Array.setIfInBounds,List.size_toArray,List.length_cons,List.length_nil] at j3
 have st:=((Zs.set (ts:=[3,53,46]) j0 (by decide) 0 (.slice o2 n2 c2)).trans (Zs.set j1 (by decide) 1 (.int .i64 z2))).trans (Zs.set j2 (by decide) 2 (.slice q2 m2 d2))
 have kx:=((((un K3).setCell (p:=⟨B2,0,none⟩) (un HB3) (.slice o2 n2 c2)).setCell (p:=⟨B2,1,none⟩) (un HB3) (.int .i64 z2)).setCell (p:=⟨B2,2,none⟩) (un HB3) (.slice q2 m2 d2))
 have ky:=((((un HK).setCell (p:=⟨B2,0,none⟩) (un HB2) (.slice o2 n2 c2)).setCell (p:=⟨B2,1,none⟩) (un HB2) (.int .i64 z2)).setCell (p:=⟨B2,2,none⟩) (un HB2) (.slice q2 m2 d2))
 have HN1:=Za ((un H1).kept kx)
 have HN2:=Za ((un H2) _ st)
 have LN2:=Za j3
 have LN1:=Za (Zz (a:=⟨B2,2,none⟩) (Zz (a:=⟨B2,1,none⟩) (Zz (a:=⟨B2,0,none⟩) (un L1) (un HNE) (.slice o2 n2 c2)) (un HNE) (.int .i64 z2)) (un HNE) (.slice q2 m2 d2))
 have HKN:=Za ky
 clear j0 j1 j2 j3 st kx ky L1 L2 H1 H2 HK K3
 go_wp2_with fail
 generalize (((x5.setCell ⟨B2,0,none⟩ (.slice o2 n2 c2)).setCell ⟨B2,1,none⟩ (.int .i64 z2)).setCell ⟨B2,2,none⟩ (.slice q2 m2 d2))=x6 at *
 clear b0 b1 b2 f0 f1 f2
 refine ((un HSB) _ (un HKN)).mono ?_
 rintro _ x7 ⟨rfl,hk⟩
 replace HKN:=Za ((un HKN).trans hk)
 replace HN1:=Za ((un HN1).kept hk)
 replace HN2:=Za ((un HN2).kept hk)
 replace LN1:=Za (Zm hk (un LN1))
 replace LN2:=Za (Zm hk (un LN2))
 clear hk HSB
 have a0:=Zd (un LN1) 0
 have a1:=Zd (un LN1) 1
 have a2:=Zd (un LN1) 2
 have b0:=Zd (un LN2) 0
 have b1:=Zd (un LN2) 1
 have b2:=Zd (un LN2) 2
 simp only [List.getElem?_toArray,List.getElem?_cons_zero,List.getElem?_cons_succ] at a0 a1 a2 b0 b1 b2
 go_wp2_with fail
 refine ((un HSS) _ _ _ (un HN1) (un HN2)).mono ?_
 rintro _ x8 ⟨rfl,hk⟩
 replace HKN:=Za ((un HKN).trans hk)
 clear hk HSS a0 a1 a2 b0 b1 b2 HN1 HN2 LN1 LN2
 go_wp2
 go_ret
 exact ⟨rfl,un HKN⟩
theorem Zrz (vp:Value) (w:World) (oa oo:Option Addr) (n cap m co:Nat) (c:Int) (er:Int) (l:List UInt8) (y:St)
  (HW:Hid (∀ u,Zb w u→Calls Tryd.prog 5 #[vp,.agg #[.slice oa n cap,.int .i64 c,.slice oo m co]] u fun e w'=>e=.returned (.tuple #[.string ⟨([]:List UInt8).toArray⟩,.int .i64 er])∧Zb u w'))
  (HE:Hid (∀ u,Zb w u→Calls Tryd.prog 6 #[vp,.agg #[.slice oa n cap,.int .i64 c,.slice oo m co]] u fun e w'=>e=.returned (.int .i64 er)∧Zb u w'))
  (HR:Hid (∀ u,Zb w u→Jc 8 #[vp,.string ⟨l.toArray⟩] u y [.int .i64 1]))
  (HP:Hid (∀ u,Zb w u→Calls Tryd.prog 9 #[vp] u fun e w'=>e=.returned (.int .i64 0)∧Zb u w'))
  (HF:Hid (∀ u,Zb w u→Pg u vp l y false))
  (HSB:Hid (∀ u,Zb w u→Calls Tryd.prog 11 #[] u fun e w'=>e=.returned (.bool true)∧Zb u w'))
  (HSS:Hid (∀ u v1 v2,Zy u v1 y→Zy u v2 y→Calls Tryd.prog 12 #[v1,v2] u fun e w'=>e=.returned (.bool true)∧Zb u w'))
  (he:er≠0)
  (hl:l.length≤8192)
  : Calls Tryd.prog 3 #[vp,.agg #[.slice oa n cap,.int .i64 c,.slice oo m co],.string ⟨l.toArray⟩] w fun e w'=>e=.returned (.bool true)∧Zb w w':=by
 have hsz:(ByteArray.mk l.toArray).size=l.length:=by simp [ByteArray.size]
 unfold Jc at HR
 unfold Pg at HF
 generalize l.length=N at *
 generalize (ByteArray.mk l.toArray)=L at *
 go_enter Tryd.func3,Tryd.ntmps3
 go_wp2_with fail
 obtain ⟨k9,l9⟩:=Jm (Zb.refl w) #[.slice oa n cap,.int .i64 c,.slice oo m co] 26
 generalize w.alloc (.cells #[.slice oa n cap,.int .i64 c,.slice oo m co] 26)=w1 at *
 generalize w.heap.size=B0 at *
 have HK:=Za k9
 have HL:=Za l9
 clear k9 l9
 refine ((un HW) _ (un HK)).mono ?_
 rintro _ w2 ⟨rfl,hk⟩
 replace HK:=Za ((un HK).trans hk)
 replace HL:=Za (Zm hk (un HL))
 clear hk HW
 have a0:=Zd (un HL) 0
 have a1:=Zd (un HL) 1
 have a2:=Zd (un HL) 2
 go_wp2_with fail
 refine ((un HE) _ (un HK)).mono ?_
 rintro _ w3 ⟨rfl,hk⟩
 replace HK:=Za ((un HK).trans hk)
 replace HL:=Za (Zm hk (un HL))
 clear hk HE a0 a1 a2
 have a0:=Zd (un HL) 0
 have a1:=Zd (un HL) 1
 have a2:=Zd (un HL) 2
 go_wp2_with fail
 clear HL a0 a1 a2
 refine ((un HR) _ (un HK)).mono ?_
 rintro _ x1 ⟨o1,n1,c1,z1,q1,m1,d1,rfl,h1,hk⟩
 replace HK:=Za ((un HK).trans hk)
 have H1:=Za h1
 clear hk h1 HR
 go_wp2_with fail
 obtain ⟨k9,l9⟩:=Jm (Zb.refl x1) #[.slice o1 n1 c1,.int .i64 z1,.slice q1 m1 d1] 26
 generalize x1.alloc (.cells #[.slice o1 n1 c1,.int .i64 z1,.slice q1 m1 d1] 26)=x2 at *
 generalize x1.heap.size=B1 at *
 replace HK:=Za ((un HK).trans k9)
 replace H1:=Za ((un H1).kept k9)
 have L1:=Za l9
 clear k9 l9
 have HL1:Hid (B1<x2.heap.size):=Za (Array.getElem?_eq_some_iff.1 (un L1)).1
 refine ((un HP) _ (un HK)).mono ?_
 rintro _ x3 ⟨rfl,hk⟩
 replace HK:=Za ((un HK).trans hk)
 replace H1:=Za ((un H1).kept hk)
 replace L1:=Za (Zm hk (un L1))
 have HNE:Hid (B1≠x3.heap.size):=Za (by have h1:=un HL1;have h2:=hk.size;omega)
 clear hk HP HL1
 have h8:¬ (8192:Int)<(N:Int):=by omega
 go_wp2_with fail
 obtain ⟨k9,l9⟩:=Jm (Zb.refl x3) #[.slice none 0 0,.int .i64 0,.slice none 0 0] 26
 have HB2:Hid (w.heap.size≤x3.heap.size):=Za (un HK).size
 have K3:=Za k9
 generalize x3.alloc (.cells #[.slice none 0 0,.int .i64 0,.slice none 0 0] 26)=x4 at *
 generalize hb2:x3.heap.size=B2 at *
 have HB3:Hid (x3.heap.size≤B2):=Za (Nat.le_of_eq hb2)
 clear hb2
 replace HK:=Za ((un HK).trans k9)
 replace L1:=Za (Zm k9 (un L1))
 have L2:=Za l9
 clear k9 l9
 refine ((un HF) _ (un HK)).mono ?_
 rintro _ x5 ⟨o2,n2,c2,z2,q2,m2,d2,rfl,h2,hk⟩
 replace HK:=Za ((un HK).trans hk)
 replace L1:=Za (Zm hk (un L1))
 replace L2:=Za (Zm hk (un L2))
 replace K3:=Za ((un K3).trans hk)
 have H2:=Za h2
 clear hk h2 HF
 have b0:=Zd (un L2) 0
 have b1:=Zd (un L2) 1
 have b2:=Zd (un L2) 2
 have f0:=Zk (un L2) 0
 have f1:=Zk (un L2) 1
 have f2:=Zk (un L2) 2
 have j0:=un L2
 have j1:=Zl j0 0 (.slice o2 n2 c2)
 have j2:=Zl j1 1 (.int .i64 z2)
 have j3:=Zl j2 2 (.slice q2 m2 d2)
 simp only [Array.setIfInBounds,List.size_toArray,List.length_cons,List.length_nil] at j3
 have st:=((Zs.set (ts:=[3,53,46]) j0 (by decide) 0 (.slice o2 n2 c2)).trans (Zs.set j1 (by decide) 1 (.int .i64 z2))).trans (Zs.set j2 (by decide) 2 (.slice q2 m2 d2))
 have kx:=((((un K3).setCell (p:=⟨B2,0,none⟩) (un HB3) (.slice o2 n2 c2)).setCell (p:=⟨B2,1,none⟩) (un HB3) (.int .i64 z2)).setCell (p:=⟨B2,2,none⟩) (un HB3) (.slice q2 m2 d2))
 have ky:=((((un HK).setCell (p:=⟨B2,0,none⟩) (un HB2) (.slice o2 n2 c2)).setCell (p:=⟨B2,1,none⟩) (un HB2) (.int .i64 z2)).setCell (p:=⟨B2,2,none⟩) (un HB2) (.slice q2 m2 d2))
 have HN1:=Za ((un H1).kept kx)
 have HN2:=Za ((un H2) _ st)
 have LN2:=Za j3
 have LN1:=Za (Zz (a:=⟨B2,2,none⟩) (Zz (a:=⟨B2,1,none⟩) (Zz (a:=⟨B2,0,none⟩) (un L1) (un HNE) (.slice o2 n2 c2)) (un HNE) (.int .i64 z2)) (un HNE) (.slice q2 m2 d2))
 have HKN:=Za ky
 clear j0 j1 j2 j3 st kx ky L1 L2 H1 H2 HK K3
 go_wp2_with fail
 generalize (((x5.setCell ⟨B2,0,none⟩ (.slice o2 n2 c2)).setCell ⟨B2,1,none⟩ (.int .i64 z2)).setCell ⟨B2,2,none⟩ (.slice q2 m2 d2))=x6 at *
 clear b0 b1 b2 f0 f1 f2
 refine ((un HSB) _ (un HKN)).mono ?_
 rintro _ x7 ⟨rfl,hk⟩
 replace HKN:=Za ((un HKN).trans hk)
 replace HN1:=Za ((un HN1).kept hk)
 replace HN2:=Za ((un HN2).kept hk)
 replace LN1:=Za (Zm hk (un LN1))
 replace LN2:=Za (Zm hk (un LN2))
 clear hk HSB
 have a0:=Zd (un LN1) 0
 have a1:=Zd (un LN1) 1
 have a2:=Zd (un LN1) 2
 have b0:=Zd (un LN2) 0
 have b1:=Zd (un LN2) 1
 have b2:=Zd (un LN2) 2
 simp only [List.getElem?_toArray,List.getElem?_cons_zero,List.getElem?_cons_succ] at a0 a1 a2 b0 b1 b2
 go_wp2_with fail
 refine ((un HSS) _ _ _ (un HN1) (un HN2)).mono ?_
 rintro _ x8 ⟨rfl,hk⟩
 replace HKN:=Za ((un HKN).trans hk)
 clear hk HSS a0 a1 a2 b0 b1 b2 HN1 HN2 LN1 LN2
 go_wp2
 go_ret
 exact ⟨rfl,un HKN⟩
end Go.Proofs.YtblihfpigjiahaaDoor
