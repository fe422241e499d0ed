/- SaveU, SaveBackW -/
import Derived.Test.YtblihfpigjiahaaDoorDB42
import Derived.Test.YtblihfpigjiahaaDoorDB43
import Derived.Test.YtblihfpigjiahaaDoorDB11
import Derived.Laws.Strings
set_option maxRecDepth 100000
set_option maxHeartbeats 8000000
namespace Go.Proofs.YtblihfpigjiahaaDoor
open Go.RowKit
theorem Zsz (vp:Value) (S:ByteArray) (er:Int) (hz:er≠0) (w:World)
  (HPC:Hid (∀ u,Za w u→Calls Tryd.prog 20 #[vp] u fun e w'=>e=.returned (.int .i64 er)∧Za u w')) :
  Jg 8 #[vp,.string S] w St.zero [.int .i64 er]:=by
 unfold Jg
 have hb:(er != 0)=true:=bne_iff_ne.2 hz
 clear hz
 have LR:Hid ((w.alloc (.cells #[.slice none 0 0,.int .i64 0,.slice none 0 0] 26)).heap[w.heap.size]?=some (.cells #[.slice none 0 0,.int .i64 0,.slice none 0 0] 26)):=Zb (Zj rfl)
 have HK:Hid (Za w (w.alloc (.cells #[.slice none 0 0,.int .i64 0,.slice none 0 0] 26))):=Zb ((Za.refl w).alloc _)
 go_enter Tryd.func8,Tryd.ntmps8
 go_wp2_with fail
 generalize w.alloc (.cells #[.slice none 0 0,.int .i64 0,.slice none 0 0] 26)=wa at *
 generalize hRR:w.heap.size=R at LR ⊢
 have HR:Hid (w.heap.size≤R):=Zb (by omega)
 clear hRR
 refine ((un HPC) _ (un HK)).mono ?_
 rintro _ w1 ⟨rfl,hk⟩
 replace LR:=Zb (Zq hk (un LR))
 replace HK:=Zb ((un HK).trans hk)
 clear hk HPC
 have x0:=Zd (un LR) 0
 have x1:=Zd (un LR) 1
 have x2:=Zd (un LR) 2
 have z0:=Zk (un LR) 0
 have z1:=Zk (un LR) 1
 have z2:=Zk (un LR) 2
 simp only [List.getElem?_toArray,List.getElem?_cons_zero,List.getElem?_cons_succ] at x0 x1 x2
 go_wp2_with fail
 have k1:=Zl (Zl (Zl (un LR) 0 (.slice none 0 0)) 1 (.int .i64 0)) 2 (.slice none 0 0)
 have t0:=Zd k1 0
 have t1:=Zd k1 1
 have t2:=Zd k1 2
 simp only [Array.setIfInBounds,List.size_toArray,List.length_cons,List.length_nil] at t0 t1 t2
 refine bodyPost_ret (v:=.tuple #[.agg #[.slice none 0 0,.int .i64 0,.slice none 0 0],.int .i64 er]) (by simp [results,Tryd.results8,go_sem,t0,t1,t2]) rfl ?_
 exact ⟨none,0,0,0,none,0,0,rfl,Zce _,(((un HK).setCell (p:=⟨R,0,none⟩) (un HR) _).setCell (p:=⟨R,1,none⟩) (un HR) _).setCell (p:=⟨R,2,none⟩) (un HR) _⟩
theorem Zpo (vp:Value) (l:List UInt8) (hl:8192<l.length) (w:World)
  (HPC:Hid (∀ u,Za w u→Calls Tryd.prog 20 #[vp] u fun e w'=>e=.returned (.int .i64 0)∧Za u w')) :
  Jg 8 #[vp,.string ⟨l.toArray⟩] w St.zero [.int .i64 2]:=by
 unfold Jg
 have hsz:(ByteArray.mk l.toArray).size=l.length:=by simp [ByteArray.size]
 have hl1:(8192:Int)<(l.length:Int):=by omega
 generalize (ByteArray.mk l.toArray)=S at *
 generalize l.length=N at *
 have LR:Hid ((w.alloc (.cells #[.slice none 0 0,.int .i64 0,.slice none 0 0] 26)).heap[w.heap.size]?=some (.cells #[.slice none 0 0,.int .i64 0,.slice none 0 0] 26)):=Zb (Zj rfl)
 have HK:Hid (Za w (w.alloc (.cells #[.slice none 0 0,.int .i64 0,.slice none 0 0] 26))):=Zb ((Za.refl w).alloc _)
 go_enter Tryd.func8,Tryd.ntmps8
 go_wp2_with fail
 generalize w.alloc (.cells #[.slice none 0 0,.int .i64 0,.slice none 0 0] 26)=wa at *
 generalize hRR:w.heap.size=R at LR ⊢
 have HR:Hid (w.heap.size≤R):=Zb (by omega)
 clear hRR
 refine ((un HPC) _ (un HK)).mono ?_
 rintro _ w1 ⟨rfl,hk⟩
 replace LR:=Zb (Zq hk (un LR))
 replace HK:=Zb ((un HK).trans hk)
 clear hk HPC
 have x0:=Zd (un LR) 0
 have x1:=Zd (un LR) 1
 have x2:=Zd (un LR) 2
 have z0:=Zk (un LR) 0
 have z1:=Zk (un LR) 1
 have z2:=Zk (un LR) 2
 simp only [List.getElem?_toArray,List.getElem?_cons_zero,List.getElem?_cons_succ] at x0 x1 x2
 go_wp2_with fail
 have k1:=Zl (Zl (Zl (un LR) 0 (.slice none 0 0)) 1 (.int .i64 0)) 2 (.slice none 0 0)
 have t0:=Zd k1 0
 have t1:=Zd k1 1
 have t2:=Zd k1 2
 simp only [Array.setIfInBounds,List.size_toArray,List.length_cons,List.length_nil] at t0 t1 t2
 refine bodyPost_ret (v:=.tuple #[.agg #[.slice none 0 0,.int .i64 0,.slice none 0 0],.int .i64 2]) (by simp [results,Tryd.results8,go_sem,t0,t1,t2]) rfl ?_
 exact ⟨none,0,0,0,none,0,0,rfl,Zce _,(((un HK).setCell (p:=⟨R,0,none⟩) (un HR) _).setCell (p:=⟨R,1,none⟩) (un HR) _).setCell (p:=⟨R,2,none⟩) (un HR) _⟩
theorem Zzr (vp:Value) (l:List UInt8) (s:St) (er:Int) (hz:er≠0) (w:World) (hl:l.length≤8192) (hsm:Yc s)
  (HPC:Hid (∀ u,Za w u→Calls Tryd.prog 20 #[vp] u fun e w'=>e=.returned (.int .i64 0)∧Za u w'))
  (HWH:Hid (∀ u,Za w u→Calls Tryd.prog 21 #[.string ⟨l.toArray⟩] u fun en w'=>∃ gf go,en=.returned (.tuple #[.agg #[.slice (some ⟨gf,0,none⟩) s.fibers.length s.fibers.length,.int .i64 s.now,.slice (some ⟨go,0,none⟩) s.out.length s.out.length],.int .i64 0])∧StN w' gf go s∧Za u w'))
  (HSC:Hid (∀ u v,Za w u→Xj u v s→Calls Tryd.prog 13 #[vp,v] u fun e w'=>e=.returned (.int .i64 er)∧Za u w')) :
  Jg 8 #[vp,.string ⟨l.toArray⟩] w St.zero [.int .i64 1]:=by
 unfold Jg
 have hb:(er != 0)=true:=bne_iff_ne.2 hz
 have HSM:=Zb hsm
 clear hsm hz
 generalize hla:s.fibers.length=la at *
 generalize hls:s.out.length=ls at *
 have HLA:=Zb (And.intro hla hls)
 clear hla hls
 have LR:Hid ((w.alloc (.cells #[.slice none 0 0,.int .i64 0,.slice none 0 0] 26)).heap[w.heap.size]?=some (.cells #[.slice none 0 0,.int .i64 0,.slice none 0 0] 26)):=Zb (Zj rfl)
 have HK:Hid (Za w (w.alloc (.cells #[.slice none 0 0,.int .i64 0,.slice none 0 0] 26))):=Zb ((Za.refl w).alloc _)
 have hsz:(ByteArray.mk l.toArray).size=l.length:=by simp [ByteArray.size]
 have hl1:¬ (8192:Int)<(l.length:Int):=by omega
 generalize (ByteArray.mk l.toArray)=S at *
 generalize l.length=N at *
 go_enter Tryd.func8,Tryd.ntmps8
 go_wp2_with fail
 generalize w.alloc (.cells #[.slice none 0 0,.int .i64 0,.slice none 0 0] 26)=wa at *
 generalize hRR:w.heap.size=R at LR ⊢
 have HR:Hid (w.heap.size≤R):=Zb (by omega)
 clear hRR
 refine ((un HPC) _ (un HK)).mono ?_
 rintro _ w1 ⟨rfl,hk⟩
 replace LR:=Zb (Zq hk (un LR))
 replace HK:=Zb ((un HK).trans hk)
 clear hk
 go_wp2_with fail
 refine ((un HWH) _ (un HK)).mono ?_
 rintro _ w2 ⟨gf,go,rfl,hst,hk⟩
 replace LR:=Zb (Zr (Zq hk (un LR)) (.cells #[.slice (some ⟨gf,0,none⟩) la la,.int .i64 s.now,.slice (some ⟨go,0,none⟩) ls ls] 26))
 replace HK:=Zb (((un HK).trans hk).alloc (.cells #[.slice (some ⟨gf,0,none⟩) la la,.int .i64 s.now,.slice (some ⟨go,0,none⟩) ls ls] 26))
 have hA:=(show StN (w2.alloc (.cells #[.slice (some ⟨gf,0,none⟩) la la,.int .i64 s.now,.slice (some ⟨go,0,none⟩) ls ls] 26)) gf go s from ⟨hst.1.stay (Xc.alloc _),hst.2.stay (Xc.alloc _)⟩).st (un HSM)
 rw [(un HLA).1,(un HLA).2] at hA
 have HS:=Zb hA
 clear hA hst hk HPC HWH
 go_wp2_with fail
 generalize w2.alloc (.cells #[.slice (some ⟨gf,0,none⟩) la la,.int .i64 s.now,.slice (some ⟨go,0,none⟩) ls ls] 26)=w3 at *
 generalize w2.heap.size=X at *
 refine ((un HSC) _ _ (un HK) (un HS)).mono ?_
 rintro _ w4 ⟨rfl,hk⟩
 replace LR:=Zb (Zq hk (un LR))
 replace HK:=Zb ((un HK).trans hk)
 clear hk HS
 have x0:=Zd (un LR) 0
 have x1:=Zd (un LR) 1
 have x2:=Zd (un LR) 2
 have z0:=Zk (un LR) 0
 have z1:=Zk (un LR) 1
 have z2:=Zk (un LR) 2
 simp only [List.getElem?_toArray,List.getElem?_cons_zero,List.getElem?_cons_succ] at x0 x1 x2
 go_wp2_with fail
 have k1:=Zl (Zl (Zl (un LR) 0 (.slice none 0 0)) 1 (.int .i64 0)) 2 (.slice none 0 0)
 have t0:=Zd k1 0
 have t1:=Zd k1 1
 have t2:=Zd k1 2
 simp only [Array.setIfInBounds,List.size_toArray,List.length_cons,List.length_nil] at t0 t1 t2
 refine bodyPost_ret (v:=.tuple #[.agg #[.slice none 0 0,.int .i64 0,.slice none 0 0],.int .i64 1]) (by simp [results,Tryd.results8,go_sem,t0,t1,t2]) rfl ?_
 exact ⟨none,0,0,0,none,0,0,rfl,Zce _,(((un HK).setCell (p:=⟨R,0,none⟩) (un HR) _).setCell (p:=⟨R,1,none⟩) (un HR) _).setCell (p:=⟨R,2,none⟩) (un HR) _⟩
def Yl (p:List Fn) (l:List UInt8):St × Int :=
 if Xd p=0 then if l.length≤8192 then match rdS l with
  | some (s,[])=>if Xi p s=0 then (s,0) else (St.zero,1)
  | _=>(St.zero,1) else (St.zero,2) else (St.zero,Xd p)
theorem Zmc (p:List Fn) (l:List UInt8) (vp:Value) (w:World) (hp:Zv w vp p) (hk:Qw w):Jg 8 #[vp,.string ⟨l.toArray⟩] w (Yl p l).1 [.int .i64 (Yl p l).2]:=by
 have HPC:Hid (∀ u,Za w u→Calls Tryd.prog 20 #[vp] u fun e w'=>e=.returned (.int .i64 (Xd p))∧Za u w'):=Zb fun u hu=>Zep p vp u (hp.kept hu) (hk.kept hu)
 unfold Yl
 by_cases hz:Xd p=0
 ·rw [if_pos hz]
  rw [hz] at HPC
  by_cases hl:l.length≤8192
  ·rw [if_pos hl]
   cases hr:rdS l with
   | none=>exact Zfs vp l w hl HPC (Zb fun u hu=>Zuh u l hr)
   | some q =>
    obtain ⟨s,r⟩:=q
    have hb:=(Zli hr).2
    have hwh:=fun u=>Zhx u l r s hr
    cases r with
    | cons b r'=>exact Zfs vp l w hl HPC (Zb fun u _=>(hwh u).mono fun e w' h=>by unfold Pk at h;rwa [if_neg (by simp)] at h)
    | nil =>
     have hwh2:=fun u=>(hwh u).mono fun e w' h=>by unfold Pk at h;rwa [if_pos rfl] at h
     by_cases hs:Xi p s=0
     ·simp only [hs,if_true]
      refine Zla vp l s w hl hb.small HPC (Zb fun u _=>hwh2 u) (Zb fun u v hu hv=>?_)
      have:=Zct p s vp v u (hp.kept hu) hv (hk.kept hu)
      rwa [hs] at this
     ·simp only [hs,if_false]
      exact Zzr vp l s _ hs w hl hb.small HPC (Zb fun u _=>hwh2 u) (Zb fun u v hu hv=>Zct p s vp v u (hp.kept hu) hv (hk.kept hu))
  ·rw [if_neg hl]
   exact Zpo vp l (by omega) w HPC
 ·rw [if_neg hz]
  exact Zsz vp _ _ hz w HPC
theorem Zmf (vp:Value) (w:World) (oa oo:Option Addr) (n cap m co:Nat) (c er g:Int) (t l:List UInt8) (s y:St)
  (_hs:Hid (Xj w (.agg #[.slice oa n cap,.int .i64 c,.slice oo m co]) s))
  (HW:Hid (∀ u,Za w u→Calls Tryd.prog 5 #[vp,.agg #[.slice oa n cap,.int .i64 c,.slice oo m co]] u fun e w'=>e=.returned (.tuple #[.string ⟨t.toArray⟩,.int .i64 er])∧Za u w'))
  (HR:Hid (∀ u,Za w u→Jg 8 #[vp,.string ⟨l.toArray⟩] u y [.int .i64 g]))
  (HSB:Hid (∀ u,Za w u→Calls Tryd.prog 11 #[] u fun e w'=>e=.returned (.bool true)∧Za u w'))
  (HWY:Hid (g=0→∀ u v,Za w u→Xj u v y→Calls Tryd.prog 5 #[vp,v] u fun e w'=>e=.returned (.tuple #[.string ⟨l.toArray⟩,.int .i64 0])∧Za u w'))
  (HCY:Hid (g=0→∀ u v,Za w u→Xj u v y→Calls Tryd.prog 13 #[vp,v] u fun e w'=>e=.returned (.int .i64 0)∧Za u w')) (hz:er≠0∨8192<t.length) :
  Calls Tryd.prog 4 #[vp,.agg #[.slice oa n cap,.int .i64 c,.slice oo m co],.string ⟨l.toArray⟩] w fun e w'=>e=.returned (.bool true)∧Za w w':=by
 have hsz:(ByteArray.mk t.toArray).size=t.length:=by simp [ByteArray.size]
 generalize (ByteArray.mk t.toArray)=S at *
 generalize t.length=N at *
 generalize (ByteArray.mk l.toArray)=L at *
 unfold Jg at HR
 go_enter Tryd.func4,Tryd.ntmps4
 go_wp2_with fail
 obtain ⟨k9,l9⟩:=Pc (Za.refl w) #[.slice oa n cap,.int .i64 c,.slice oo m co] 26
 generalize w.alloc (.cells #[.slice oa n cap,.int .i64 c,.slice oo m co] 26)=w1 at *
 generalize w.heap.size=B0 at *
 have HK:=Zb k9
 have HL:=Zb l9
 clear k9 l9
 refine ((un HW) _ (un HK)).mono ?_
 rintro _ w2 ⟨rfl,hk⟩
 replace HK:=Zb ((un HK).trans hk)
 replace HL:=Zb (Zq hk (un HL))
 clear hk HW
 by_cases he:er=0
 ·subst he
  have h8:¬ (N:Int)≤8192:=by omega
  clear hz
  go_wp2_with fail
  refine ((un HR) _ (un HK)).mono ?_
  rintro _ x1 ⟨o1,n1,c1,z1,q1,m1,d1,rfl,h1,hk⟩
  replace HK:=Zb ((un HK).trans hk)
  have HS1:=Zb h1
  clear hk h1 HR HL _hs
  by_cases hg:g=0
  ·subst hg
   have HWY2:=Zb ((un HWY) rfl)
   have HCY2:=Zb ((un HCY) rfl)
   clear HWY HCY
   go_wp2_with fail
   obtain ⟨k9,l9⟩:=Pc (Za.refl x1) #[.slice o1 n1 c1,.int .i64 z1,.slice q1 m1 d1] 26
   generalize x1.alloc (.cells #[.slice o1 n1 c1,.int .i64 z1,.slice q1 m1 d1] 26)=x2 at *
   generalize x1.heap.size=B1 at *
   replace HK:=Zb ((un HK).trans k9)
   replace HS1:=Zb ((un HS1).kept k9)
   have HL1:=Zb l9
   clear k9 l9
   refine ((un HWY2) _ _ (un HK) (un HS1)).mono ?_
   rintro _ x3 ⟨rfl,hk⟩
   replace HK:=Zb ((un HK).trans hk)
   replace HS1:=Zb ((un HS1).kept hk)
   replace HL1:=Zb (Zq hk (un HL1))
   clear hk HWY2
   go_wp2_with fail
   refine ((un HSB) _ (un HK)).mono ?_
   rintro _ x4 ⟨rfl,hk⟩
   replace HK:=Zb ((un HK).trans hk)
   replace HS1:=Zb ((un HS1).kept hk)
   replace HL1:=Zb (Zq hk (un HL1))
   clear hk
   have a0:=Zd (un HL1) 0
   have a1:=Zd (un HL1) 1
   have a2:=Zd (un HL1) 2
   go_wp2_with fail
   refine ((un HCY2) _ _ (un HK) (un HS1)).mono ?_
   rintro _ x5 ⟨rfl,hk⟩
   replace HK:=Zb ((un HK).trans hk)
   clear hk a0 a1 a2
   go_wp2_with fail
   go_ret
   exact ⟨rfl,un HK⟩
  ·have hb:(g != 0)=true:=bne_iff_ne.2 hg
   clear hg HWY HCY
   replace HK:=Zb ((un HK).alloc (.cells #[.slice o1 n1 c1,.int .i64 z1,.slice q1 m1 d1] 26))
   go_wp2_with fail
   refine ((un HSB) _ (un HK)).mono ?_
   rintro _ x4 ⟨rfl,hk⟩
   replace HK:=Zb ((un HK).trans hk)
   clear hk
   go_wp2_with fail
   go_ret
   exact ⟨rfl,un HK⟩
 ·have hbe:(er == 0)=false:=beq_eq_false_iff_ne.2 he
  clear hz he
  go_wp2_with fail
  refine ((un HR) _ (un HK)).mono ?_
  rintro _ x1 ⟨o1,n1,c1,z1,q1,m1,d1,rfl,h1,hk⟩
  replace HK:=Zb ((un HK).trans hk)
  have HS1:=Zb h1
  clear hk h1 HR HL _hs
  by_cases hg:g=0
  ·subst hg
   have HWY2:=Zb ((un HWY) rfl)
   have HCY2:=Zb ((un HCY) rfl)
   clear HWY HCY
   go_wp2_with fail
   obtain ⟨k9,l9⟩:=Pc (Za.refl x1) #[.slice o1 n1 c1,.int .i64 z1,.slice q1 m1 d1] 26
   generalize x1.alloc (.cells #[.slice o1 n1 c1,.int .i64 z1,.slice q1 m1 d1] 26)=x2 at *
   generalize x1.heap.size=B1 at *
   replace HK:=Zb ((un HK).trans k9)
   replace HS1:=Zb ((un HS1).kept k9)
   have HL1:=Zb l9
   clear k9 l9
   refine ((un HWY2) _ _ (un HK) (un HS1)).mono ?_
   rintro _ x3 ⟨rfl,hk⟩
   replace HK:=Zb ((un HK).trans hk)
   replace HS1:=Zb ((un HS1).kept hk)
   replace HL1:=Zb (Zq hk (un HL1))
   clear hk HWY2
   go_wp2_with fail
   refine ((un HSB) _ (un HK)).mono ?_
   rintro _ x4 ⟨rfl,hk⟩
   replace HK:=Zb ((un HK).trans hk)
   replace HS1:=Zb ((un HS1).kept hk)
   replace HL1:=Zb (Zq hk (un HL1))
   clear hk
   have a0:=Zd (un HL1) 0
   have a1:=Zd (un HL1) 1
   have a2:=Zd (un HL1) 2
   go_wp2_with fail
   refine ((un HCY2) _ _ (un HK) (un HS1)).mono ?_
   rintro _ x5 ⟨rfl,hk⟩
   replace HK:=Zb ((un HK).trans hk)
   clear hk a0 a1 a2
   go_wp2_with fail
   go_ret
   exact ⟨rfl,un HK⟩
  ·have hb:(g != 0)=true:=bne_iff_ne.2 hg
   clear hg HWY HCY
   replace HK:=Zb ((un HK).alloc (.cells #[.slice o1 n1 c1,.int .i64 z1,.slice q1 m1 d1] 26))
   go_wp2_with fail
   refine ((un HSB) _ (un HK)).mono ?_
   rintro _ x4 ⟨rfl,hk⟩
   replace HK:=Zb ((un HK).trans hk)
   clear hk
   go_wp2_with fail
   go_ret
   exact ⟨rfl,un HK⟩
theorem Zzb (vp:Value) (w:World) (oa oo:Option Addr) (n cap m co:Nat) (c er g:Int) (t l:List UInt8) (s y:St)
  (hs:Hid (Xj w (.agg #[.slice oa n cap,.int .i64 c,.slice oo m co]) s))
  (HW:Hid (∀ u,Za w u→Calls Tryd.prog 5 #[vp,.agg #[.slice oa n cap,.int .i64 c,.slice oo m co]] u fun e w'=>e=.returned (.tuple #[.string ⟨t.toArray⟩,.int .i64 er])∧Za u w'))
  (HR:Hid (∀ u,Za w u→Jg 8 #[vp,.string ⟨l.toArray⟩] u y [.int .i64 g]))
  (HSB:Hid (∀ u,Za w u→Calls Tryd.prog 11 #[] u fun e w'=>e=.returned (.bool true)∧Za u w'))
  (HWY:Hid (g=0→∀ u v,Za w u→Xj u v y→Calls Tryd.prog 5 #[vp,v] u fun e w'=>e=.returned (.tuple #[.string ⟨l.toArray⟩,.int .i64 0])∧Za u w'))
  (HCY:Hid (g=0→∀ u v,Za w u→Xj u v y→Calls Tryd.prog 13 #[vp,v] u fun e w'=>e=.returned (.int .i64 0)∧Za u w')) (he:er=0) (hl:t.length≤8192)
  (HRT:Hid (∀ u,Za w u→Jg 8 #[vp,.string ⟨t.toArray⟩] u s [.int .i64 0]))
  (HSS:Hid (∀ u v1 v2,Xj u v1 s→Xj u v2 s→Calls Tryd.prog 12 #[v1,v2] u fun e w'=>e=.returned (.bool true)∧Za u w')) :
  Calls Tryd.prog 4 #[vp,.agg #[.slice oa n cap,.int .i64 c,.slice oo m co],.string ⟨l.toArray⟩] w fun e w'=>e=.returned (.bool true)∧Za w w':=by
 subst he
 have hsz:(ByteArray.mk t.toArray).size=t.length:=by simp [ByteArray.size]
 generalize (ByteArray.mk t.toArray)=S at *
 generalize t.length=N at *
 generalize (ByteArray.mk l.toArray)=L at *
 unfold Jg at HR
 unfold Jg at HRT
 go_enter Tryd.func4,Tryd.ntmps4
 go_wp2_with fail
 obtain ⟨k9,l9⟩:=Pc (Za.refl w) #[.slice oa n cap,.int .i64 c,.slice oo m co] 26
 generalize w.alloc (.cells #[.slice oa n cap,.int .i64 c,.slice oo m co] 26)=w1 at *
 generalize w.heap.size=B0 at *
 have HK:=Zb k9
 have HL:=Zb l9
 clear k9 l9
 refine ((un HW) _ (un HK)).mono ?_
 rintro _ w2 ⟨rfl,hk⟩
 replace HK:=Zb ((un HK).trans hk)
 replace HL:=Zb (Zq hk (un HL))
 clear hk HW
 have h8:(N:Int)≤8192:=by omega
 clear hl
 go_wp2_with fail
 refine ((un HRT) _ (un HK)).mono ?_
 rintro _ w3 ⟨ob,nb,cb,zb,qb,mb,db,rfl,hb,hk⟩
 replace HK:=Zb ((un HK).trans hk)
 replace HL:=Zb (Zq hk (un HL))
 have HSb:=Zb hb
 clear hk hb HRT
 have b0:=Zbv (un HL) 0
 have b1:=Zbv (un HL) 1
 have b2:=Zbv (un HL) 2
 go_wp2_with fail
 obtain ⟨k9,-⟩:=Pc (Za.refl w3) #[.slice ob nb cb,.int .i64 zb,.slice qb mb db] 26
 generalize w3.alloc (.cells #[.slice ob nb cb,.int .i64 zb,.slice qb mb db] 26)=w4 at *
 generalize w3.heap.size=B3 at *
 replace HK:=Zb ((un HK).trans k9)
 replace HL:=Zb (Zq k9 (un HL))
 replace HSb:=Zb ((un HSb).kept k9)
 clear k9 b0 b1 b2
 refine ((un HSS) _ _ _ (un HSb) ((un hs).kept (un HK))).mono ?_
 rintro _ w5 ⟨rfl,hk⟩
 replace HK:=Zb ((un HK).trans hk)
 replace HL:=Zb (Zq hk (un HL))
 clear hk HSb HSS
 go_wp2_with fail
 refine ((un HR) _ (un HK)).mono ?_
 rintro _ x1 ⟨o1,n1,c1,z1,q1,m1,d1,rfl,h1,hk⟩
 replace HK:=Zb ((un HK).trans hk)
 have HS1:=Zb h1
 clear hk h1 HR HL hs
 by_cases hg:g=0
 ·subst hg
  have HWY2:=Zb ((un HWY) rfl)
  have HCY2:=Zb ((un HCY) rfl)
  clear HWY HCY
  go_wp2_with fail
  obtain ⟨k9,l9⟩:=Pc (Za.refl x1) #[.slice o1 n1 c1,.int .i64 z1,.slice q1 m1 d1] 26
  generalize x1.alloc (.cells #[.slice o1 n1 c1,.int .i64 z1,.slice q1 m1 d1] 26)=x2 at *
  generalize x1.heap.size=B1 at *
  replace HK:=Zb ((un HK).trans k9)
  replace HS1:=Zb ((un HS1).kept k9)
  have HL1:=Zb l9
  clear k9 l9
  refine ((un HWY2) _ _ (un HK) (un HS1)).mono ?_
  rintro _ x3 ⟨rfl,hk⟩
  replace HK:=Zb ((un HK).trans hk)
  replace HS1:=Zb ((un HS1).kept hk)
  replace HL1:=Zb (Zq hk (un HL1))
  clear hk HWY2
  go_wp2_with fail
  refine ((un HSB) _ (un HK)).mono ?_
  rintro _ x4 ⟨rfl,hk⟩
  replace HK:=Zb ((un HK).trans hk)
  replace HS1:=Zb ((un HS1).kept hk)
  replace HL1:=Zb (Zq hk (un HL1))
  clear hk
  have a0:=Zd (un HL1) 0
  have a1:=Zd (un HL1) 1
  have a2:=Zd (un HL1) 2
  go_wp2_with fail
  refine ((un HCY2) _ _ (un HK) (un HS1)).mono ?_
  rintro _ x5 ⟨rfl,hk⟩
  replace HK:=Zb ((un HK).trans hk)
  clear hk a0 a1 a2
  go_wp2_with fail
  go_ret
  exact ⟨rfl,un HK⟩
 ·have hb:(g != 0)=true:=bne_iff_ne.2 hg
  clear hg HWY HCY
  replace HK:=Zb ((un HK).alloc (.cells #[.slice o1 n1 c1,.int .i64 z1,.slice q1 m1 d1] 26))
  go_wp2_with fail
  refine ((un HSB) _ (un HK)).mono ?_
  rintro _ x4 ⟨rfl,hk⟩
  replace HK:=Zb ((un HK).trans hk)
  clear hk
  go_wp2_with fail
  go_ret
  exact ⟨rfl,un HK⟩
end Go.Proofs.YtblihfpigjiahaaDoor
