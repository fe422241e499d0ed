/- TrimS, StateLp, StateL, ProgA -/
import Derived.Test.YtblihfpigjiahaaDoorWB11
import Derived.Test.YtblihfpigjiahaaDoorWB12
set_option maxRecDepth 100000
set_option maxHeartbeats 8000000
namespace Go.Proofs.YtblihfpigjiahaaDoor
def Zex (p q:List Fn):Prop:=q.length=p.length∧∀ k,(q.getD k Fn.zero).args=(p.getD k Fn.zero).args∧(q.getD k Fn.zero).locals=(p.getD k Fn.zero).locals
theorem Zex.eff {p q:List Fn} (h:Zex p q) (kd a:Int):Qr q kd a=Qr p kd a:=by
 unfold Qr
 rw [h.1,(h.2 a.toNat).1]
theorem Zex.beh {p q:List Fn} (h:Zex p q) (x:Int × Int) (z:Int):beh q x z=beh p x z:=by
 unfold Proofs.YtblihfpigjiahaaDoor.beh
 rw [h.eff]
def hgtL (p:List Fn) (k:Nat):List Int:=(Ql p (Zx p k)).getD []
theorem Zio {p:List Fn} (h:Xh p=0) {k:Nat} (hk:k<p.length):Ql p (Zx p k)=some (hgtL p k):=by
 unfold Xh at h
 split at h
 ·cases h
 ·split at h
  ·cases h
  ·split at h
   ·cases h
   ·split at h
    ·have:=Zdg h k (by omega) (by omega)
     unfold Yl at this
     unfold hgtL
     split at this
     ·rename_i H hH;rw [hH];rfl
     ·cases this
    ·rename_i h0;exact absurd h h0
theorem Zlh {p:List Fn} (h:Xh p=0) {k:Nat} (hk:k<p.length):Yk p (Zx p k):=by
 obtain ⟨_,_,hck⟩:=Zaa h
 obtain ⟨_,_,hops⟩:=Zjj (hck k hk)
 exact ⟨p.getD k Fn.zero,rfl,fun x hx=>Zcn hops x hx⟩
theorem Zei {p:List Fn} (h:Xh p=0) {k:Nat} (hk:k<p.length):Cons p (Zx p k) (hgt p k)∧Yc p (Zx p k) (hgt p k) :=
 Zcy (Zlh h hk) (Zio h hk)
theorem Zlr {p:List Fn} (h:Xh p=0) {k:Nat} (hk:k<p.length) (a:Nat):-1≤(hgt p k).getD a 0∧(hgt p k).getD a 0≤8:=by
 by_cases ha:a<(hgt p k).length
 ·obtain ⟨hc,hs⟩:=Zei h hk
  rcases hs a (by rw [← hc.len];exact ha) with e | ⟨h0,hr⟩
  ·omega
  ·have:=hr (fun _ z=>z≤8) (by omega) (fun k' z x m j _ hx hm _=>(Pf (Zlh h hk) (List.mem_of_getElem? hx) hm).2)
   exact ⟨by omega,this⟩
 ·simp [List.getD,List.getElem?_eq_none (by omega:(hgt p k).length≤a)]
theorem Zoy {p:List Fn} (h:Xh p=0):Bare p:=by
 intro k i x hx hk
 by_cases hkl:k<p.length
 ·obtain ⟨_,_,hck⟩:=Zaa h
  obtain ⟨_,_,hops⟩:=Zjj (hck k hkl)
  obtain ⟨_,_,hm⟩:=Wc (Zcn hops x (List.mem_of_getElem? hx))
  have ho:opd x.1.toNat=0:=by rcases hk with e | e <;> rw [e] <;> rfl
  rw [ho] at hm
  simpa [Qm] using hm
 ·have:Zx p k=[]:=by
   unfold Zx
   simp [List.getD,List.getElem?_eq_none (by omega:p.length≤k),Fn.zero]
  rw [this] at hx
  simp at hx
open Go.RowKit
theorem Zig {p:List Fn} (h:Xh p=0):Um p:=fun _ hk=>(Zei h hk).1.len
theorem Zhm {p:List Fn} (h:Xh p=0):Zco p:=fun k a hk=>by
 have:=Zlr h hk a
 omega
theorem hgtS_E {p:List Fn} {k:Nat} (h:Xv p k=0):(Pn p k).2=Yl p k:=by
 unfold Pn Yl Zx
 rw [if_pos h,Int.toNat_natCast]
 cases Ql p (p.getD k Fn.zero).code <;> rfl
theorem Zxf (oa:Option Addr) (n cap:Nat) (w:World) (h:5<(n:Int)) :
  Calls Tryd.prog 20 #[.slice oa n cap] w fun e w'=>e=.returned (.int .i64 2)∧Zb w w':=by
 go_enter Tryd.func20,Tryd.ntmps20
 go_wp2
 go_ret
 exact ⟨rfl,Zb.refl _⟩
theorem Zyn (oa:Option Addr) (cap:Nat) (w:World) :
  Calls Tryd.prog 20 #[.slice oa 0 cap] w fun e w'=>e=.returned (.int .i64 5)∧Zb w w':=by
 go_enter Tryd.func20,Tryd.ntmps20
 go_wp2
 go_ret
 exact ⟨rfl,Zb.refl _⟩
theorem Zpm (b o n cap:Nat) (ar:Int) (w:World) (h:¬ 5<(n:Int)) (h0:((n:Int) == 0)=false) (hn:0<n) (c0:w.cell? ⟨b,o,none⟩=some (.int .i64 ar)) (ha:(ar != 0)=true) :
  Calls Tryd.prog 20 #[.slice (some ⟨b,o,none⟩) n cap] w fun e w'=>e=.returned (.int .i64 1)∧Zb w w':=by
 go_enter Tryd.func20,Tryd.ntmps20
 go_wp2
 go_ret
 exact ⟨rfl,Zb.refl _⟩
theorem Zqy (p:List Fn) (b o n cap:Nat) (w:World) (hp:Zw w (.slice (some ⟨b,o,none⟩) n cap) p) (hk:Je w) (hl:n=p.length) (h:¬ 5<(n:Int)) (h0:((n:Int) == 0)=false) (hn:0<n) (c0:w.cell? ⟨b,o,none⟩=some (.int .i64 0)) (rr:Int) (hrr:(if Ji (fun k=>Xv p k) 0 p.length=0 then Ji (Yl p) 0 p.length else Ji (fun k=>Xv p k) 0 p.length)=rr) :
  Calls Tryd.prog 20 #[.slice (some ⟨b,o,none⟩) n cap] w fun e w'=>e=.returned (.int .i64 rr)∧Zb w w':=by
 have HRR:=Za hrr
 clear hrr
 have HP:=Za hp
 have HK:=Za hk
 have HL:=Za hl
 clear hp hk hl
 go_enter Tryd.func20,Tryd.ntmps20
 go_wp2
 go_loopw [21] (fun s wr=>∃ k:Nat,k≤n∧s=.int .i64 k∧Hid (Ji (fun k=>Xv p k) k (n - k)=Ji (fun k=>Xv p k) 0 p.length)∧Hid (Zb w wr)) (fun s _=>n - (intOf s).toNat)
 case atStart=>exact ⟨0,Nat.zero_le _,rfl,by have:=un HL;subst this;rfl,Zb.refl _⟩
 case round =>
  obtain ⟨k,hkm,rfl,HO,HKr⟩:=hrel
  by_cases hlt:k<n
  ·have hst:=Zfv (e:=fun k=>Xv p k) hlt
   have HST:=Za hst
   have hck:=Zid p (.slice (some ⟨b,o,none⟩) n cap) k wr ((un HP).kept (un HKr)) ((un HK).kept (un HKr))
   have HCK:=Za hck
   clear hst hck
   go_wp2_with fail
   refine (un HCK).mono ?_
   clear HCK
   rintro e w2 ⟨rfl,hk2⟩
   have HK2:=Za ((un HKr).trans hk2)
   clear hk2
   by_cases hz:Xv p k=0
   ·have hst:=un HST
    simp only [hz,if_true] at hst
    have HS2:=Za (hst.symm.trans (un HO))
    rw [hz]
    clear hst hz HST HO
    go_wp2
    go_roundw
    case rel=>exact ⟨k+1,by omega,by go_num,HS2,HK2⟩
    case measure=>simp [intOf];omega
   ·have hst:=un HST
    simp only [hz,if_false] at hst
    have hs2:=hst.symm.trans (un HO)
    have hz':(Xv p k != 0)=true:=by rw [bne_iff_ne];exact hz
    generalize Xv p k=r at *
    have HS2:=Za hs2
    have HZ:=Za hz
    clear hst hz HST HO hs2
    go_wp2
    go_ret
    have hrr:=un HRR
    rw [← un HS2,if_neg (un HZ)] at hrr
    exact ⟨by rw [← hrr];rfl,un HK2⟩
  ·have hf0:Ji (fun k=>Xv p k) 0 p.length=0:=by
    rw [← un HO,show n - k=0 by omega]
    rfl
   have HF:=Za hf0
   clear hf0 HO
   go_wp2
   go_loopw [33] (fun s wq=>∃ k:Nat,k≤n∧s=.int .i64 k∧Hid (Ji (Yl p) k (n - k)=Ji (Yl p) 0 p.length)∧Hid (Zb w wq)) (fun s _=>n - (intOf s).toNat)
   case atStart=>exact ⟨0,Nat.zero_le _,rfl,by have:=un HL;subst this;rfl,HKr⟩
   case round =>
    obtain ⟨k,hkm,rfl,HO,HKq⟩:=hrel
    by_cases hlt:k<n
    ·have hst:=Zfv (e:=Yl p) hlt
     have hz0:Xv p k=0:=Zdg (un HF) k (by omega) (by have:=un HL;omega)
     have hge:=hgtS_E hz0
     have HST:=Za hst
     have hck:=Zlj p (.slice (some ⟨b,o,none⟩) n cap) k _ ((un HP).kept (un HKq)) ((un HK).kept (un HKq))
     have HCK:=Za hck
     have HGE:=Za hge
     clear hst hck hge hz0
     go_wp2_with fail
     refine (un HCK).mono ?_
     clear HCK
     rintro e w2 ⟨v2,rfl,_,hk2⟩
     have HK2:=Za ((un HKq).trans hk2)
     clear hk2
     rw [un HGE]
     by_cases hz:Yl p k=0
     ·have hst:=un HST
      simp only [hz,if_true] at hst
      have HS2:=Za (hst.symm.trans (un HO))
      rw [hz]
      clear hst hz HST HO
      go_wp2
      go_roundw
      case rel=>exact ⟨k+1,by omega,by go_num,HS2,HK2⟩
      case measure=>simp [intOf];omega
     ·have hst:=un HST
      simp only [hz,if_false] at hst
      have hs2:=hst.symm.trans (un HO)
      have hz':(Yl p k != 0)=true:=by rw [bne_iff_ne];exact hz
      generalize Yl p k=r at *
      have HS2:=Za hs2
      clear hst hz HST HO hs2
      go_wp2
      go_ret
      have hrr:=un HRR
      rw [if_pos (un HF),← un HS2] at hrr
      exact ⟨by rw [← hrr];rfl,un HK2⟩
    ·have hf1:Ji (Yl p) 0 p.length=0:=by
      rw [← un HO,show n - k=0 by omega]
      rfl
     have HF1:=Za hf1
     clear hf1 HO
     go_wp2
     go_ret
     have hrr:=un HRR
     rw [if_pos (un HF),un HF1] at hrr
     exact ⟨by rw [← hrr];rfl,un HKq⟩
theorem Zga (p:List Fn) (v:Value) (w:World) (hp:Zw w v p) (hk:Je w) :
  Calls Tryd.prog 20 #[v] w fun e w'=>e=.returned (.int .i64 (Xh p))∧Zb w w':=by
 obtain ⟨oa,cap,rfl,hl,hi⟩:=id hp
 unfold Xh
 by_cases h5:5<p.length
 ·rw [if_pos h5]
  exact Zxf oa p.length cap w (by omega)
 ·rw [if_neg h5]
  by_cases h0:p.length=0
  ·rw [if_pos h0,h0]
   exact Zyn oa cap w
  ·rw [if_neg h0]
   have h0':((p.length:Int) == 0)=false:=by rw [beq_eq_false_iff_ne];omega
   obtain ⟨b,o,cv,rfl,c0,c1,c2,hc⟩:=hi 0 _ (Zq p 0 Fn.zero (by omega))
   simp only [Nat.zero_mul,Nat.add_zero] at c0
   by_cases ha:(p.getD 0 Fn.zero).args=0
   ·rw [if_neg (not_not_intro ha)]
    rw [ha] at c0
    exact Zqy p b o p.length cap w hp hk rfl (by omega) h0' (by omega) c0 _ rfl
   ·rw [if_pos ha]
    exact Zpm b o p.length cap _ w (by omega) h0' (by omega) c0 (by rw [bne_iff_ne];exact ha)
end Go.Proofs.YtblihfpigjiahaaDoor
