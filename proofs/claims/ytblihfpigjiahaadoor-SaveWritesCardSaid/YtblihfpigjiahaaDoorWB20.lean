/- ProgD0 -/
import Derived.Test.YtblihfpigjiahaaDoorWB16
import Derived.Test.YtblihfpigjiahaaDoorWB18
import Derived.Test.YtblihfpigjiahaaDoorWB19
set_option maxRecDepth 100000
set_option maxHeartbeats 8000000
namespace Go.Proofs.YtblihfpigjiahaaDoor
open Go.RowKit
theorem Znc (p:List Fn) (v:Value) (k:Nat) (w:World) (hp:Zw w v p) (hz:Xv p k=0) :
  Calls Tryd.prog 23 #[v,.int .i64 k] w fun e w'=>Zjd p (Zx p k) w e w':=by
 obtain ⟨i,hi0,hi,hm,hr,hops⟩:=Zcz hz
 obtain rfl:k=i:=by omega
 obtain ⟨oa,cap,rfl,hl,hcell⟩:=id hp
 obtain ⟨b,o,cv,rfl,c0,c1,c2,hc⟩:=hcell k _ (Zq p k Fn.zero hi)
 obtain ⟨oc,cc,rfl,_,_⟩:=id hc
 exact Zpq p (p.getD k Fn.zero) k b o cap oc _ cc w hp hi c2 hc rfl hm (fun x hx=>Zcn hops x hx)
theorem Xad {p:List Fn} {k:Nat}:Yl p k=if (Ql p (Zx p k)).isSome=true then 0 else 1:=by
 unfold Yl
 cases Ql p (Zx p k) <;> rfl
theorem Zum (oa:Option Addr) (n cap:Nat) (w:World) (h:5<(n:Int)) :
  Calls Tryd.prog 9 #[.slice oa n cap] w fun e w'=>e=.returned (.int .i64 2)∧Zb w w':=by
 go_enter Tryd.func9,Tryd.ntmps9
 go_wp2
 go_ret
 exact ⟨rfl,Zb.refl _⟩
theorem Zrv (oa:Option Addr) (cap:Nat) (w:World) :
  Calls Tryd.prog 9 #[.slice oa 0 cap] w fun e w'=>e=.returned (.int .i64 5)∧Zb w w':=by
 go_enter Tryd.func9,Tryd.ntmps9
 go_wp2
 go_ret
 exact ⟨rfl,Zb.refl _⟩
theorem Xai (b o n cap:Nat) (ar:Int) (w:World) (h:¬ 5<(n:Int)) (h0:((n:Int) == 0)=false) (hn:0<n) (c0:w.cell? ⟨b,o,none⟩=some (.int .i64 ar)) (ha:(ar != 0)=true) :
  Calls Tryd.prog 9 #[.slice (some ⟨b,o,none⟩) n cap] w fun e w'=>e=.returned (.int .i64 1)∧Zb w w':=by
 go_enter Tryd.func9,Tryd.ntmps9
 go_wp2
 go_ret
 exact ⟨rfl,Zb.refl _⟩
theorem Zzp (p:List Fn) (b o n cap:Nat) (w:World) (hp:Zw w (.slice (some ⟨b,o,none⟩) n cap) p) (hl:n=p.length) (h:¬ 5<(n:Int)) (h0:((n:Int) == 0)=false) (hn:0<n) (c0:w.cell? ⟨b,o,none⟩=some (.int .i64 0)) (rr:Int) (hrr:(if Ji (fun k=>Xv p k) 0 p.length=0 then Ji (Yl p) 0 p.length else Ji (fun k=>Xv p k) 0 p.length)=rr) :
  Calls Tryd.prog 9 #[.slice (some ⟨b,o,none⟩) n cap] w fun e w'=>e=.returned (.int .i64 rr)∧Zb w w':=by
 have HRR:=Za hrr
 clear hrr
 have HP:=Za hp
 have HL:=Za hl
 clear hp hl
 go_enter Tryd.func9,Tryd.ntmps9
 go_wp2
 go_loopw [3] (fun s wr=>∃ k:Nat,k≤n∧s=.int .i64 k∧Hid (Ji (fun k=>Xv p k) k (n - k)=Ji (fun k=>Xv p k) 0 p.length)∧Hid (Zb w wr)) (fun s _=>n - (intOf s).toNat)
 case atStart=>exact ⟨0,Nat.zero_le _,rfl,by have:=un HL;subst this;rfl,Zb.refl _⟩
 case round =>
  obtain ⟨k,hkm,rfl,HO,HKr⟩:=hrel
  by_cases hlt:k<n
  ·have hst:=Zfv (e:=fun k=>Xv p k) hlt
   have HST:=Za hst
   have hck:=Zth p (.slice (some ⟨b,o,none⟩) n cap) k wr ((un HP).kept (un HKr))
   have HCK:=Za hck
   clear hst hck
   go_wp2_with fail
   refine (un HCK).mono ?_
   clear HCK
   rintro e w2 ⟨rfl,hk2⟩
   have HK2:=Za ((un HKr).trans hk2)
   clear hk2
   by_cases hz:Xv p k=0
   ·have hst:=un HST
    simp only [hz,if_true] at hst
    have HS2:=Za (hst.symm.trans (un HO))
    rw [hz]
    clear hst hz HST HO
    go_wp2
    go_roundw
    case rel=>exact ⟨k+1,by omega,by go_num,HS2,HK2⟩
    case measure=>simp [intOf];omega
   ·have hst:=un HST
    simp only [hz,if_false] at hst
    have hs2:=hst.symm.trans (un HO)
    have hz':(Xv p k != 0)=true:=by rw [bne_iff_ne];exact hz
    generalize Xv p k=r at *
    have HS2:=Za hs2
    have HZ:=Za hz
    clear hst hz HST HO hs2
    go_wp2
    go_ret
    have hrr:=un HRR
    rw [← un HS2,if_neg (un HZ)] at hrr
    exact ⟨by rw [← hrr];rfl,un HK2⟩
  ·have hf0:Ji (fun k=>Xv p k) 0 p.length=0:=by
    rw [← un HO,show n - k=0 by omega]
    rfl
   have HF:=Za hf0
   clear hf0 HO
   go_wp2
   go_loopw [5] (fun s wq=>∃ k:Nat,k≤n∧s=.int .i64 k∧Hid (Ji (Yl p) k (n - k)=Ji (Yl p) 0 p.length)∧Hid (Zb w wq)) (fun s _=>n - (intOf s).toNat)
   case atStart=>exact ⟨0,Nat.zero_le _,rfl,by have:=un HL;subst this;rfl,HKr⟩
   case round =>
    obtain ⟨k,hkm,rfl,HO,HKq⟩:=hrel
    by_cases hlt:k<n
    ·have hst:=Zfv (e:=Yl p) hlt
     have hz0:Xv p k=0:=Zdg (un HF) k (by omega) (by have:=un HL;omega)
     have hck:=Znc p (.slice (some ⟨b,o,none⟩) n cap) k _ ((un HP).kept (un HKq)) hz0
     rw [Xad] at hst
     have HST:=Za hst
     have HCK:=Za hck
     clear hst hck hz0
     go_wp2_with fail
     refine (un HCK).mono ?_
     clear HCK
     rintro e w2 ⟨v2,rfl,_,hk2⟩
     have HK2:=Za ((un HKq).trans hk2)
     clear hk2
     cases hz:(Ql p (Zx p k)).isSome with
     | true =>
      have hst:=un HST
      rw [hz] at hst
      simp only [if_true] at hst
      have HS2:=Za (hst.symm.trans (un HO))
      clear hst hz HST HO
      go_wp2
      go_roundw
      case rel=>exact ⟨k+1,by omega,by go_num,HS2,HK2⟩
      case measure=>simp [intOf];omega
     | false =>
      have hst:=un HST
      rw [hz] at hst
      simp at hst
      have HS2:=Za (hst.symm.trans (un HO))
      clear hst hz HST HO
      go_wp2
      go_ret
      have hrr:=un HRR
      rw [if_pos (un HF),← un HS2] at hrr
      exact ⟨by rw [← hrr];rfl,un HK2⟩
    ·have hf1:Ji (Yl p) 0 p.length=0:=by
      rw [← un HO,show n - k=0 by omega]
      rfl
     have HF1:=Za hf1
     clear hf1 HO
     go_wp2
     go_ret
     have hrr:=un HRR
     rw [if_pos (un HF),un HF1] at hrr
     exact ⟨by rw [← hrr];rfl,un HKq⟩
theorem Zfb (p:List Fn) (v:Value) (w:World) (hp:Zw w v p) :
  Calls Tryd.prog 9 #[v] w fun e w'=>e=.returned (.int .i64 (Xh p))∧Zb w w':=by
 obtain ⟨oa,cap,rfl,hl,hi⟩:=id hp
 unfold Xh
 by_cases h5:5<p.length
 ·rw [if_pos h5]
  exact Zum oa p.length cap w (by omega)
 ·rw [if_neg h5]
  by_cases h0:p.length=0
  ·rw [if_pos h0,h0]
   exact Zrv oa cap w
  ·rw [if_neg h0]
   have h0':((p.length:Int) == 0)=false:=by rw [beq_eq_false_iff_ne];omega
   obtain ⟨b,o,cv,rfl,c0,c1,c2,hc⟩:=hi 0 _ (Zq p 0 Fn.zero (by omega))
   simp only [Nat.zero_mul,Nat.add_zero] at c0
   by_cases ha:(p.getD 0 Fn.zero).args=0
   ·rw [if_neg (not_not_intro ha)]
    rw [ha] at c0
    exact Zzp p b o p.length cap w hp rfl (by omega) h0' (by omega) c0 _ rfl
   ·rw [if_pos ha]
    exact Xai b o p.length cap _ w (by omega) h0' (by omega) c0 (by rw [bne_iff_ne];exact ha)
end Go.Proofs.YtblihfpigjiahaaDoor
