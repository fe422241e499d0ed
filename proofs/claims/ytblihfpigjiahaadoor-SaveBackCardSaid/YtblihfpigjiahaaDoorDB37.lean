/- ProgD0 -/
import Derived.Test.YtblihfpigjiahaaDoorDB20
import Derived.Test.YtblihfpigjiahaaDoorDB35
import Derived.Test.YtblihfpigjiahaaDoorDB36
set_option maxRecDepth 100000
set_option maxHeartbeats 8000000
namespace Go.Proofs.YtblihfpigjiahaaDoor
open Go.RowKit
theorem Zjv (p:List Fn) (v:Value) (k:Nat) (w:World) (hp:Zv w v p) (hz:Xs p k=0) :
  Calls Tryd.prog 23 #[v,.int .i64 k] w fun e w'=>Zgo p (Zw p k) w e w':=by
 obtain ⟨i,hi0,hi,hm,hr,hops⟩:=Zcz hz
 obtain rfl:k=i:=by omega
 obtain ⟨oa,cap,rfl,hl,hcell⟩:=id hp
 obtain ⟨b,o,cv,rfl,c0,c1,c2,hc⟩:=hcell k _ (Zp p k Fn.zero hi)
 obtain ⟨oc,cc,rfl,_,_⟩:=id hc
 exact Zrp p (p.getD k Fn.zero) k b o cap oc _ cc w hp hi c2 hc rfl hm (fun x hx=>Zca hops x hx)
theorem Zut {p:List Fn} {k:Nat}:Ye p k=if (Qc p (Zw p k)).isSome=true then 0 else 1:=by
 unfold Ye
 cases Qc p (Zw p k) <;> rfl
theorem Zrh (oa:Option Addr) (n cap:Nat) (w:World) (h:5<(n:Int)) :
  Calls Tryd.prog 9 #[.slice oa n cap] w fun e w'=>e=.returned (.int .i64 2)∧Za w w':=by
 go_enter Tryd.func9,Tryd.ntmps9
 go_wp2
 go_ret
 exact ⟨rfl,Za.refl _⟩
theorem Zxy (oa:Option Addr) (cap:Nat) (w:World) :
  Calls Tryd.prog 9 #[.slice oa 0 cap] w fun e w'=>e=.returned (.int .i64 5)∧Za w w':=by
 go_enter Tryd.func9,Tryd.ntmps9
 go_wp2
 go_ret
 exact ⟨rfl,Za.refl _⟩
theorem Zqo (b o n cap:Nat) (ar:Int) (w:World) (h:¬ 5<(n:Int)) (h0:((n:Int) == 0)=false) (hn:0<n) (c0:w.cell? ⟨b,o,none⟩=some (.int .i64 ar)) (ha:(ar != 0)=true) :
  Calls Tryd.prog 9 #[.slice (some ⟨b,o,none⟩) n cap] w fun e w'=>e=.returned (.int .i64 1)∧Za w w':=by
 go_enter Tryd.func9,Tryd.ntmps9
 go_wp2
 go_ret
 exact ⟨rfl,Za.refl _⟩
theorem Zqg (p:List Fn) (b o n cap:Nat) (w:World) (hp:Zv w (.slice (some ⟨b,o,none⟩) n cap) p) (hl:n=p.length) (h:¬ 5<(n:Int)) (h0:((n:Int) == 0)=false) (hn:0<n) (c0:w.cell? ⟨b,o,none⟩=some (.int .i64 0)) (rr:Int) (hrr:(if Jb (fun k=>Xs p k) 0 p.length=0 then Jb (Ye p) 0 p.length else Jb (fun k=>Xs p k) 0 p.length)=rr) :
  Calls Tryd.prog 9 #[.slice (some ⟨b,o,none⟩) n cap] w fun e w'=>e=.returned (.int .i64 rr)∧Za w w':=by
 have HRR:=Zb hrr
 clear hrr
 have HP:=Zb hp
 have HL:=Zb hl
 clear hp hl
 go_enter Tryd.func9,Tryd.ntmps9
 go_wp2
 go_loopw [3] (fun s wr=>∃ k:Nat,k≤n∧s=.int .i64 k∧Hid (Jb (fun k=>Xs p k) k (n - k)=Jb (fun k=>Xs p k) 0 p.length)∧Hid (Za w wr)) (fun s _=>n - (intOf s).toNat)
 case atStart=>exact ⟨0,Nat.zero_le _,rfl,by have:=un HL;subst this;rfl,Za.refl _⟩
 case round =>
  obtain ⟨k,hkm,rfl,HO,HKr⟩:=hrel
  by_cases hlt:k<n
  ·have hst:=Zfd (e:=fun k=>Xs p k) hlt
   have HST:=Zb hst
   have hck:=Zot p (.slice (some ⟨b,o,none⟩) n cap) k wr ((un HP).kept (un HKr))
   have HCK:=Zb hck
   clear hst hck
   go_wp2_with fail
   refine (un HCK).mono ?_
   clear HCK
   rintro e w2 ⟨rfl,hk2⟩
   have HK2:=Zb ((un HKr).trans hk2)
   clear hk2
   by_cases hz:Xs p k=0
   ·have hst:=un HST
    simp only [hz,if_true] at hst
    have HS2:=Zb (hst.symm.trans (un HO))
    rw [hz]
    clear hst hz HST HO
    go_wp2
    go_roundw
    case rel=>exact ⟨k+1,by omega,by go_num,HS2,HK2⟩
    case measure=>simp [intOf];omega
   ·have hst:=un HST
    simp only [hz,if_false] at hst
    have hs2:=hst.symm.trans (un HO)
    have hz':(Xs p k != 0)=true:=by rw [bne_iff_ne];exact hz
    generalize Xs p k=r at *
    have HS2:=Zb hs2
    have HZ:=Zb hz
    clear hst hz HST HO hs2
    go_wp2
    go_ret
    have hrr:=un HRR
    rw [← un HS2,if_neg (un HZ)] at hrr
    exact ⟨by rw [← hrr];rfl,un HK2⟩
  ·have hf0:Jb (fun k=>Xs p k) 0 p.length=0:=by
    rw [← un HO,show n - k=0 by omega]
    rfl
   have HF:=Zb hf0
   clear hf0 HO
   go_wp2
   go_loopw [5] (fun s wq=>∃ k:Nat,k≤n∧s=.int .i64 k∧Hid (Jb (Ye p) k (n - k)=Jb (Ye p) 0 p.length)∧Hid (Za w wq)) (fun s _=>n - (intOf s).toNat)
   case atStart=>exact ⟨0,Nat.zero_le _,rfl,by have:=un HL;subst this;rfl,HKr⟩
   case round =>
    obtain ⟨k,hkm,rfl,HO,HKq⟩:=hrel
    by_cases hlt:k<n
    ·have hst:=Zfd (e:=Ye p) hlt
     have hz0:Xs p k=0:=Zci (un HF) k (by omega) (by have:=un HL;omega)
     have hck:=Zjv p (.slice (some ⟨b,o,none⟩) n cap) k _ ((un HP).kept (un HKq)) hz0
     rw [Zut] at hst
     have HST:=Zb hst
     have HCK:=Zb hck
     clear hst hck hz0
     go_wp2_with fail
     refine (un HCK).mono ?_
     clear HCK
     rintro e w2 ⟨v2,rfl,_,hk2⟩
     have HK2:=Zb ((un HKq).trans hk2)
     clear hk2
     cases hz:(Qc p (Zw p k)).isSome with
     | true =>
      have hst:=un HST
      rw [hz] at hst
      simp only [if_true] at hst
      have HS2:=Zb (hst.symm.trans (un HO))
      clear hst hz HST HO
      go_wp2
      go_roundw
      case rel=>exact ⟨k+1,by omega,by go_num,HS2,HK2⟩
      case measure=>simp [intOf];omega
     | false =>
      have hst:=un HST
      rw [hz] at hst
      simp at hst
      have HS2:=Zb (hst.symm.trans (un HO))
      clear hst hz HST HO
      go_wp2
      go_ret
      have hrr:=un HRR
      rw [if_pos (un HF),← un HS2] at hrr
      exact ⟨by rw [← hrr];rfl,un HK2⟩
    ·have hf1:Jb (Ye p) 0 p.length=0:=by
      rw [← un HO,show n - k=0 by omega]
      rfl
     have HF1:=Zb hf1
     clear hf1 HO
     go_wp2
     go_ret
     have hrr:=un HRR
     rw [if_pos (un HF),un HF1] at hrr
     exact ⟨by rw [← hrr];rfl,un HKq⟩
theorem Zhw (p:List Fn) (v:Value) (w:World) (hp:Zv w v p) :
  Calls Tryd.prog 9 #[v] w fun e w'=>e=.returned (.int .i64 (Xd p))∧Za w w':=by
 obtain ⟨oa,cap,rfl,hl,hi⟩:=id hp
 unfold Xd
 by_cases h5:5<p.length
 ·rw [if_pos h5]
  exact Zrh oa p.length cap w (by omega)
 ·rw [if_neg h5]
  by_cases h0:p.length=0
  ·rw [if_pos h0,h0]
   exact Zxy oa cap w
  ·rw [if_neg h0]
   have h0':((p.length:Int) == 0)=false:=by rw [beq_eq_false_iff_ne];omega
   obtain ⟨b,o,cv,rfl,c0,c1,c2,hc⟩:=hi 0 _ (Zp p 0 Fn.zero (by omega))
   simp only [Nat.zero_mul,Nat.add_zero] at c0
   by_cases ha:(p.getD 0 Fn.zero).args=0
   ·rw [if_neg (not_not_intro ha)]
    rw [ha] at c0
    exact Zqg p b o p.length cap w hp rfl (by omega) h0' (by omega) c0 _ rfl
   ·rw [if_pos ha]
    exact Zqo b o p.length cap _ w (by omega) h0' (by omega) c0 (by rw [bne_iff_ne];exact ha)
end Go.Proofs.YtblihfpigjiahaaDoor
