/- SaveP, SaveQ, SaveT, SaveK -/
import Derived.Test.YtblihfpigjiahaaDoorWB44
import Derived.Test.YtblihfpigjiahaaDoorWB43
import Derived.Test.YtblihfpigjiahaaDoorWB42
set_option maxRecDepth 100000
set_option maxHeartbeats 8000000
namespace Go.Proofs.YtblihfpigjiahaaDoor
open Go.RowKit
theorem Zqt (w:World) (B:Nat)  (h:Zu w B ([])):Calls Tryd.prog 84 #[.pointer (some ⟨B,0,none⟩)] w (Yy B w):=by
 have hB:=h.lt
 have HNE:Hid (B≠w.heap.size∧B≠w.heap.size+1):=Za ⟨by omega,by omega⟩
 have LX:Hid (((w.alloc (.cells #[.int .i64 0,.int .i64 0,.slice none 0 0,.slice none 0 0] 53)).alloc (.cells #[.int .i64 0,.int .i64 0,.slice none 0 0,.slice none 0 0] 53)).heap[w.heap.size+1]?=some (.cells #[.int .i64 0,.int .i64 0,.slice none 0 0,.slice none 0 0] 53)):=Za (Zg (by simp))
 have HK:Hid (Zn B w ((w.alloc (.cells #[.int .i64 0,.int .i64 0,.slice none 0 0,.slice none 0 0] 53)).alloc (.cells #[.int .i64 0,.int .i64 0,.slice none 0 0,.slice none 0 0] 53))):=Za (((Zn.refl B w).alloc _).alloc _)
 have h0:=(h.k ((Zb.refl w).alloc (.cells #[.int .i64 0,.int .i64 0,.slice none 0 0,.slice none 0 0] 53))).k ((Zb.refl _).alloc (.cells #[.int .i64 0,.int .i64 0,.slice none 0 0,.slice none 0 0] 53))
 have HC:=Za (Zan _ B h0)
 clear h hB h0
 go_enter Tryd.func84,Tryd.ntmps84
 go_wp2_with fail
 generalize (w.alloc (.cells #[.int .i64 0,.int .i64 0,.slice none 0 0,.slice none 0 0] 53)).alloc (.cells #[.int .i64 0,.int .i64 0,.slice none 0 0,.slice none 0 0] 53)=wa at *
 generalize hRR:w.heap.size=R at LX HNE ⊢
 have HSZ:Hid (w.heap.size≤R+1):=Za (by omega)
 clear hRR
 refine (un HC).mono ?_
 rintro _ wb ⟨rfl,q2⟩
 have HQ:=Za ((un HK).trans q2)
 clear q2 HC
 dsimp only [left]
 go_wp2_with fail
 exact ⟨rfl,rfl,un HQ⟩
theorem Zxs (w:World) (B:Nat) (a:UInt8) (h:Zu w B ([a])):Calls Tryd.prog 84 #[.pointer (some ⟨B,0,none⟩)] w (Yy B w):=by
 have hB:=h.lt
 have HNE:Hid (B≠w.heap.size∧B≠w.heap.size+1):=Za ⟨by omega,by omega⟩
 have LX:Hid (((w.alloc (.cells #[.int .i64 0,.int .i64 0,.slice none 0 0,.slice none 0 0] 53)).alloc (.cells #[.int .i64 0,.int .i64 0,.slice none 0 0,.slice none 0 0] 53)).heap[w.heap.size+1]?=some (.cells #[.int .i64 0,.int .i64 0,.slice none 0 0,.slice none 0 0] 53)):=Za (Zg (by simp))
 have HK:Hid (Zn B w ((w.alloc (.cells #[.int .i64 0,.int .i64 0,.slice none 0 0,.slice none 0 0] 53)).alloc (.cells #[.int .i64 0,.int .i64 0,.slice none 0 0,.slice none 0 0] 53))):=Za (((Zn.refl B w).alloc _).alloc _)
 have h0:=(h.k ((Zb.refl w).alloc (.cells #[.int .i64 0,.int .i64 0,.slice none 0 0,.slice none 0 0] 53))).k ((Zb.refl _).alloc (.cells #[.int .i64 0,.int .i64 0,.slice none 0 0,.slice none 0 0] 53))
 have HC:=Za (Yf _ B a _ h0)
 clear h hB h0
 go_enter Tryd.func84,Tryd.ntmps84
 go_wp2_with fail
 generalize (w.alloc (.cells #[.int .i64 0,.int .i64 0,.slice none 0 0,.slice none 0 0] 53)).alloc (.cells #[.int .i64 0,.int .i64 0,.slice none 0 0,.slice none 0 0] 53)=wa at *
 generalize hRR:w.heap.size=R at LX HNE ⊢
 have HSZ:Hid (w.heap.size≤R+1):=Za (by omega)
 clear hRR
 refine (un HC).mono ?_
 rintro _ wb ⟨rfl,q1,q2⟩
 replace LX:=Za (q2.rd (un LX) (un HNE).2.symm)
 replace HK:=Za ((un HK).trans q2)
 have lx:=un LX
 have x0:=Zd lx 0
 have z0:=Zk lx 0
 simp at x0
 have HC2:=Za (Zan (wb.setCell ⟨R+1,0,none⟩ (.int .i64 (a.toNat:Nat))) B (q1.set (un HNE).2 _))
 clear q1 q2 lx HC
 go_wp2_with fail
 replace LX:=Za (Zl (un LX) 0 (.int .i64 (a.toNat:Nat)))
 replace HK:=Za ((un HK).setCell (p:=⟨R+1,0,none⟩) (.inr (un HSZ)) (.int .i64 (a.toNat:Nat)))
 generalize wb.setCell ⟨R+1,0,none⟩ (.int .i64 (a.toNat:Nat))=wd at *
 have HC:=HC2
 clear x0 z0 HC2
 refine (un HC).mono ?_
 rintro _ wb ⟨rfl,q2⟩
 have HQ:=Za ((un HK).trans q2)
 clear q2 HC
 dsimp only [left]
 go_wp2_with fail
 exact ⟨rfl,rfl,un HQ⟩
theorem Zun (w:World) (B:Nat) (a b:UInt8) (l2:List UInt8) (h3:Xu rdV l2=none) (h:Zu w B (a :: b :: l2)):Calls Tryd.prog 84 #[.pointer (some ⟨B,0,none⟩)] w (Yy B w):=by
 have hB:=h.lt
 have HNE:Hid (B≠w.heap.size∧B≠w.heap.size+1):=Za ⟨by omega,by omega⟩
 have LX:Hid (((w.alloc (.cells #[.int .i64 0,.int .i64 0,.slice none 0 0,.slice none 0 0] 53)).alloc (.cells #[.int .i64 0,.int .i64 0,.slice none 0 0,.slice none 0 0] 53)).heap[w.heap.size+1]?=some (.cells #[.int .i64 0,.int .i64 0,.slice none 0 0,.slice none 0 0] 53)):=Za (Zg (by simp))
 have HK:Hid (Zn B w ((w.alloc (.cells #[.int .i64 0,.int .i64 0,.slice none 0 0,.slice none 0 0] 53)).alloc (.cells #[.int .i64 0,.int .i64 0,.slice none 0 0,.slice none 0 0] 53))):=Za (((Zn.refl B w).alloc _).alloc _)
 have h0:=(h.k ((Zb.refl w).alloc (.cells #[.int .i64 0,.int .i64 0,.slice none 0 0,.slice none 0 0] 53))).k ((Zb.refl _).alloc (.cells #[.int .i64 0,.int .i64 0,.slice none 0 0,.slice none 0 0] 53))
 have HC:=Za (Yf _ B a _ h0)
 have H3:=Za h3
 clear h3
 clear h hB h0
 go_enter Tryd.func84,Tryd.ntmps84
 go_wp2_with fail
 generalize (w.alloc (.cells #[.int .i64 0,.int .i64 0,.slice none 0 0,.slice none 0 0] 53)).alloc (.cells #[.int .i64 0,.int .i64 0,.slice none 0 0,.slice none 0 0] 53)=wa at *
 generalize hRR:w.heap.size=R at LX HNE ⊢
 have HSZ:Hid (w.heap.size≤R+1):=Za (by omega)
 clear hRR
 refine (un HC).mono ?_
 rintro _ wb ⟨rfl,q1,q2⟩
 replace LX:=Za (q2.rd (un LX) (un HNE).2.symm)
 replace HK:=Za ((un HK).trans q2)
 have lx:=un LX
 have x0:=Zd lx 0
 have z0:=Zk lx 0
 simp at x0
 have HC2:=Za (Yf (wb.setCell ⟨R+1,0,none⟩ (.int .i64 (a.toNat:Nat))) B b _ (q1.set (un HNE).2 _))
 clear q1 q2 lx HC
 go_wp2_with fail
 replace LX:=Za (Zl (un LX) 0 (.int .i64 (a.toNat:Nat)))
 replace HK:=Za ((un HK).setCell (p:=⟨R+1,0,none⟩) (.inr (un HSZ)) (.int .i64 (a.toNat:Nat)))
 generalize wb.setCell ⟨R+1,0,none⟩ (.int .i64 (a.toNat:Nat))=wd at *
 have HC:=HC2
 clear x0 z0 HC2
 refine (un HC).mono ?_
 rintro _ wb ⟨rfl,q1,q2⟩
 replace LX:=Za (q2.rd (un LX) (un HNE).2.symm)
 replace HK:=Za ((un HK).trans q2)
 have lx:=un LX
 have x1:=Zd lx 1
 have z1:=Zk lx 1
 simp [List.setIfInBounds_toArray] at x1
 have HC2:=Za (Zjh (wb.setCell ⟨R+1,1,none⟩ (.int .i64 (b.toNat:Nat))) B l2 (q1.set (un HNE).2 _) (un H3))
 clear q1 q2 lx HC
 go_wp2_with fail
 replace LX:=Za (Zl (un LX) 1 (.int .i64 (b.toNat:Nat)))
 replace HK:=Za ((un HK).setCell (p:=⟨R+1,1,none⟩) (.inr (un HSZ)) (.int .i64 (b.toNat:Nat)))
 generalize wb.setCell ⟨R+1,1,none⟩ (.int .i64 (b.toNat:Nat))=wd at *
 have HC:=HC2
 clear x1 z1 HC2
 refine (un HC).mono ?_
 rintro _ wb ⟨rfl,q2⟩
 have HQ:=Za ((un HK).trans q2)
 clear q2 HC
 dsimp only [left]
 go_wp2_with fail
 exact ⟨rfl,rfl,un HQ⟩
theorem Zys (w:World) (B:Nat) (a b:UInt8) (l2 r3:List UInt8) (x:List Int) (h3:Xu rdV l2=some (x,r3)) (h4:Xu rdV r3=none) (h:Zu w B (a :: b :: l2)):Calls Tryd.prog 84 #[.pointer (some ⟨B,0,none⟩)] w (Yy B w):=by
 have hB:=h.lt
 have HNE:Hid (B≠w.heap.size∧B≠w.heap.size+1):=Za ⟨by omega,by omega⟩
 have LX:Hid (((w.alloc (.cells #[.int .i64 0,.int .i64 0,.slice none 0 0,.slice none 0 0] 53)).alloc (.cells #[.int .i64 0,.int .i64 0,.slice none 0 0,.slice none 0 0] 53)).heap[w.heap.size+1]?=some (.cells #[.int .i64 0,.int .i64 0,.slice none 0 0,.slice none 0 0] 53)):=Za (Zg (by simp))
 have HK:Hid (Zn B w ((w.alloc (.cells #[.int .i64 0,.int .i64 0,.slice none 0 0,.slice none 0 0] 53)).alloc (.cells #[.int .i64 0,.int .i64 0,.slice none 0 0,.slice none 0 0] 53))):=Za (((Zn.refl B w).alloc _).alloc _)
 have h0:=(h.k ((Zb.refl w).alloc (.cells #[.int .i64 0,.int .i64 0,.slice none 0 0,.slice none 0 0] 53))).k ((Zb.refl _).alloc (.cells #[.int .i64 0,.int .i64 0,.slice none 0 0,.slice none 0 0] 53))
 have HC:=Za (Yf _ B a _ h0)
 have H3:=Za h3
 have H4:=Za h4
 clear h3 h4
 clear h hB h0
 go_enter Tryd.func84,Tryd.ntmps84
 go_wp2_with fail
 generalize (w.alloc (.cells #[.int .i64 0,.int .i64 0,.slice none 0 0,.slice none 0 0] 53)).alloc (.cells #[.int .i64 0,.int .i64 0,.slice none 0 0,.slice none 0 0] 53)=wa at *
 generalize hRR:w.heap.size=R at LX HNE ⊢
 have HSZ:Hid (w.heap.size≤R+1):=Za (by omega)
 clear hRR
 refine (un HC).mono ?_
 rintro _ wb ⟨rfl,q1,q2⟩
 replace LX:=Za (q2.rd (un LX) (un HNE).2.symm)
 replace HK:=Za ((un HK).trans q2)
 have lx:=un LX
 have x0:=Zd lx 0
 have z0:=Zk lx 0
 simp at x0
 have HC2:=Za (Yf (wb.setCell ⟨R+1,0,none⟩ (.int .i64 (a.toNat:Nat))) B b _ (q1.set (un HNE).2 _))
 clear q1 q2 lx HC
 go_wp2_with fail
 replace LX:=Za (Zl (un LX) 0 (.int .i64 (a.toNat:Nat)))
 replace HK:=Za ((un HK).setCell (p:=⟨R+1,0,none⟩) (.inr (un HSZ)) (.int .i64 (a.toNat:Nat)))
 generalize wb.setCell ⟨R+1,0,none⟩ (.int .i64 (a.toNat:Nat))=wd at *
 have HC:=HC2
 clear x0 z0 HC2
 refine (un HC).mono ?_
 rintro _ wb ⟨rfl,q1,q2⟩
 replace LX:=Za (q2.rd (un LX) (un HNE).2.symm)
 replace HK:=Za ((un HK).trans q2)
 have lx:=un LX
 have x1:=Zd lx 1
 have z1:=Zk lx 1
 simp [List.setIfInBounds_toArray] at x1
 have HC2:=Za (Zew (wb.setCell ⟨R+1,1,none⟩ (.int .i64 (b.toNat:Nat))) B l2 r3 x (q1.set (un HNE).2 _) (un H3))
 clear q1 q2 lx HC
 go_wp2_with fail
 replace LX:=Za (Zl (un LX) 1 (.int .i64 (b.toNat:Nat)))
 replace HK:=Za ((un HK).setCell (p:=⟨R+1,1,none⟩) (.inr (un HSZ)) (.int .i64 (b.toNat:Nat)))
 generalize wb.setCell ⟨R+1,1,none⟩ (.int .i64 (b.toNat:Nat))=wd at *
 have HC:=HC2
 clear x1 z1 HC2
 refine (un HC).mono ?_
 rintro _ wb ⟨gl,rfl,-,q1,q2⟩
 replace LX:=Za (q2.rd (un LX) (un HNE).2.symm)
 replace HK:=Za ((un HK).trans q2)
 have lx:=un LX
 have x2:=Zd lx 2
 have z2:=Zk lx 2
 simp [List.setIfInBounds_toArray] at x2
 have HC2:=Za (Zjh (wb.setCell ⟨R+1,2,none⟩ (.slice (some ⟨gl,0,none⟩) x.length x.length)) B r3 (q1.set (un HNE).2 _) (un H4))
 clear q1 q2 lx HC
 go_wp2_with fail
 replace LX:=Za (Zl (un LX) 2 (.slice (some ⟨gl,0,none⟩) x.length x.length))
 replace HK:=Za ((un HK).setCell (p:=⟨R+1,2,none⟩) (.inr (un HSZ)) (.slice (some ⟨gl,0,none⟩) x.length x.length))
 generalize wb.setCell ⟨R+1,2,none⟩ (.slice (some ⟨gl,0,none⟩) x.length x.length)=wd at *
 have HC:=HC2
 clear x2 z2 HC2
 refine (un HC).mono ?_
 rintro _ wb ⟨rfl,q2⟩
 have HQ:=Za ((un HK).trans q2)
 clear q2 HC
 dsimp only [left]
 go_wp2_with fail
 exact ⟨rfl,rfl,un HQ⟩
theorem Zqh (w:World) (B:Nat) (l:List UInt8) (h:Zu w B l) (hx:rdF l=none):Calls Tryd.prog 84 #[.pointer (some ⟨B,0,none⟩)] w (Yy B w):=by
 rcases Zqm hx with rfl | ⟨a,rfl⟩ | ⟨a,b,l',rfl,h1 | ⟨x,r,h1,h2⟩⟩
 ·exact Zqt w B h
 ·exact Zxs w B a h
 ·exact Zun w B a b l' h1 h
 ·exact Zys w B a b l' r x h1 h2 h
theorem Zrk (w:World) (B:Nat) (l:List UInt8) (h:Zu w B l) (hx:Xu rdF l=none) :
  Calls Tryd.prog 83 #[.pointer (some ⟨B,0,none⟩),.func (.func 84) #[.pointer (some ⟨B,0,none⟩)] #[]] w (Yy B w):=by
 rcases Zje hx with rfl | ⟨b,l',rfl,hr⟩
 ·have HS:=Za (Zan w B h)
  clear hx h
  go_enter Tryd.func83,Tryd.ntmps83
  go_wp2_with fail
  refine (un HS).mono ?_
  rintro _ w1 ⟨rfl,q2⟩
  have HQ:=Za q2
  clear q2
  dsimp only [left]
  go_wp2_with fail
  exact ⟨rfl,rfl,un HQ⟩
 have HS:=Za (Yf w B b l' h)
 have hb:b.toNat<256:=b.toNat_lt
 have HR:=Za hr
 generalize hN:b.toNat=n at *
 have hmk:=Znh n (by omega)
 clear hx hr h hN
 go_enter Tryd.func83,Tryd.ntmps83
 go_wp2_with fail
 refine (un HS).mono ?_
 rintro _ w1 ⟨rfl,q1,q2⟩
 have HG:Hid (w1.heap.size≠B∧w.heap.size≤w1.heap.size):=Za ⟨by have:=q1.lt;omega,q2.size⟩
 have H1:Hid (∃ cur,Zu (w1.alloc (.cells (madeCells #[.int .i64 0,.int .i64 0,.slice none 0 0,.slice none 0 0] (n*4)) 53)) B l'∧rdL rdF (n - 0) l'=none∧(w1.alloc (.cells (madeCells #[.int .i64 0,.int .i64 0,.slice none 0 0,.slice none 0 0] (n*4)) 53)).heap[w1.heap.size]?=some (.cells cur 53)∧cur.size=n*4∧Zn B w (w1.alloc (.cells (madeCells #[.int .i64 0,.int .i64 0,.slice none 0 0,.slice none 0 0] (n*4)) 53))):=Za ⟨_,q1.k ((Zb.refl w1).alloc _),by simpa using un HR,Zg rfl,by simp [Zfz],q2.alloc _⟩
 clear q1 q2 HS
 go_wp2_with fail
 generalize w1.alloc (.cells (madeCells #[.int .i64 0,.int .i64 0,.slice none 0 0,.slice none 0 0] (n*4)) 53)=wm at H1 ⊢
 generalize w1.heap.size=G at H1 HG ⊢
 go_loopw [12] (fun s12 wr=>∃ k:Nat,k≤n∧s12=.int .i64 k∧Hid (∃ l cur,Zu wr B l∧rdL rdF (n - k) l=none∧wr.heap[G]?=some (.cells cur 53)∧cur.size=n*4∧Zn B w wr)) (fun s12 _=>n - (intOf s12).toNat)
 case atStart =>
  obtain ⟨cur,hh⟩:=un H1
  exact ⟨0,Nat.zero_le _,rfl,Za ⟨l',cur,hh⟩⟩
 case round =>
  obtain ⟨k,hkm,rfl,HW⟩:=hrel
  by_cases hk:k<n
  ·obtain ⟨l2,cur,a1,a2,a3,a4,a6⟩:=un HW
   obtain ⟨m,hm⟩:∃ m,n - k=m+1:=⟨n - k - 1,by omega⟩
   rw [hm] at a2
   have hk0:(0:Int)≤(k:Int):=by omega
   have hk1:(k:Int)<(n:Int):=by omega
   rcases Zjm a2 with b1 | ⟨x,l3,b1,b2⟩
   ·have HC:=Za (Zqh wr B l2 a1 b1)
    have H6:=Za a6
    clear a1 a2 a3 a4 a6 b1 hm HW
    go_wp2_with fail
    refine (un HC).mono ?_
    rintro _ w2 ⟨rfl,q2⟩
    have HQ:=Za ((un H6).trans q2)
    clear q2 H6 HC
    dsimp only [left]
    go_wp2_with fail
    exact ⟨rfl,rfl,un HQ⟩
   ·have HC:=Za (Zno wr B l2 l3 x a1 b1)
    have HA:=Za (And.intro a1 (And.intro a3 (And.intro a4 a6)))
    have HM:Hid (rdL rdF (n - (k+1)) l3=none):=Za (by rw [show n - (k+1)=m by omega];exact b2)
    clear a1 a2 a3 a4 a6 b1 b2 hm HW
    go_wp2_with fail
    refine (un HC).mono ?_
    rintro _ w2 ⟨gl,gs,rfl,-,-,q1,q2⟩
    obtain ⟨a1,a3,a4,a6⟩:=un HA
    have g2:=q2.rd a3 (un HG).1
    obtain ⟨d0,c0⟩:∃ d,w2.cell? ⟨G,k*4,none⟩=some d:=⟨_,Wz g2 (i:=k*4) (by omega)⟩
    have f0:=Zk g2 (k*4)
    obtain ⟨d1,c1⟩:∃ d,w2.cell? ⟨G,k*4+1,none⟩=some d:=⟨_,Wz g2 (i:=k*4+1) (by omega)⟩
    have f1:=Zk g2 (k*4+1)
    obtain ⟨d2,c2⟩:∃ d,w2.cell? ⟨G,k*4+2,none⟩=some d:=⟨_,Wz g2 (i:=k*4+2) (by omega)⟩
    have f2:=Zk g2 (k*4+2)
    obtain ⟨d3,c3⟩:∃ d,w2.cell? ⟨G,k*4+3,none⟩=some d:=⟨_,Wz g2 (i:=k*4+3) (by omega)⟩
    have f3:=Zk g2 (k*4+3)
    have HN:Hid (∃ l cur,Zu ((((w2.setCell ⟨G,k*4,none⟩ (.int .i64 x.fn)).setCell ⟨G,k*4+1,none⟩ (.int .i64 x.at_)).setCell ⟨G,k*4+2,none⟩ (.slice (some ⟨gl,0,none⟩) x.locals.length x.locals.length)).setCell ⟨G,k*4+3,none⟩ (.slice (some ⟨gs,0,none⟩) x.stack.length x.stack.length)) B l∧rdL rdF (n - (k+1)) l=none∧((((w2.setCell ⟨G,k*4,none⟩ (.int .i64 x.fn)).setCell ⟨G,k*4+1,none⟩ (.int .i64 x.at_)).setCell ⟨G,k*4+2,none⟩ (.slice (some ⟨gl,0,none⟩) x.locals.length x.locals.length)).setCell ⟨G,k*4+3,none⟩ (.slice (some ⟨gs,0,none⟩) x.stack.length x.stack.length)).heap[G]?=some (.cells cur 53)∧cur.size=n*4∧Zn B w ((((w2.setCell ⟨G,k*4,none⟩ (.int .i64 x.fn)).setCell ⟨G,k*4+1,none⟩ (.int .i64 x.at_)).setCell ⟨G,k*4+2,none⟩ (.slice (some ⟨gl,0,none⟩) x.locals.length x.locals.length)).setCell ⟨G,k*4+3,none⟩ (.slice (some ⟨gs,0,none⟩) x.stack.length x.stack.length))):=Za ⟨l3,((((cur.setIfInBounds (k*4) (.int .i64 x.fn)).setIfInBounds (k*4+1) (.int .i64 x.at_)).setIfInBounds (k*4+2) (.slice (some ⟨gl,0,none⟩) x.locals.length x.locals.length)).setIfInBounds (k*4+3) (.slice (some ⟨gs,0,none⟩) x.stack.length x.stack.length)),((((q1.set (fun e=>(un HG).1 e.symm) _).set (fun e=>(un HG).1 e.symm) _).set (fun e=>(un HG).1 e.symm) _).set (fun e=>(un HG).1 e.symm) _),un HM,(Zl (Zl (Zl (Zl g2 (k*4) _) (k*4+1) _) (k*4+2) _) (k*4+3) _),by simp [a4],(((((a6.trans q2).setCell (p:=⟨G,k*4,none⟩) (.inr (un HG).2) _).setCell (p:=⟨G,k*4+1,none⟩) (.inr (un HG).2) _).setCell (p:=⟨G,k*4+2,none⟩) (.inr (un HG).2) _).setCell (p:=⟨G,k*4+3,none⟩) (.inr (un HG).2) _)⟩
    clear a1 a3 a4 a6 g2 q1 q2 HA HC
    go_wp2_with fail
    go_roundw
    case rel=>exact ⟨k+1,by omega,by go_num,HN⟩
    case measure=>simp [intOf];omega
  ·obtain rfl:k=n:=by omega
   obtain ⟨_,_,_,h2,_⟩:=un HW
   rw [Nat.sub_self] at h2
   cases h2
theorem Zud (w:World) (B:Nat)  (h:Zu w B ([])):Calls Tryd.prog 66 #[.pointer (some ⟨B,0,none⟩)] w (Yy B w):=by
 have hB:=h.lt
 have HNE:Hid (B≠w.heap.size∧B≠w.heap.size+1):=Za ⟨by omega,by omega⟩
 have LX:Hid (((w.alloc (.cells #[.slice none 0 0,.int .i64 0] 46)).alloc (.cells #[.slice none 0 0,.int .i64 0] 46)).heap[w.heap.size+1]?=some (.cells #[.slice none 0 0,.int .i64 0] 46)):=Za (Zg (by simp))
 have HK:Hid (Zn B w ((w.alloc (.cells #[.slice none 0 0,.int .i64 0] 46)).alloc (.cells #[.slice none 0 0,.int .i64 0] 46))):=Za (((Zn.refl B w).alloc _).alloc _)
 have h0:=(h.k ((Zb.refl w).alloc (.cells #[.slice none 0 0,.int .i64 0] 46))).k ((Zb.refl _).alloc (.cells #[.slice none 0 0,.int .i64 0] 46))
 have HC:=Za (Zan _ B h0)
 clear h hB h0
 go_enter Tryd.func66,Tryd.ntmps66
 go_wp2_with fail
 generalize (w.alloc (.cells #[.slice none 0 0,.int .i64 0] 46)).alloc (.cells #[.slice none 0 0,.int .i64 0] 46)=wa at *
 generalize hRR:w.heap.size=R at LX HNE ⊢
 have HSZ:Hid (w.heap.size≤R+1):=Za (by omega)
 clear hRR
 refine (un HC).mono ?_
 rintro _ wb ⟨rfl,q2⟩
 have HQ:=Za ((un HK).trans q2)
 clear q2 HC
 dsimp only [left]
 go_wp2_with fail
 exact ⟨rfl,rfl,un HQ⟩
theorem Zsq (w:World) (B:Nat) (a:UInt8) (l2:List UInt8) (h3:Xu rdF l2=none) (h:Zu w B (a :: l2)):Calls Tryd.prog 66 #[.pointer (some ⟨B,0,none⟩)] w (Yy B w):=by
 have hB:=h.lt
 have HNE:Hid (B≠w.heap.size∧B≠w.heap.size+1):=Za ⟨by omega,by omega⟩
 have LX:Hid (((w.alloc (.cells #[.slice none 0 0,.int .i64 0] 46)).alloc (.cells #[.slice none 0 0,.int .i64 0] 46)).heap[w.heap.size+1]?=some (.cells #[.slice none 0 0,.int .i64 0] 46)):=Za (Zg (by simp))
 have HK:Hid (Zn B w ((w.alloc (.cells #[.slice none 0 0,.int .i64 0] 46)).alloc (.cells #[.slice none 0 0,.int .i64 0] 46))):=Za (((Zn.refl B w).alloc _).alloc _)
 have h0:=(h.k ((Zb.refl w).alloc (.cells #[.slice none 0 0,.int .i64 0] 46))).k ((Zb.refl _).alloc (.cells #[.slice none 0 0,.int .i64 0] 46))
 have HC:=Za (Yf _ B a _ h0)
 have ha:a.toNat<256:=a.toNat_lt
 have H3:=Za h3
 clear h3
 clear h hB h0
 go_enter Tryd.func66,Tryd.ntmps66
 go_wp2_with fail
 generalize (w.alloc (.cells #[.slice none 0 0,.int .i64 0] 46)).alloc (.cells #[.slice none 0 0,.int .i64 0] 46)=wa at *
 generalize hRR:w.heap.size=R at LX HNE ⊢
 have HSZ:Hid (w.heap.size≤R+1):=Za (by omega)
 clear hRR
 refine (un HC).mono ?_
 rintro _ wb ⟨rfl,q1,q2⟩
 replace LX:=Za (q2.rd (un LX) (un HNE).2.symm)
 replace HK:=Za ((un HK).trans q2)
 have lx:=un LX
 have x1:=Zd lx 1
 have z1:=Zk lx 1
 simp at x1
 have HC2:=Za (Zrk (wb.setCell ⟨R+1,1,none⟩ (.int .i64 ((a.toNat:Int) - 1))) B l2 (q1.set (un HNE).2 _) (un H3))
 clear q1 q2 lx HC
 go_wp2_with fail
 replace LX:=Za (Zl (un LX) 1 (.int .i64 ((a.toNat:Int) - 1)))
 replace HK:=Za ((un HK).setCell (p:=⟨R+1,1,none⟩) (.inr (un HSZ)) (.int .i64 ((a.toNat:Int) - 1)))
 generalize wb.setCell ⟨R+1,1,none⟩ (.int .i64 ((a.toNat:Int) - 1))=wd at *
 have HC:=HC2
 clear x1 z1 HC2
 refine (un HC).mono ?_
 rintro _ wb ⟨rfl,q2⟩
 have HQ:=Za ((un HK).trans q2)
 clear q2 HC
 dsimp only [left]
 go_wp2_with fail
 exact ⟨rfl,rfl,un HQ⟩
theorem Xah (w:World) (B:Nat) (l:List UInt8) (h:Zu w B l) (hx:rdB l=none):Calls Tryd.prog 66 #[.pointer (some ⟨B,0,none⟩)] w (Yy B w):=by
 rcases Zsd hx with rfl | ⟨a,l',rfl,h1⟩
 ·exact Zud w B h
 ·exact Zsq w B a l' h1 h
theorem Xcd (w:World) (B:Nat) (l:List UInt8) (h:Zu w B l) (hx:Xu rdB l=none) :
  Calls Tryd.prog 65 #[.pointer (some ⟨B,0,none⟩),.func (.func 66) #[.pointer (some ⟨B,0,none⟩)] #[]] w (Yy B w):=by
 rcases Zje hx with rfl | ⟨b,l',rfl,hr⟩
 ·have HS:=Za (Zan w B h)
  clear hx h
  go_enter Tryd.func65,Tryd.ntmps65
  go_wp2_with fail
  refine (un HS).mono ?_
  rintro _ w1 ⟨rfl,q2⟩
  have HQ:=Za q2
  clear q2
  dsimp only [left]
  go_wp2_with fail
  exact ⟨rfl,rfl,un HQ⟩
 have HS:=Za (Yf w B b l' h)
 have hb:b.toNat<256:=b.toNat_lt
 have HR:=Za hr
 generalize hN:b.toNat=n at *
 have hmk:=Zkz n (by omega)
 clear hx hr h hN
 go_enter Tryd.func65,Tryd.ntmps65
 go_wp2_with fail
 refine (un HS).mono ?_
 rintro _ w1 ⟨rfl,q1,q2⟩
 have HG:Hid (w1.heap.size≠B∧w.heap.size≤w1.heap.size):=Za ⟨by have:=q1.lt;omega,q2.size⟩
 have H1:Hid (∃ cur,Zu (w1.alloc (.cells (madeCells #[.slice none 0 0,.int .i64 0] (n*2)) 46)) B l'∧rdL rdB (n - 0) l'=none∧(w1.alloc (.cells (madeCells #[.slice none 0 0,.int .i64 0] (n*2)) 46)).heap[w1.heap.size]?=some (.cells cur 46)∧cur.size=n*2∧Zn B w (w1.alloc (.cells (madeCells #[.slice none 0 0,.int .i64 0] (n*2)) 46))):=Za ⟨_,q1.k ((Zb.refl w1).alloc _),by simpa using un HR,Zg rfl,by simp [Zfz],q2.alloc _⟩
 clear q1 q2 HS
 go_wp2_with fail
 generalize w1.alloc (.cells (madeCells #[.slice none 0 0,.int .i64 0] (n*2)) 46)=wm at H1 ⊢
 generalize w1.heap.size=G at H1 HG ⊢
 go_loopw [12] (fun s12 wr=>∃ k:Nat,k≤n∧s12=.int .i64 k∧Hid (∃ l cur,Zu wr B l∧rdL rdB (n - k) l=none∧wr.heap[G]?=some (.cells cur 46)∧cur.size=n*2∧Zn B w wr)) (fun s12 _=>n - (intOf s12).toNat)
 case atStart =>
  obtain ⟨cur,hh⟩:=un H1
  exact ⟨0,Nat.zero_le _,rfl,Za ⟨l',cur,hh⟩⟩
 case round =>
  obtain ⟨k,hkm,rfl,HW⟩:=hrel
  by_cases hk:k<n
  ·obtain ⟨l2,cur,a1,a2,a3,a4,a6⟩:=un HW
   obtain ⟨m,hm⟩:∃ m,n - k=m+1:=⟨n - k - 1,by omega⟩
   rw [hm] at a2
   have hk0:(0:Int)≤(k:Int):=by omega
   have hk1:(k:Int)<(n:Int):=by omega
   rcases Zjm a2 with b1 | ⟨x,l3,b1,b2⟩
   ·have HC:=Za (Xah wr B l2 a1 b1)
    have H6:=Za a6
    clear a1 a2 a3 a4 a6 b1 hm HW
    go_wp2_with fail
    refine (un HC).mono ?_
    rintro _ w2 ⟨rfl,q2⟩
    have HQ:=Za ((un H6).trans q2)
    clear q2 H6 HC
    dsimp only [left]
    go_wp2_with fail
    exact ⟨rfl,rfl,un HQ⟩
   ·have HC:=Za (Zmd wr B l2 l3 x a1 b1)
    have HA:=Za (And.intro a1 (And.intro a3 (And.intro a4 a6)))
    have HM:Hid (rdL rdB (n - (k+1)) l3=none):=Za (by rw [show n - (k+1)=m by omega];exact b2)
    clear a1 a2 a3 a4 a6 b1 b2 hm HW
    go_wp2_with fail
    refine (un HC).mono ?_
    rintro _ w2 ⟨gf,rfl,-,q1,q2⟩
    obtain ⟨a1,a3,a4,a6⟩:=un HA
    have g2:=q2.rd a3 (un HG).1
    obtain ⟨d0,c0⟩:∃ d,w2.cell? ⟨G,k*2,none⟩=some d:=⟨_,Wz g2 (i:=k*2) (by omega)⟩
    have f0:=Zk g2 (k*2)
    obtain ⟨d1,c1⟩:∃ d,w2.cell? ⟨G,k*2+1,none⟩=some d:=⟨_,Wz g2 (i:=k*2+1) (by omega)⟩
    have f1:=Zk g2 (k*2+1)
    have HN:Hid (∃ l cur,Zu ((w2.setCell ⟨G,k*2,none⟩ (.slice (some ⟨gf,0,none⟩) x.frames.length x.frames.length)).setCell ⟨G,k*2+1,none⟩ (.int .i64 x.caller)) B l∧rdL rdB (n - (k+1)) l=none∧((w2.setCell ⟨G,k*2,none⟩ (.slice (some ⟨gf,0,none⟩) x.frames.length x.frames.length)).setCell ⟨G,k*2+1,none⟩ (.int .i64 x.caller)).heap[G]?=some (.cells cur 46)∧cur.size=n*2∧Zn B w ((w2.setCell ⟨G,k*2,none⟩ (.slice (some ⟨gf,0,none⟩) x.frames.length x.frames.length)).setCell ⟨G,k*2+1,none⟩ (.int .i64 x.caller))):=Za ⟨l3,((cur.setIfInBounds (k*2) (.slice (some ⟨gf,0,none⟩) x.frames.length x.frames.length)).setIfInBounds (k*2+1) (.int .i64 x.caller)),((q1.set (fun e=>(un HG).1 e.symm) _).set (fun e=>(un HG).1 e.symm) _),un HM,(Zl (Zl g2 (k*2) _) (k*2+1) _),by simp [a4],(((a6.trans q2).setCell (p:=⟨G,k*2,none⟩) (.inr (un HG).2) _).setCell (p:=⟨G,k*2+1,none⟩) (.inr (un HG).2) _)⟩
    clear a1 a3 a4 a6 g2 q1 q2 HA HC
    go_wp2_with fail
    go_roundw
    case rel=>exact ⟨k+1,by omega,by go_num,HN⟩
    case measure=>simp [intOf];omega
  ·obtain rfl:k=n:=by omega
   obtain ⟨_,_,_,h2,_⟩:=un HW
   rw [Nat.sub_self] at h2
   cases h2
theorem Zuc (w:World) (B:Nat)  (h:Zu w B ([])):Calls Tryd.prog 42 #[.pointer (some ⟨B,0,none⟩)] w (Yy B w):=by
 have hB:=h.lt
 have HNE:Hid (B≠w.heap.size∧B≠w.heap.size+1):=Za ⟨by omega,by omega⟩
 have LX:Hid (((w.alloc (.cells #[.slice none 0 0,.int .i64 0,.slice none 0 0] 26)).alloc (.cells #[.slice none 0 0,.int .i64 0,.slice none 0 0] 26)).heap[w.heap.size+1]?=some (.cells #[.slice none 0 0,.int .i64 0,.slice none 0 0] 26)):=Za (Zg (by simp))
 have HK:Hid (Zn B w ((w.alloc (.cells #[.slice none 0 0,.int .i64 0,.slice none 0 0] 26)).alloc (.cells #[.slice none 0 0,.int .i64 0,.slice none 0 0] 26))):=Za (((Zn.refl B w).alloc _).alloc _)
 have h0:=(h.k ((Zb.refl w).alloc (.cells #[.slice none 0 0,.int .i64 0,.slice none 0 0] 26))).k ((Zb.refl _).alloc (.cells #[.slice none 0 0,.int .i64 0,.slice none 0 0] 26))
 have HC:=Za (Zan _ B h0)
 clear h hB h0
 go_enter Tryd.func42,Tryd.ntmps42
 go_wp2_with fail
 generalize (w.alloc (.cells #[.slice none 0 0,.int .i64 0,.slice none 0 0] 26)).alloc (.cells #[.slice none 0 0,.int .i64 0,.slice none 0 0] 26)=wa at *
 generalize hRR:w.heap.size=R at LX HNE ⊢
 have HSZ:Hid (w.heap.size≤R+1):=Za (by omega)
 clear hRR
 refine (un HC).mono ?_
 rintro _ wb ⟨rfl,q2⟩
 have HQ:=Za ((un HK).trans q2)
 clear q2 HC
 dsimp only [left]
 go_wp2_with fail
 exact ⟨rfl,rfl,un HQ⟩
theorem Xci (w:World) (B:Nat) (a:UInt8) (l2:List UInt8) (h3:Xu rdB l2=none) (h:Zu w B (a :: l2)):Calls Tryd.prog 42 #[.pointer (some ⟨B,0,none⟩)] w (Yy B w):=by
 have hB:=h.lt
 have HNE:Hid (B≠w.heap.size∧B≠w.heap.size+1):=Za ⟨by omega,by omega⟩
 have LX:Hid (((w.alloc (.cells #[.slice none 0 0,.int .i64 0,.slice none 0 0] 26)).alloc (.cells #[.slice none 0 0,.int .i64 0,.slice none 0 0] 26)).heap[w.heap.size+1]?=some (.cells #[.slice none 0 0,.int .i64 0,.slice none 0 0] 26)):=Za (Zg (by simp))
 have HK:Hid (Zn B w ((w.alloc (.cells #[.slice none 0 0,.int .i64 0,.slice none 0 0] 26)).alloc (.cells #[.slice none 0 0,.int .i64 0,.slice none 0 0] 26))):=Za (((Zn.refl B w).alloc _).alloc _)
 have h0:=(h.k ((Zb.refl w).alloc (.cells #[.slice none 0 0,.int .i64 0,.slice none 0 0] 26))).k ((Zb.refl _).alloc (.cells #[.slice none 0 0,.int .i64 0,.slice none 0 0] 26))
 have HC:=Za (Yf _ B a _ h0)
 have ha:a.toNat<256:=a.toNat_lt
 have H3:=Za h3
 clear h3
 clear h hB h0
 go_enter Tryd.func42,Tryd.ntmps42
 go_wp2_with fail
 generalize (w.alloc (.cells #[.slice none 0 0,.int .i64 0,.slice none 0 0] 26)).alloc (.cells #[.slice none 0 0,.int .i64 0,.slice none 0 0] 26)=wa at *
 generalize hRR:w.heap.size=R at LX HNE ⊢
 have HSZ:Hid (w.heap.size≤R+1):=Za (by omega)
 clear hRR
 refine (un HC).mono ?_
 rintro _ wb ⟨rfl,q1,q2⟩
 replace LX:=Za (q2.rd (un LX) (un HNE).2.symm)
 replace HK:=Za ((un HK).trans q2)
 have lx:=un LX
 have x1:=Zd lx 1
 have z1:=Zk lx 1
 simp at x1
 have HC2:=Za (Xcd (wb.setCell ⟨R+1,1,none⟩ (.int .i64 ((a.toNat:Int) - 1))) B l2 (q1.set (un HNE).2 _) (un H3))
 clear q1 q2 lx HC
 go_wp2_with fail
 replace LX:=Za (Zl (un LX) 1 (.int .i64 ((a.toNat:Int) - 1)))
 replace HK:=Za ((un HK).setCell (p:=⟨R+1,1,none⟩) (.inr (un HSZ)) (.int .i64 ((a.toNat:Int) - 1)))
 generalize wb.setCell ⟨R+1,1,none⟩ (.int .i64 ((a.toNat:Int) - 1))=wd at *
 have HC:=HC2
 clear x1 z1 HC2
 refine (un HC).mono ?_
 rintro _ wb ⟨rfl,q2⟩
 have HQ:=Za ((un HK).trans q2)
 clear q2 HC
 dsimp only [left]
 go_wp2_with fail
 exact ⟨rfl,rfl,un HQ⟩
theorem Xbf (w:World) (B:Nat) (a:UInt8) (l2 r3:List UInt8) (x:List Fb) (h3:Xu rdB l2=some (x,r3)) (h4:Xu rdV r3=none) (h:Zu w B (a :: l2)):Calls Tryd.prog 42 #[.pointer (some ⟨B,0,none⟩)] w (Yy B w):=by
 have hB:=h.lt
 have HNE:Hid (B≠w.heap.size∧B≠w.heap.size+1):=Za ⟨by omega,by omega⟩
 have LX:Hid (((w.alloc (.cells #[.slice none 0 0,.int .i64 0,.slice none 0 0] 26)).alloc (.cells #[.slice none 0 0,.int .i64 0,.slice none 0 0] 26)).heap[w.heap.size+1]?=some (.cells #[.slice none 0 0,.int .i64 0,.slice none 0 0] 26)):=Za (Zg (by simp))
 have HK:Hid (Zn B w ((w.alloc (.cells #[.slice none 0 0,.int .i64 0,.slice none 0 0] 26)).alloc (.cells #[.slice none 0 0,.int .i64 0,.slice none 0 0] 26))):=Za (((Zn.refl B w).alloc _).alloc _)
 have h0:=(h.k ((Zb.refl w).alloc (.cells #[.slice none 0 0,.int .i64 0,.slice none 0 0] 26))).k ((Zb.refl _).alloc (.cells #[.slice none 0 0,.int .i64 0,.slice none 0 0] 26))
 have HC:=Za (Yf _ B a _ h0)
 have ha:a.toNat<256:=a.toNat_lt
 have H3:=Za h3
 have H4:=Za h4
 clear h3 h4
 clear h hB h0
 go_enter Tryd.func42,Tryd.ntmps42
 go_wp2_with fail
 generalize (w.alloc (.cells #[.slice none 0 0,.int .i64 0,.slice none 0 0] 26)).alloc (.cells #[.slice none 0 0,.int .i64 0,.slice none 0 0] 26)=wa at *
 generalize hRR:w.heap.size=R at LX HNE ⊢
 have HSZ:Hid (w.heap.size≤R+1):=Za (by omega)
 clear hRR
 refine (un HC).mono ?_
 rintro _ wb ⟨rfl,q1,q2⟩
 replace LX:=Za (q2.rd (un LX) (un HNE).2.symm)
 replace HK:=Za ((un HK).trans q2)
 have lx:=un LX
 have x1:=Zd lx 1
 have z1:=Zk lx 1
 simp at x1
 have HC2:=Za (Znm (wb.setCell ⟨R+1,1,none⟩ (.int .i64 ((a.toNat:Int) - 1))) B l2 r3 x (q1.set (un HNE).2 _) (un H3))
 clear q1 q2 lx HC
 go_wp2_with fail
 replace LX:=Za (Zl (un LX) 1 (.int .i64 ((a.toNat:Int) - 1)))
 replace HK:=Za ((un HK).setCell (p:=⟨R+1,1,none⟩) (.inr (un HSZ)) (.int .i64 ((a.toNat:Int) - 1)))
 generalize wb.setCell ⟨R+1,1,none⟩ (.int .i64 ((a.toNat:Int) - 1))=wd at *
 have HC:=HC2
 clear x1 z1 HC2
 refine (un HC).mono ?_
 rintro _ wb ⟨gf,rfl,-,q1,q2⟩
 replace LX:=Za (q2.rd (un LX) (un HNE).2.symm)
 replace HK:=Za ((un HK).trans q2)
 have lx:=un LX
 have x0:=Zd lx 0
 have z0:=Zk lx 0
 simp [List.setIfInBounds_toArray] at x0
 have HC2:=Za (Zjh (wb.setCell ⟨R+1,0,none⟩ (.slice (some ⟨gf,0,none⟩) x.length x.length)) B r3 (q1.set (un HNE).2 _) (un H4))
 clear q1 q2 lx HC
 go_wp2_with fail
 replace LX:=Za (Zl (un LX) 0 (.slice (some ⟨gf,0,none⟩) x.length x.length))
 replace HK:=Za ((un HK).setCell (p:=⟨R+1,0,none⟩) (.inr (un HSZ)) (.slice (some ⟨gf,0,none⟩) x.length x.length))
 generalize wb.setCell ⟨R+1,0,none⟩ (.slice (some ⟨gf,0,none⟩) x.length x.length)=wd at *
 have HC:=HC2
 clear x0 z0 HC2
 refine (un HC).mono ?_
 rintro _ wb ⟨rfl,q2⟩
 have HQ:=Za ((un HK).trans q2)
 clear q2 HC
 dsimp only [left]
 go_wp2_with fail
 exact ⟨rfl,rfl,un HQ⟩
theorem Zqw (w:World) (B:Nat) (l:List UInt8) (h:Zu w B l) (hx:rdS l=none):Calls Tryd.prog 42 #[.pointer (some ⟨B,0,none⟩)] w (Yy B w):=by
 rcases Zph hx with rfl | ⟨a,l',rfl,h1 | ⟨x,r,h1,h2⟩⟩
 ·exact Zuc w B h
 ·exact Xci w B a l' h1 h
 ·exact Xbf w B a l' r x h1 h2 h
theorem asErrS (v:Value) (w:World):(Instr.typeAssert (.iface 27 v) 20 27 false).run Tryd.prog w=.ok v w:=by kernel_rfl
theorem Zwz (g:Nat) (x e:Int) (older:List PanicEntry) (w:World) (hc:w.heap[g]?=some (.cells #[.int .i64 x] 27)) :
  CallsD Tryd.prog 41 #[.pointer (some ⟨g,0,none⟩)] (.panicking ({ v:=.iface 27 (.int .i64 e),recovered:=false } :: older)) w fun en u' w' =>
   en=.returned (.tuple #[])∧u'=.panicking ({ v:=.iface 27 (.int .i64 e),recovered:=true } :: older)∧w'=w.setCell ⟨g,0,none⟩ (.int .i64 e):=by
 have c0:w.cell? ⟨g,0,none⟩=some (.int .i64 x):=Zd hc 0
 have z0:=Zk hc 0
 refine callsD_of_wpS Tryd.func41 rfl fun c₀ cs hu=>?_
 apply wpS_seq
 apply wpS_region
 simp [wpOpsS,go_sem,recoverD,hu,Tryd.ntmps41,Exit.thenS]
 have ht:(#[Value.pointer (some ⟨g,0,none⟩)]++((Array.replicate 6 undef).setIfInBounds 1 (Value.iface 27 (.int .i64 e))).setIfInBounds 0 (Value.iface 27 (.int .i64 e)))=#[Value.pointer (some ⟨g,0,none⟩),Value.iface 27 (.int .i64 e),Value.iface 27 (.int .i64 e),undef,undef,undef,undef]:=rfl
 rw [ht]
 apply wpS_seq
 apply wpS_region
 simp [wpOpsS,go_sem,Exit.thenS]
 refine wpS_cond (t:=true) (by simp [Act.eval]) ?_
 simp only [if_true]
 apply wpS_region
 simp [wpOpsS,go_sem,asErrS,c0,z0,bodyPostS,results,Tryd.results41]
theorem Ztw (w:World) (l:List UInt8) (hx:rdS l=none) :
  Calls Tryd.prog 21 #[.string ⟨l.toArray⟩] w fun e w'=>e=.returned (.tuple #[.agg #[.slice none 0 0,.int .i64 0,.slice none 0 0],.int .i64 1])∧Zb w w':=by
 have LR:Hid ((((w.alloc (.cells #[.slice none 0 0,.int .i64 0,.slice none 0 0] 26)).alloc (.cells #[.int .i64 0] 27)).alloc (.cells #[.string ⟨l.toArray⟩] 81)).heap[w.heap.size]?=some (.cells #[.slice none 0 0,.int .i64 0,.slice none 0 0] 26)):=Za (Zr (Zr (Zg rfl) _) _)
 have LE:Hid ((((w.alloc (.cells #[.slice none 0 0,.int .i64 0,.slice none 0 0] 26)).alloc (.cells #[.int .i64 0] 27)).alloc (.cells #[.string ⟨l.toArray⟩] 81)).heap[w.heap.size+1]?=some (.cells #[.int .i64 0] 27)):=Za (Zr (Zg (by simp)) _)
 have LB:Zu (((w.alloc (.cells #[.slice none 0 0,.int .i64 0,.slice none 0 0] 26)).alloc (.cells #[.int .i64 0] 27)).alloc (.cells #[.string ⟨l.toArray⟩] 81)) (w.heap.size+1+1) l:=Zg (by simp)
 have HC:=Za (Zqw _ _ l LB hx)
 have HK:Hid (Zb w (((w.alloc (.cells #[.slice none 0 0,.int .i64 0,.slice none 0 0] 26)).alloc (.cells #[.int .i64 0] 27)).alloc (.cells #[.string ⟨l.toArray⟩] 81))):=Za ((((Zb.refl w).alloc _).alloc _).alloc _)
 have HSZ:Hid (w.heap.size+1+1≠w.heap.size∧w.heap.size+1+1≠w.heap.size+1):=Za ⟨by omega,by omega⟩
 clear hx LB
 generalize (ByteArray.mk l.toArray)=S at *
 go_enter_defers Tryd.func21,Tryd.ntmps21
 go_wp2_with fail
 generalize (((w.alloc (.cells #[.slice none 0 0,.int .i64 0,.slice none 0 0] 26)).alloc (.cells #[.int .i64 0] 27)).alloc (.cells #[.string S] 81))=wa at *
 generalize hRR:w.heap.size=R at LR LE HC HSZ ⊢
 have HR:Hid (w.heap.size≤R):=Za (by omega)
 clear hRR
 refine (un HC).mono ?_
 rintro _ w1 ⟨rfl,q2⟩
 have lr:=q2.rd (un LR) (un HSZ).1.symm
 have le:=q2.rd (un LE) (un HSZ).2.symm
 have HK1:Hid (Zb w w1):=Za (Zn.kept (un HK) (Nat.le_trans (un HR) (by omega)) q2)
 have g4:=Zz lr (a:=⟨R+1,0,none⟩) (by simp) (.int .i64 1)
 have ge:=Zl le 0 (.int .i64 1)
 have t0:=Zd g4 0
 have t1:=Zd g4 1
 have t2:=Zd g4 2
 have t3:=Zd ge 0
 simp only [List.setIfInBounds_toArray,List.set_cons_zero,List.getElem?_toArray,List.getElem?_cons_zero,List.getElem?_cons_succ] at t0 t1 t2 t3
 have HT:=Za (And.intro t0 (And.intro t1 (And.intro t2 t3)))
 have HLE:=Za le
 clear q2 HC lr le g4 ge t0 t1 t2 t3
 dsimp only [left]
 go_wp2_with fail
 refine leaves_cons (f:=41) (args:=#[.pointer (some ⟨R+1,0,none⟩)]) (by simp) (by simp [go_sem]) ?_
 refine (Zwz (R+1) 0 1 [] _ (un HLE)).mono ?_
 rintro e u' w'' ⟨rfl,rfl,rfl⟩
 obtain ⟨t0,t1,t2,t3⟩:=un HT
 have HKF:=(un HK1).setCell (p:=⟨R+1,0,none⟩) (Nat.le_trans (un HR) (Nat.le_succ R)) (.int .i64 1)
 generalize w1.setCell ⟨R+1,0,none⟩ (.int .i64 1)=wy at t0 t1 t2 t3 HKF ⊢
 simp [Leaves,settle,results,Tryd.results21,go_sem,t0,t1,t2,t3]
 exact HKF
theorem Zdn (b:UInt8):Xg (b.toNat:Nat)=b:=by
 have h:=b.toNat_lt
 apply UInt8.toNat_inj.1
 have:=Znd (n:=b.toNat) h
 exact this
theorem Zro {l r:List UInt8} {v:Int} (h:rdV l=some (v,r)):∃ b7 b6 b5 b4 b3 b2 b1 b0,l=b7 :: b6 :: b5 :: b4 :: b3 :: b2 :: b1 :: b0 :: r∧v=Yd (Yd (Yd (Yd (Yd (Yd (Yd (Yd 0 b7) b6) b5) b4) b3) b2) b1) b0:=by
 match l with
 | b7 :: b6 :: b5 :: b4 :: b3 :: b2 :: b1 :: b0 :: r' =>
  simp only [rdV,rdK,Option.some.injEq,Prod.mk.injEq] at h
  exact ⟨b7,b6,b5,b4,b3,b2,b1,b0,by rw [h.2],h.1.symm⟩
 | []=>cases h
 | [_]=>cases h
 | [_,_]=>cases h
 | [_,_,_]=>cases h
 | [_,_,_,_]=>cases h
 | [_,_,_,_,_]=>cases h
 | [_,_,_,_,_,_]=>cases h
 | [_,_,_,_,_,_,_]=>cases h
theorem Zal {v u:Int} {b:UInt8} (hv:v=(u+9223372036854775808) % 18446744073709551616 - 9223372036854775808):Yd v b=(u*256+(b.toNat:Int)+9223372036854775808) % 18446744073709551616 - 9223372036854775808:=by
 unfold Yd
 rw [IntKind.wrap_i64,hv]
 omega
theorem Zar {n:Int} {b:UInt8} (h:n % 256=(b.toNat:Int)):Xg n=b:=by
 apply UInt8.toNat_inj.1
 have:=Zat n
 omega
theorem Zhh {l r:List UInt8} {v:Int} (h:rdV l=some (v,r)):Qd v++r=l∧V8 v:=by
 obtain ⟨b7,b6,b5,b4,b3,b2,b1,b0,rfl,hv⟩:=Zro h
 have l7:=b7.toNat_lt
 have l6:=b6.toNat_lt
 have l5:=b5.toNat_lt
 have l4:=b4.toNat_lt
 have l3:=b3.toNat_lt
 have l2:=b2.toNat_lt
 have l1:=b1.toNat_lt
 have l0:=b0.toNat_lt
 have e7:=Zal (v:=0) (u:=0) (b:=b7) (by decide)
 have e6:=Zal (b:=b6) e7
 have e5:=Zal (b:=b5) e6
 have e4:=Zal (b:=b4) e5
 have e3:=Zal (b:=b3) e4
 have e2:=Zal (b:=b2) e3
 have e1:=Zal (b:=b1) e2
 have e0:=Zal (b:=b0) e1
 rw [← hv] at e0
 clear h hv e1 e2 e3 e4 e5 e6 e7
 rw [Zns]
 generalize hn7:b7.toNat=n7 at *
 generalize hn6:b6.toNat=n6 at *
 generalize hn5:b5.toNat=n5 at *
 generalize hn4:b4.toNat=n4 at *
 generalize hn3:b3.toNat=n3 at *
 generalize hn2:b2.toNat=n2 at *
 generalize hn1:b1.toNat=n1 at *
 generalize hn0:b0.toNat=n0 at *
 rw [Zar (b:=b7) (by rw [hn7];omega),Zar (b:=b6) (by rw [hn6];omega),Zar (b:=b5) (by rw [hn5];omega),Zar (b:=b4) (by rw [hn4];omega),Zar (b:=b3) (by rw [hn3];omega),Zar (b:=b2) (by rw [hn2];omega),Zar (b:=b1) (by rw [hn1];omega),Zar (b:=b0) (by rw [hn0];omega)]
 exact ⟨rfl,by unfold V8;omega⟩
theorem Znn {α:Type} {f:List UInt8→Option (α × List UInt8)} {g:α→List UInt8} {Q:α→Prop} (hf:∀ l x r,f l=some (x,r)→g x++r=l∧Q x):∀ (n:Nat) (l r:List UInt8) (xs:List α),rdL f n l=some (xs,r)→xs.flatMap g++r=l∧∀ x∈xs,Q x
 | 0,l,r,xs,h=>by
  simp only [rdL,Option.some.injEq,Prod.mk.injEq] at h
  obtain ⟨rfl,rfl⟩:=h
  exact ⟨rfl,by simp⟩
 | n+1,l,r,xs,h=>by
  obtain ⟨x,l',ys,h1,h2,rfl⟩:=Zcm h
  obtain ⟨q1,q2⟩:=hf l x l' h1
  obtain ⟨q3,q4⟩:=Znn hf n l' r ys h2
  refine ⟨by rw [List.flatMap_cons,List.append_assoc,q3,q1],fun y hy=>?_⟩
  rcases List.mem_cons.1 hy with rfl | hy
  ·exact q2
  ·exact q4 y hy
theorem Zde {α:Type} {f:List UInt8→Option (α × List UInt8)} {g:α→List UInt8} {Q:α→Prop} (hf:∀ l x r,f l=some (x,r)→g x++r=l∧Q x) {l r:List UInt8} {xs:List α} (h:Xu f l=some (xs,r)):Xp g xs++r=l∧xs.length<256∧∀ x∈xs,Q x:=by
 obtain ⟨b,l',rfl,hr⟩:=Zdp h
 have hl:=Zec hr
 have hb:=b.toNat_lt
 obtain ⟨q1,q2⟩:=Znn hf _ _ _ _ hr
 refine ⟨?_,by omega,q2⟩
 unfold Xp
 rw [hl,Zdn,List.cons_append,q1]
def FrQ (x:Fr):Prop:=(0≤x.fn∧x.fn<256)∧(0≤x.at_∧x.at_<256)∧(x.locals.length<256∧∀ v∈x.locals,V8 v)∧(x.stack.length<256∧∀ v∈x.stack,V8 v)
theorem Zvw (l:List UInt8) (x:Fr) (r:List UInt8) (h:rdF l=some (x,r)):Qx x++r=l∧FrQ x:=by
 obtain ⟨a,b,l',rfl,r3,h3,h4,e1,e2⟩:=Zhf h
 obtain ⟨p1,p2,p3⟩:=Zde (fun l x r h=>Zhh h) h3
 obtain ⟨p4,p5,p6⟩:=Zde (fun l x r h=>Zhh h) h4
 have ha:=a.toNat_lt
 have hb:=b.toNat_lt
 refine ⟨?_,⟨by omega,by omega⟩,⟨by omega,by omega⟩,⟨p2,p3⟩,⟨p5,p6⟩⟩
 unfold Qx
 rw [e1,e2,Zdn,Zdn]
 simp only [List.cons_append,List.append_assoc,p4,p1]
def FbQ (x:Fb):Prop:=-1≤x.caller∧x.caller<255∧x.frames.length<256∧∀ f∈x.frames,FrQ f
theorem Xam (l:List UInt8) (x:Fb) (r:List UInt8) (h:rdB l=some (x,r)):Ja x++r=l∧FbQ x:=by
 obtain ⟨a,l',rfl,h3,e1⟩:=Zht h
 obtain ⟨p1,p2,p3⟩:=Zde Zvw h3
 have ha:=a.toNat_lt
 refine ⟨?_,by omega,by omega,p2,p3⟩
 unfold Ja
 rw [e1,show (a.toNat:Int) - 1+1=(a.toNat:Nat) by omega,Zdn,List.cons_append,p1]
theorem Zms {l r:List UInt8} {s:St} (h:rdS l=some (s,r)):Xk s++r=l∧StB s:=by
 obtain ⟨a,l',rfl,r3,h3,h4,e1⟩:=Zhx h
 obtain ⟨p1,p2,p3⟩:=Zde Xam h3
 obtain ⟨p4,p5,p6⟩:=Zde (fun l x r h=>Zhh h) h4
 have ha:=a.toNat_lt
 refine ⟨?_,⟨⟨by omega,by omega⟩,p2,⟨p5,p6⟩,fun b hb=>?_⟩⟩
 ·unfold Xk
  rw [e1,show (a.toNat:Int) - 1+1=(a.toNat:Nat) by omega,Zdn]
  simp only [List.cons_append,List.append_assoc,p4,p1]
 ·obtain ⟨q1,q2,q3,q4⟩:=p3 b hb
  exact ⟨q1,q2,q3,q4⟩
theorem StB.small {s:St} (h:StB s):Yi s:=by
 refine ⟨by have:=h.fibers;omega,by have:=h.out.1;omega,fun b hb=>?_⟩
 obtain ⟨_,_,q3,q4⟩:=h.fiber b hb
 refine ⟨by omega,fun f hf=>?_⟩
 obtain ⟨_,_,q5,q6⟩:=q4 f hf
 exact ⟨by omega,by omega⟩
end Go.Proofs.YtblihfpigjiahaaDoor
