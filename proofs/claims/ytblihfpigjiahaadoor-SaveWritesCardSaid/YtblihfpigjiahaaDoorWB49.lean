/- SaveEg -/
import Derived.Test.YtblihfpigjiahaaDoorWB47
import Derived.Test.YtblihfpigjiahaaDoorWB48
import Derived.Laws.Strings
set_option maxRecDepth 100000
set_option maxHeartbeats 8000000
namespace Go.Proofs.YtblihfpigjiahaaDoor
open Go.RowKit Go.Maps
theorem Zue (w:World) (vp:Value) (p:List Fn) (l:List UInt8)
  (HE:Hid (∀ u v s,Zb w u→Zy u v s→Calls Tryd.prog 6 #[vp,v] u fun en w'=>en=.returned (.int .i64 (Xa p s))∧Zb u w'))
  (HY:Hid (∀ u v s,Zb w u→Zy u v s→Xa p s=0→StW s→Calls Tryd.prog 7 #[v] u fun en w'=>en=.returned (.string ⟨(Xk s).toArray⟩)∧Zb u w')) :
  Pg w vp l ((Wt p l).getD St.zero) (Wt p l).isSome:=by
 unfold Pg
 have HC:Hid (∀ S:ByteArray,S=⟨l.toArray⟩→∀ u:World,Calls Tryd.prog 24 #[.pointer (some ⟨u.heap.size+1,0,none⟩)] ((u.alloc (.cells #[.slice none 0 0,.int .i64 0,.slice none 0 0] 26)).alloc (.cells #[.string S] 63)) fun en w'=>en=.returned (.int .i64 ((eaN l).1:Nat))∧Qh w' (u.heap.size+1) (eaN l).2∧Zn (u.heap.size+1) ((u.alloc (.cells #[.slice none 0 0,.int .i64 0,.slice none 0 0] 26)).alloc (.cells #[.string S] 63)) w'):=Za (by
  rintro S rfl u
  exact Zfu _ _ l (by
   have:=Zg (w:=u.alloc (.cells #[.slice none 0 0,.int .i64 0,.slice none 0 0] 26)) (o:=.cells #[.string ⟨l.toArray⟩] 63) rfl
   rw [show (u.alloc (.cells #[.slice none 0 0,.int .i64 0,.slice none 0 0] 26)).heap.size=u.heap.size+1 by simp] at this
   exact this))
 have HEB:Hid (∀ W B m,Qh W B m→Calls Tryd.prog 24 #[.pointer (some ⟨B,0,none⟩)] W (Zil B (.int .i64 ((eaN m).1:Nat)) (eaN m).2 W)):=Za Zfu
 have HEM:Hid (∀ W B m,Qh W B m→Calls Tryd.prog 25 #[.pointer (some ⟨B,0,none⟩)] W fun en w'=>∃ cv,en=.returned cv∧Zax 3 1 B W w' cv (Qi eaV m).1.length (ints (Qi eaV m).1)∧Qh w' B (Qi eaV m).2):=Za Zyl
 have HLR:Hid (((w.alloc (.cells #[.slice none 0 0,.int .i64 0,.slice none 0 0] 26)).alloc (.cells #[.string ⟨l.toArray⟩] 63)).heap[w.heap.size]?=some (.cells #[.slice none 0 0,.int .i64 0,.slice none 0 0] 26)):=Za (Zr (Zg rfl) _)
 have HKA:Hid (Zb w ((w.alloc (.cells #[.slice none 0 0,.int .i64 0,.slice none 0 0] 26)).alloc (.cells #[.string ⟨l.toArray⟩] 63))):=Za (((Zb.refl w).alloc _).alloc _)
 have hlt:=Zch l
 have HES:Hid (eaS l=(⟨(Qi eaB (eaN l).2).1,((eaN l).1:Int) - 1,(Qi eaV (Qi eaB (eaN l).2).2).1⟩,(Qi eaV (Qi eaB (eaN l).2).2).2)):=Za rfl
 generalize (eaN l).1=n0 at *
 generalize (eaN l).2=m0 at *
 have hnow:wrap64 ((n0:Int) - 1)=(n0:Int) - 1:=by unfold wrap64;omega
 generalize hS:(ByteArray.mk l.toArray)=S at *
 go_enter Tryd.func10,Tryd.ntmps10
 go_wp2_with fail
 refine ((un HC) S rfl w).mono ?_
 rintro _ w1 ⟨rfl,h1,k1⟩
 obtain ⟨R0,hR⟩:∃ r,r=w.heap.size:=⟨_,rfl⟩
 obtain ⟨B,hB⟩:∃ r,r=w.heap.size+1:=⟨_,rfl⟩
 rw [← hB] at h1 k1
 have HRB:Hid (w.heap.size≤R0∧w.heap.size≤B∧R0≠B):=Za ⟨by omega,by omega,by omega⟩
 have HL1:Hid (w1.heap[R0]?=some (.cells #[.slice none 0 0,.int .i64 0,.slice none 0 0] 26)):=Za (k1.lays (by omega) (by rw [hR];exact un HLR))
 have HK1:Hid (Zb w w1):=Za (Zn.kept (un HKA) (by omega) k1)
 have H1:=Za h1
 have hBw:B<w1.heap.size:=h1.lt
 rw [← hB,← hR]
 clear h1 k1 HC HLR HKA hB hR
 go_wp2_with fail
 have hE1:=Zr (un H1) (.cells #[.slice none 0 0,.int .i64 ((n0:Int) - 1),.slice none 0 0] 26)
 obtain ⟨S0,hS0⟩:∃ r,r=w1.heap.size:=⟨_,rfl⟩
 have hLS:(w1.alloc (.cells #[.slice none 0 0,.int .i64 ((n0:Int) - 1),.slice none 0 0] 26)).heap[S0]?=some (.cells #[.slice none 0 0,.int .i64 ((n0:Int) - 1),.slice none 0 0] 26):=by rw [hS0];exact Zg rfl
 replace HK1:=Za ((un HK1).alloc (.cells #[.slice none 0 0,.int .i64 ((n0:Int) - 1),.slice none 0 0] 26))
 have hRlt:=(Array.getElem?_eq_some_iff.1 (un HL1)).1
 replace HL1:=Za (Zr (un HL1) (.cells #[.slice none 0 0,.int .i64 ((n0:Int) - 1),.slice none 0 0] 26))
 have HN:Hid (B<(w1.alloc (.cells #[.slice none 0 0,.int .i64 ((n0:Int) - 1),.slice none 0 0] 26)).heap.size∧S0<(w1.alloc (.cells #[.slice none 0 0,.int .i64 ((n0:Int) - 1),.slice none 0 0] 26)).heap.size∧S0≠B∧R0≠S0∧w.heap.size≤S0):=Za ⟨by simp;omega,by simp;omega,by omega,by omega,by have:=(un HRB).1;omega⟩
 rw [← hS0]
 clear hBw hRlt H1 hS0
 generalize w1.alloc (.cells #[.slice none 0 0,.int .i64 ((n0:Int) - 1),.slice none 0 0] 26)=W1 at *
 refine ((un HEB) W1 B m0 hE1).mono ?_
 rintro _ w2 ⟨rfl,h2,k2⟩
 have hlt1:=Zch m0
 have HE1:Hid (Qi eaB m0=eaL eaB (eaN m0).1 (eaN m0).2):=Za rfl
 generalize (eaN m0).1=n1 at *
 generalize (eaN m0).2=m1 at *
 have H2:Hid (Qh w2 B m1∧w2.heap[S0]?=some (.cells #[.slice none 0 0,.int .i64 ((n0:Int) - 1),.slice none 0 0] 26)∧Jp W1.heap.size w2 (.slice none 0 0) []∧Qf B S0 W1 w2):=Za ⟨h2,k2.lays (un HN).2.2.1 hLS,Jp.nil _ _,Qf.of k2⟩
 clear h2 k2 hE1 hLS w1
 go_wp2_with fail
 go_loopw [8] (fun s8 wr=>∃ (j:Nat) (acc:List Fb) (m:List UInt8) (oF:Option Addr) (cF:Nat),s8=.int .i64 j∧acc.length+j=n1∧Hid (Qh wr B m∧wr.heap[S0]?=some (.cells #[.slice oF acc.length cF,.int .i64 ((n0:Int) - 1),.slice none 0 0] 26)∧Jp W1.heap.size wr (.slice oF acc.length cF) acc∧Qf B S0 W1 wr∧eaL eaB n1 m1=(acc++(eaL eaB j m).1,(eaL eaB j m).2))) (fun s8 _=>(intOf s8).toNat)
 case atStart=>exact ⟨n1,[],m1,none,0,rfl,by simp,Za ⟨(un H2).1,(un H2).2.1,(un H2).2.2.1,(un H2).2.2.2,rfl⟩⟩
 case round =>
  obtain ⟨j,acc,m,oF,cF,rfl,hj,HW⟩:=hrel
  clear H2
  cases j with
  | succ j =>
   obtain ⟨e1,e2,e3,e4,e5⟩:=un HW
   have HC:=Za ((un HEB) wr B m e1)
   have hj0:(0:Int)<((j+1:Nat):Int):=by omega
   have hlm:=Zch m
   have HEQ:Hid (eaB m=(⟨(Qi eaF (eaN m).2).1,((eaN m).1:Int) - 1⟩,(Qi eaF (eaN m).2).2)):=Za rfl
   generalize (eaN m).1=ca at *
   generalize (eaN m).2=m2 at *
   have hca:wrap64 ((ca:Int) - 1)=(ca:Int) - 1:=by unfold wrap64;omega
   have HV:=Za (And.intro e1 (And.intro e2 (And.intro e3 e4)))
   have HE5:=Za e5
   clear e1 e2 e3 e4 e5 HW
   go_wp2_with fail
   refine (un HC).mono ?_
   rintro _ wa ⟨rfl,a1,ka⟩
   have HA:=Za (And.intro a1 ka)
   clear a1 ka HC
   go_wp2_with fail
   obtain ⟨F,hF⟩:∃ r,r=wa.heap.size:=⟨_,rfl⟩
   obtain ⟨u0,hu0⟩:∃ u,u=wa.alloc (.cells #[.slice none 0 0,.int .i64 ((ca:Int) - 1)] 46):=⟨_,rfl⟩
   have HU:Hid (Qh u0 B m2∧u0.heap[S0]?=some (.cells #[.slice oF acc.length cF,.int .i64 ((n0:Int) - 1),.slice none 0 0] 26)∧Jp W1.heap.size u0 (.slice oF acc.length cF) acc∧Qf B S0 W1 u0∧u0.heap[F]?=some (.cells #[.slice none 0 0,.int .i64 ((ca:Int) - 1)] 46)∧W1.heap.size≤F∧F<u0.heap.size∧∀ g,(Value.slice oF acc.length cF).ownBlock=some g→g≠F):=Za (by
    obtain ⟨e1,e2,e3,e4⟩:=un HV
    obtain ⟨a1,ka⟩:=un HA
    have kz:=ka.alloc (.cells #[.slice none 0 0,.int .i64 ((ca:Int) - 1)] 46)
    rw [← hu0] at kz
    refine ⟨by rw [hu0];exact Zr a1 _,kz.lays (un HN).2.2.1 e2,e3.moveX kz e1 (un HN).1,e4.trans (Qf.of kz),by rw [hu0,hF];exact Zg rfl,by have:=e4.size;have:=ka.size;omega,by rw [hu0,hF];simp,fun g hg=>?_⟩
    obtain ⟨c,hr,_⟩:=e3
    have:=(World.ownsRow.lt hr g hg).2
    have:=ka.size
    omega)
   rw [← hF,← hu0]
   clear hF hu0 HA HV
   refine ((un HEB) u0 B m2 (un HU).1).mono ?_
   rintro _ wb ⟨rfl,b1,kb⟩
   have hlk:=Zch m2
   have HE2:Hid (Qi eaF m2=eaL eaF (eaN m2).1 (eaN m2).2):=Za rfl
   generalize (eaN m2).1=k at *
   generalize (eaN m2).2=m3 at *
   have HB0:Hid (Qh wb B m3∧wb.heap[F]?=some (.cells #[.slice none 0 0,.int .i64 ((ca:Int) - 1)] 46)∧Yt u0.heap.size wb (.slice none 0 0) []∧Qf B F u0 wb):=Za ⟨b1,kb.lays (by have:=(un HU).2.2.2.2.2.1;have:=(un HN).1;omega) (un HU).2.2.2.2.1,Yt.nil _ _,Qf.of kb⟩
   clear b1 kb
   go_wp2_with fail
   go_loopw [10] (fun s10 wi=>∃ (i:Nat) (ac:List Fr) (q:List UInt8) (oR:Option Addr) (cR:Nat),s10=.int .i64 i∧ac.length+i=k∧Hid (Qh wi B q∧wi.heap[F]?=some (.cells #[.slice oR ac.length cR,.int .i64 ((ca:Int) - 1)] 46)∧Yt u0.heap.size wi (.slice oR ac.length cR) ac∧Qf B F u0 wi∧eaL eaF k m3=(ac++(eaL eaF i q).1,(eaL eaF i q).2))) (fun s10 _=>(intOf s10).toNat)
   case atStart=>exact ⟨k,[],m3,none,0,rfl,by simp,Za ⟨(un HB0).1,(un HB0).2.1,(un HB0).2.2.1,(un HB0).2.2.2,rfl⟩⟩
   case round =>
    obtain ⟨i,ac,q,oR,cR,rfl,hi,HI⟩:=hrel
    clear HB0
    cases i with
    | succ i =>
     obtain ⟨f1,f2,f3,f4,f5⟩:=un HI
     have HC:=Za ((un HEB) wr B q f1)
     have hi0:(0:Int)<((i+1:Nat):Int):=by omega
     have HEQ2:Hid (eaF q=(⟨((eaN q).1:Nat),((eaN (eaN q).2).1:Nat),(Qi eaV (eaN (eaN q).2).2).1,(Qi eaV (Qi eaV (eaN (eaN q).2).2).2).1⟩,(Qi eaV (Qi eaV (eaN (eaN q).2).2).2).2)):=Za rfl
     generalize (eaN q).1=a at *
     generalize (eaN q).2=qa at *
     have HFf:=Za (And.intro f1 (And.intro f2 (And.intro f3 f4)))
     have HF5:=Za f5
     clear f1 f2 f3 f4 f5 HI
     go_wp2_with fail
     refine (un HC).mono ?_
     rintro _ x1 ⟨rfl,q1,k1⟩
     have HQ1:=Za (And.intro q1 k1)
     clear q1 k1 HC
     go_wp2_with fail
     obtain ⟨X,hX⟩:∃ r,r=x1.heap.size:=⟨_,rfl⟩
     obtain ⟨y1,hy1⟩:∃ u,u=x1.alloc (.cells #[.int .i64 (a:Nat),.int .i64 0,.slice none 0 0,.slice none 0 0] 53):=⟨_,rfl⟩
     have HX1:Hid (Qh y1 B qa∧y1.heap[X]?=some (.cells #[.int .i64 (a:Nat),.int .i64 0,.slice none 0 0,.slice none 0 0] 53)∧Zn B wr y1∧X≠B∧wr.heap.size≤X):=Za (by
      obtain ⟨q1,k1⟩:=un HQ1
      have:=q1.lt
      have:=k1.size
      exact ⟨by rw [hy1];exact Zr q1 _,by rw [hy1,hX];exact Zg rfl,by rw [hy1];exact k1.alloc _,by omega,by omega⟩)
     rw [← hX,← hy1]
     clear hX hy1 HQ1
     refine ((un HEB) y1 B qa (un HX1).1).mono ?_
     rintro _ x2 ⟨rfl,q2,k2⟩
     generalize (eaN qa).1=b at *
     generalize (eaN qa).2=qb at *
     have hXB:=(un HX1).2.2.2
     have L2:=k2.lays hXB.1 (un HX1).2.1
     have c1:=Zd L2 1
     have g1:=Zk L2 1
     have HX2:Hid (Qh (x2.setCell ⟨X,1,none⟩ (.int .i64 (b:Nat))) B qb∧(x2.setCell ⟨X,1,none⟩ (.int .i64 (b:Nat))).heap[X]?=some (.cells #[.int .i64 (a:Nat),.int .i64 (b:Nat),.slice none 0 0,.slice none 0 0] 53)∧Zn B wr (x2.setCell ⟨X,1,none⟩ (.int .i64 (b:Nat)))):=Za ⟨Zz q2 (fun e=>hXB.1 e.symm) _,by have:=Zl L2 1 (.int .i64 (b:Nat));simpa using this,((un HX1).2.2.1.trans k2).setCell (.inr hXB.2) _⟩
     have HXB:=Za hXB
     clear q2 k2 L2 HX1 hXB
     go_wp2_with fail
     clear c1 g1
     generalize x2.setCell ⟨X,1,none⟩ (.int .i64 (b:Nat))=y2 at *
     refine ((un HEM) y2 B qb (un HX2).1).mono ?_
     rintro _ x3 ⟨cv,rfl,r3,q3⟩
     have hl3:=Zgy eaV qb
     generalize (Qi eaV qb).1=l3 at *
     generalize (Qi eaV qb).2=qc at *
     have z3:=Yq.row r3.1 (by omega)
     obtain ⟨o3,d3,rfl,_⟩:=Zbc r3.1
     have L3:=r3.2.lays (un HXB).1 (un HX2).2.1
     have c2:=Zd L3 2
     have g2:=Zk L3 2
     have HX3:Hid (Qh (x3.setCell ⟨X,2,none⟩ (.slice o3 l3.length d3)) B qc∧(x3.setCell ⟨X,2,none⟩ (.slice o3 l3.length d3)).heap[X]?=some (.cells #[.int .i64 (a:Nat),.int .i64 (b:Nat),.slice o3 l3.length d3,.slice none 0 0] 53)∧Zn B wr (x3.setCell ⟨X,2,none⟩ (.slice o3 l3.length d3))∧Yq (x3.setCell ⟨X,2,none⟩ (.slice o3 l3.length d3)) (.slice o3 l3.length d3) l3):=Za ⟨Zz q3 (fun e=>(un HXB).1 e.symm) _,by have:=Zl L3 2 (.slice o3 l3.length d3);simpa using this,((un HX2).2.2.trans r3.2).setCell (.inr (un HXB).2) _,z3.stay (Zs.set L3 (by decide) 2 _)⟩
     clear r3 q3 z3 L3 HX2
     go_wp2_with fail
     clear c2 g2
     generalize x3.setCell ⟨X,2,none⟩ (.slice o3 l3.length d3)=y3 at *
     refine ((un HEM) y3 B qc (un HX3).1).mono ?_
     rintro _ x4 ⟨cv,rfl,r4,q4⟩
     have hl4:=Zgy eaV qc
     generalize (Qi eaV qc).1=l4 at *
     generalize (Qi eaV qc).2=qd at *
     have z4:=Yq.row r4.1 (by omega)
     have z3:=(un HX3).2.2.2.stay (r4.2.stayE (un HX3).1 (by decide))
     obtain ⟨o4,d4,rfl,_⟩:=Zbc r4.1
     have L4:=r4.2.lays (un HXB).1 (un HX3).2.1
     have c0:=Zd L4 0
     have c1:=Zd L4 1
     have c2:=Zd L4 2
     have c3:=Zd L4 3
     have g3:=Zk L4 3
     have hFB:F≠B:=by have:=(un HU).2.2.2.2.2.1;have:=(un HN).1;omega
     have hFX:F≠X:=by have:=(un HXB).2;have:=(un HFf).2.2.2.size;have:=(un HU).2.2.2.2.2.2.1;omega
     have LF:=((un HX3).2.2.1.trans r4.2).lays hFB (un HFf).2.1
     have a0:=Zd LF 0
     have st4:=Zs.set (ts:=[3]) L4 (by decide) 3 (.slice o4 l4.length d4)
     have L4':(x4.setCell ⟨X,3,none⟩ (.slice o4 l4.length d4)).heap[X]?=some (.cells #[.int .i64 (a:Nat),.int .i64 (b:Nat),.slice o3 l3.length d3,.slice o4 l4.length d4] 53):=by have:=Zl L4 3 (.slice o4 l4.length d4);simpa using this
     have k4':Zn B wr (x4.setCell ⟨X,3,none⟩ (.slice o4 l4.length d4)):=((un HX3).2.2.1.trans r4.2).setCell (.inr (un HXB).2) _
     have q4':Qh (x4.setCell ⟨X,3,none⟩ (.slice o4 l4.length d4)) B qd:=Zz q4 (fun e=>(un HXB).1 e.symm) _
     have z3':=z3.stay st4
     have z4':=z4.stay st4
     have LF':=k4'.lays hFB (un HFf).2.1
     obtain ⟨v5,w5,hrun,n1',n2,n3⟩:=Zve u0.heap.size (x4.setCell ⟨X,3,none⟩ (.slice o4 l4.length d4)) (.slice oR ac.length cR) ac ⟨(a:Nat),(b:Nat),l3,l4⟩ (.slice o3 l3.length d3) (.slice o4 l4.length d4) ((un HFf).2.2.1.move k4' (un HFf).1 (by have:=(un HN).1;have:=(un HU).2.2.2.1.size;omega)) (Nat.le_trans (un HFf).2.2.2.size k4'.size) (by omega) z3' z4'
     obtain ⟨o5,c5,rfl⟩:=n1'.shape
     have hlu:=(un HU).2.2.2.2.2.2.1
     have hBu:B<u0.heap.size:=by have:=(un HN).1;have:=(un HU).2.2.2.1.size;omega
     have LF5:=(n2.block F hlu).trans LF'
     have a5:=Zd LF5 0
     have g5:=Zk LF5 0
     rw [show (x4.setCell ⟨X,3,none⟩ (.slice o4 l4.length d4)).heap.size=x4.heap.size by simp [World.setCell]] at hrun
     have HR:=Za hrun
     have HNX:Hid (Qh (w5.setCell ⟨F,0,none⟩ (.slice o5 (ac++[(⟨(a:Nat),(b:Nat),l3,l4⟩:Fr)]).length c5)) B qd∧(w5.setCell ⟨F,0,none⟩ (.slice o5 (ac++[(⟨(a:Nat),(b:Nat),l3,l4⟩:Fr)]).length c5)).heap[F]?=some (.cells #[.slice o5 (ac++[(⟨(a:Nat),(b:Nat),l3,l4⟩:Fr)]).length c5,.int .i64 ((ca:Int) - 1)] 46)∧Yt u0.heap.size (w5.setCell ⟨F,0,none⟩ (.slice o5 (ac++[(⟨(a:Nat),(b:Nat),l3,l4⟩:Fr)]).length c5)) (.slice o5 (ac++[(⟨(a:Nat),(b:Nat),l3,l4⟩:Fr)]).length c5) (ac++[⟨(a:Nat),(b:Nat),l3,l4⟩])∧Qf B F u0 (w5.setCell ⟨F,0,none⟩ (.slice o5 (ac++[(⟨(a:Nat),(b:Nat),l3,l4⟩:Fr)]).length c5))∧eaL eaF k m3=(ac++[⟨(a:Nat),(b:Nat),l3,l4⟩]++(eaL eaF i qd).1,(eaL eaF i qd).2)):=Za ⟨Zz ((n2.block B hBu).trans q4') (fun e=>hFB e.symm) _,by have:=Zl LF5 0 (.slice o5 (ac++[(⟨(a:Nat),(b:Nat),l3,l4⟩:Fr)]).length c5);simpa using this,n1'.set LF5 hlu,(((un HFf).2.2.2.trans (Qf.of k4')).below n2).setCell (.inr (.inl rfl)) _,by rw [un HF5];simp [eaL,un HEQ2]⟩
     clear r4 q4 z3 z4 L4 HX3 st4 L4' k4' q4' z3' z4' hrun n1' n2 n3 LF LF' LF5 HFf HF5
     go_wp2_with (at_builtin;refine un ?_)
     refine Za ?_
     refine Zai _ rfl (.tmp 48) (.tmp 50) 44 rfl rfl rfl (un HR) ?_
     clear HR
     go_wp2_with fail
     go_roundw
     case rel=>exact ⟨i,ac++[⟨(a:Nat),(b:Nat),l3,l4⟩],qd,o5,c5,by go_num,by simp;omega,by simpa only [List.length_append,List.length_cons,List.length_nil,Nat.zero_add] using HNX⟩
     case measure=>simp [intOf]
    | zero =>
     obtain ⟨f1,f2,f3,f4,f5⟩:=un HI
     obtain ⟨_,u2,u3',u4,u5,u6,u7,u8⟩:=un HU
     have hS0:=un HN
     simp only [eaL,List.append_nil] at f5
     have hS0F:S0≠F:=by omega
     have hFB:F≠B:=by omega
     have h3:=u3'.move f4 (un HU).1 u5 hS0.1 u8
     have LS:=f4.lays hS0.2.2.1 hS0F u2
     have k4:=u4.up u6 f4
     obtain ⟨v5,w5,hrun,n1',n2⟩:=Zoj W1.heap.size wr (.slice oF acc.length cF) acc ⟨ac,(ca:Int) - 1⟩ (.slice oR ac.length cR) h3 k4.size (by omega) (f3.frs (by omega))
     obtain ⟨o5,c5,rfl⟩:=n1'.shape
     have LS5:=(n2.block S0 hS0.2.1).trans LS
     have a0:=Zd LS 0
     have b0:=Zd f2 0
     have b1:=Zd f2 1
     have a5:=Zd LS5 0
     have g5:=Zk LS5 0
     have HR:=Za hrun
     have HNX:Hid (Qh (w5.setCell ⟨S0,0,none⟩ (.slice o5 (acc++[(⟨ac,(ca:Int) - 1⟩:Fb)]).length c5)) B q∧(w5.setCell ⟨S0,0,none⟩ (.slice o5 (acc++[(⟨ac,(ca:Int) - 1⟩:Fb)]).length c5)).heap[S0]?=some (.cells #[.slice o5 (acc++[(⟨ac,(ca:Int) - 1⟩:Fb)]).length c5,.int .i64 ((n0:Int) - 1),.slice none 0 0] 26)∧Jp W1.heap.size (w5.setCell ⟨S0,0,none⟩ (.slice o5 (acc++[(⟨ac,(ca:Int) - 1⟩:Fb)]).length c5)) (.slice o5 (acc++[(⟨ac,(ca:Int) - 1⟩:Fb)]).length c5) (acc++[⟨ac,(ca:Int) - 1⟩])∧Qf B S0 W1 (w5.setCell ⟨S0,0,none⟩ (.slice o5 (acc++[(⟨ac,(ca:Int) - 1⟩:Fb)]).length c5))∧eaL eaB n1 m1=(acc++[⟨ac,(ca:Int) - 1⟩]++(eaL eaB j q).1,(eaL eaB j q).2)):=Za ⟨Zz ((n2.block B hS0.1).trans f1) (fun e=>hS0.2.2.1 e.symm) _,by have:=Zl LS5 0 (.slice o5 (acc++[(⟨ac,(ca:Int) - 1⟩:Fb)]).length c5);simpa using this,n1'.set LS5 hS0.2.1,(k4.below n2).setCell (.inr (.inl rfl)) _,by rw [un HE5];simp [eaL,un HEQ,un HE2,f5]⟩
     clear f1 f2 f3 f4 f5 u2 u3' u4 u5 u6 u7 u8 h3 LS k4 hrun n1' n2 LS5 HI HU HE5 HEQ HE2
     go_wp2_with (at_builtin;refine un ?_)
     refine Za ?_
     refine Zai _ rfl (.tmp 54) (.tmp 56) 23 rfl rfl rfl (un HR) ?_
     clear HR
     go_wp2_with fail
     go_roundw
     case rel=>exact ⟨j,acc++[⟨ac,(ca:Int) - 1⟩],q,o5,c5,by go_num,by simp;omega,by simpa only [List.length_append,List.length_cons,List.length_nil,Nat.zero_add] using HNX⟩
     case measure=>simp [intOf]
  | zero =>
   obtain ⟨e1,e2,e3,e4,e5⟩:=un HW
   have hS0:=un HN
   simp only [eaL,List.append_nil] at e5
   have hst:eaS l=(⟨acc,(n0:Int) - 1,(Qi eaV m).1⟩,(Qi eaV m).2):=by rw [un HES,un HE1,e5]
   have HC:=Za ((un HEM) wr B m e1)
   have HV:=Za (And.intro e1 (And.intro e2 (And.intro e3 e4)))
   have HST:=Za hst
   clear e1 e2 e3 e4 e5 hst HW HES HE1
   go_wp2_with fail
   refine (un HC).mono ?_
   rintro _ w3 ⟨cv,rfl,r3,q3⟩
   have hl3:=Zgy eaV m
   generalize (Qi eaV m).1=l3 at *
   generalize (Qi eaV m).2=mz at *
   obtain ⟨e1,e2,e3,e4⟩:=un HV
   have z3:=Yq.row r3.1 (by omega)
   obtain ⟨o3,d3,rfl,_⟩:=Zbc r3.1
   have L3:=r3.2.lays hS0.2.2.1 e2
   have c0:=Zd L3 0
   have c1:=Zd L3 1
   have c2:=Zd L3 2
   have g2:=Zk L3 2
   have h3:=(e3.moveX r3.2 e1 hS0.1).set (i:=2) (u:=.slice o3 l3.length d3) L3 hS0.2.1
   have z3':=z3.stay (Zs.set L3 (by decide) 2 (.slice o3 l3.length d3))
   have L3':(w3.setCell ⟨S0,2,none⟩ (.slice o3 l3.length d3)).heap[S0]?=some (.cells #[.slice oF acc.length cF,.int .i64 ((n0:Int) - 1),.slice o3 l3.length d3] 26):=by have:=Zl L3 2 (.slice o3 l3.length d3);simpa using this
   have k3:Qf B S0 W1 (w3.setCell ⟨S0,2,none⟩ (.slice o3 l3.length d3)):=(e4.trans (Qf.of r3.2)).setCell (.inr (.inl rfl)) _
   have HK3:=Za (k3.kept (un HK1) (un HRB).2.1 hS0.2.2.2.2)
   have LR3:=Za (k3.lays (un HRB).2.2 hS0.2.2.2.1 (un HL1))
   have hrk:(Hid (w.heap.size≤R0)):=Za (un HRB).1
   have HSZ:Hid (∀ W,Zs [3,53,46] (w3.setCell ⟨S0,2,none⟩ (.slice o3 l3.length d3)) W→Zy W (.agg #[.slice oF acc.length cF,.int .i64 ((n0:Int) - 1),.slice o3 l3.length d3]) (eaS l).1):=Za fun W hW=>by
    rw [un HST]
    exact Jp.st (s:=⟨acc,(n0:Int) - 1,l3⟩) h3 z3' (show acc.length≤1000 by omega) hW
   have HWF:=Za (Zke l)
   have HL3:=Za L3'
   have HFS:Hid (Wt p l=if Xa p (eaS l).1=0∧Xk (eaS l).1=l then some (eaS l).1 else none):=Za rfl
   generalize (eaS l).1=st at *
   clear e1 e2 e3 e4 z3 L3 h3 z3' L3' k3 r3 q3 HV HC hS0 HST HL1 HK1
   go_wp2_with fail
   clear c0 c1 c2 g2
   generalize w3.setCell ⟨S0,2,none⟩ (.slice o3 l3.length d3)=y3 at *
   refine ((un HE) y3 _ st (un HK3) ((un HSZ) _ (fun _ _ _ _ h=>h))).mono ?_
   rintro _ w4 ⟨rfl,k4⟩
   have HK:=Za ((un HK3).trans k4)
   replace HL3:=Za (Zm k4 (un HL3))
   have LR:=Za (Zm k4 (un LR3))
   replace HSZ:Hid (∀ W,Zs [3,53,46] w4 W→Zy W (.agg #[.slice oF acc.length cF,.int .i64 ((n0:Int) - 1),.slice o3 l3.length d3]) st):=Za fun W hW=>(un HSZ) W (fun g c t ht hg=>hW g c t ht (Zm k4 hg))
   clear k4 HK3 LR3 HE HEB HEM HRB HN
   by_cases he:Xa p st=0
   ·have HYc:=Za ((un HY) w4 _ st (un HK) ((un HSZ) _ (fun _ _ _ _ h=>h)) he (un HWF))
    have c0:=Zd (un HL3) 0
    have c1:=Zd (un HL3) 1
    have c2:=Zd (un HL3) 2
    have HE0:=Za he
    rw [he]
    clear he HY
    go_wp2_with fail
    refine (un HYc).mono ?_
    rintro _ w5 ⟨rfl,k5⟩
    replace HK:=Za ((un HK).trans k5)
    replace HL3:=Za (Zm k5 (un HL3))
    replace LR:=Za (Zm k5 (un LR))
    replace HSZ:Hid (∀ W,Zs [3,53,46] w5 W→Zy W (.agg #[.slice oF acc.length cF,.int .i64 ((n0:Int) - 1),.slice o3 l3.length d3]) st):=Za fun W hW=>(un HSZ) W (fun g c t ht hg=>hW g c t ht (Zm k5 hg))
    clear k5 HYc c0 c1 c2
    by_cases hq:Xk st=l
    ·have HFR:Hid (Wt p l=some st):=Za (by rw [un HFS,if_pos ⟨un HE0,hq⟩])
     have c0:=Zd (un HL3) 0
     have c1:=Zd (un HL3) 1
     have c2:=Zd (un HL3) 2
     rw [hq,hS]
     clear hq HFS
     have x0:=Zd (un LR) 0
     have x1:=Zd (un LR) 1
     have x2:=Zd (un LR) 2
     have z0:=Zk (un LR) 0
     have z1:=Zk (un LR) 1
     have z2:=Zk (un LR) 2
     simp only [List.getElem?_toArray,List.getElem?_cons_zero,List.getElem?_cons_succ] at x0 x1 x2
     go_wp2_with fail
     have k1:=Zl (Zl (Zl (un LR) 0 (.slice oF acc.length cF)) 1 (.int .i64 ((n0:Int) - 1))) 2 (.slice o3 l3.length d3)
     have t0:=Zd k1 0
     have t1:=Zd k1 1
     have t2:=Zd k1 2
     simp only [Array.setIfInBounds,List.size_toArray,List.length_cons,List.length_nil] at t0 t1 t2
     refine bodyPost_ret (v:=.tuple #[.agg #[(.slice oF acc.length cF),(.int .i64 ((n0:Int) - 1)),(.slice o3 l3.length d3)],.bool true]) (by simp [results,Tryd.results10,go_sem,t0,t1,t2]) rfl ?_
     rw [un HFR]
     have j0:=un LR
     have j1:=Zl j0 0 (.slice oF acc.length cF)
     have j2:=Zl j1 1 (.int .i64 ((n0:Int) - 1))
     exact ⟨oF,_,cF,_,o3,_,d3,rfl,fun W hW=>(un HSZ) W ((((Zs.set j0 (by decide) 0 _).trans (Zs.set j1 (by decide) 1 _)).trans (Zs.set j2 (by decide) 2 _)).trans hW),(((un HK).setCell (p:=⟨R0,0,none⟩) (un hrk) _).setCell (p:=⟨R0,1,none⟩) (un hrk) _).setCell (p:=⟨R0,2,none⟩) (un hrk) _⟩
    ·have HFR:Hid (Wt p l=none):=Za (by rw [un HFS,if_neg (fun h=>hq h.2)])
     have hne:((ByteArray.mk (Xk st).toArray).toList == S.toList)=false:=by rw [← hS,ByteArray.toList_mk,ByteArray.toList_mk];simpa using hq
     generalize (ByteArray.mk (Xk st).toArray)=T at *
     clear hq HFS
     have x0:=Zd (un LR) 0
     have x1:=Zd (un LR) 1
     have x2:=Zd (un LR) 2
     have z0:=Zk (un LR) 0
     have z1:=Zk (un LR) 1
     have z2:=Zk (un LR) 2
     simp only [List.getElem?_toArray,List.getElem?_cons_zero,List.getElem?_cons_succ] at x0 x1 x2
     go_wp2_with fail
     have k1:=Zl (Zl (Zl (un LR) 0 (.slice none 0 0)) 1 (.int .i64 0)) 2 (.slice none 0 0)
     have t0:=Zd k1 0
     have t1:=Zd k1 1
     have t2:=Zd k1 2
     simp only [Array.setIfInBounds,List.size_toArray,List.length_cons,List.length_nil] at t0 t1 t2
     refine bodyPost_ret (v:=.tuple #[.agg #[(.slice none 0 0),(.int .i64 0),(.slice none 0 0)],.bool false]) (by simp [results,Tryd.results10,go_sem,t0,t1,t2]) rfl ?_
     rw [un HFR]
     exact ⟨none,0,0,0,none,0,0,rfl,fun W _=>Ps W,(((un HK).setCell (p:=⟨R0,0,none⟩) (un hrk) _).setCell (p:=⟨R0,1,none⟩) (un hrk) _).setCell (p:=⟨R0,2,none⟩) (un hrk) _⟩
   ·have HFR:Hid (Wt p l=none):=Za (by rw [un HFS,if_neg (fun h=>he h.1)])
    generalize Xa p st=er at *
    clear HFS HY
    have x0:=Zd (un LR) 0
    have x1:=Zd (un LR) 1
    have x2:=Zd (un LR) 2
    have z0:=Zk (un LR) 0
    have z1:=Zk (un LR) 1
    have z2:=Zk (un LR) 2
    simp only [List.getElem?_toArray,List.getElem?_cons_zero,List.getElem?_cons_succ] at x0 x1 x2
    go_wp2_with fail
    have k1:=Zl (Zl (Zl (un LR) 0 (.slice none 0 0)) 1 (.int .i64 0)) 2 (.slice none 0 0)
    have t0:=Zd k1 0
    have t1:=Zd k1 1
    have t2:=Zd k1 2
    simp only [Array.setIfInBounds,List.size_toArray,List.length_cons,List.length_nil] at t0 t1 t2
    refine bodyPost_ret (v:=.tuple #[.agg #[(.slice none 0 0),(.int .i64 0),(.slice none 0 0)],.bool false]) (by simp [results,Tryd.results10,go_sem,t0,t1,t2]) rfl ?_
    rw [un HFR]
    exact ⟨none,0,0,0,none,0,0,rfl,fun W _=>Ps W,(((un HK).setCell (p:=⟨R0,0,none⟩) (un hrk) _).setCell (p:=⟨R0,1,none⟩) (un hrk) _).setCell (p:=⟨R0,2,none⟩) (un hrk) _⟩
end Go.Proofs.YtblihfpigjiahaaDoor
