/- CloneB, CloneC, CloneD, CloneE, CloneF, CloneG, StateL -/
import Derived.Test.YtblihfpigjiahaaGreatDoorYB25
import Derived.Test.YtblihfpigjiahaaGreatDoorYB15
import Derived.Test.YtblihfpigjiahaaGreatDoorYB13
import Derived.Test.YtblihfpigjiahaaGreatDoorYB16
set_option maxRecDepth 100000
set_option maxHeartbeats 8000000
namespace Go.Proofs.YtblihfpigjiahaaGreatDoor
open Go.RowKit
theorem Zhm {w:World} {oa:Option Addr} {l:List Int} (hi:∀ i z,l[i]?=some z→∃ b o,oa=some ⟨b,o,none⟩∧w.cell? ⟨b,o+i,none⟩=some (.int .i64 z)):Uw w oa (ints l):=by
 refine ⟨fun j x hj=>?_,fun x hx=>?_⟩
 ·unfold ints at hj
  rw [List.getElem?_map] at hj
  obtain ⟨z,hz,rfl⟩:=Option.map_eq_some_iff.1 hj
  exact hi j z hz
 ·obtain ⟨z,_,rfl⟩:=List.mem_map.1 hx;rfl
theorem Xbz {u u':World} {base e e' size size' n n':Nat} {v v':Value} {xs xs':List Value} (h:u.ownsRow base e size v n xs) (h':u'.ownsRow u.heap.size e' size' v' n' xs'):∀ b,v.ownBlock=some b→v'.ownBlock≠some b:=fun b e1 e2=>by
 have:=(h.lt b e1).2
 have:=(h'.lt b e2).1
 omega
def Znu (x:Fr) (w:World) (en:Ending) (w':World):Prop :=
 ∃ v1 v2,en=.returned (.agg #[.int .i64 x.fn,.int .i64 x.at_,v1,v2])∧w'.ownsRow w.heap.size 3 1 v1 x.locals.length (ints x.locals)∧w'.ownsRow w.heap.size 3 1 v2 x.stack.length (ints x.stack)∧(∀ b,v1.ownBlock=some b→v2.ownBlock≠some b)∧Za w w'
theorem Xbb (x:Fr) (vl vs:Value) (w:World) (hl:Xj w vl x.locals) (hs:Xj w vs x.stack) (h1:x.locals.length≤1000) (h2:x.stack.length≤1000) :
  Calls Tryz.prog 82 #[.agg #[.int .i64 x.fn,.int .i64 x.at_,vl,vs]] w (Znu x w):=by
 obtain ⟨ol,cl,rfl,_,hli⟩:=hl
 obtain ⟨os,cs,rfl,_,hsi⟩:=hs
 have HC1:Hid (∀ u,Za w u→Calls Tryz.prog 52 #[.slice ol x.locals.length cl] u (Zdf 3 1 x.locals.length (ints x.locals) u)):=Zb (fun u hu=>Zhz _ ol cl _ u ((Zhm hli).kept hu) (by rw [Pm,Nat.mul_one]) h1)
 have HC2:Hid (∀ u,Za w u→Calls Tryz.prog 52 #[.slice os x.stack.length cs] u (Zdf 3 1 x.stack.length (ints x.stack) u)):=Zb (fun u hu=>Zhz _ os cs _ u ((Zhm hsi).kept hu) (by rw [Pm,Nat.mul_one]) h2)
 generalize hL:x.locals.length=L at *
 generalize hS:x.stack.length=S at *
 clear hli hsi
 go_enter Tryz.func82,Tryz.ntmps82
 go_wp2_with fail
 generalize hw2:((w.alloc (.cells #[.int .i64 x.fn,.int .i64 x.at_,.slice ol L cl,.slice os S cs] 48)).alloc (.cells #[.int .i64 0,.int .i64 0,.slice none 0 0,.slice none 0 0] 48))=w2
 have hk2:Za w w2:=by rw [← hw2];exact ((Za.refl w).alloc _).alloc _
 have hz2:w2.heap.size=w.heap.size+2:=by rw [← hw2];simp
 have lX:w2.heap[w.heap.size]?=some (.cells #[.int .i64 x.fn,.int .i64 x.at_,.slice ol L cl,.slice os S cs] 48):=by rw [← hw2];exact Zo (Zh rfl) _
 have lR:w2.heap[w.heap.size+1]?=some (.cells #[.int .i64 0,.int .i64 0,.slice none 0 0,.slice none 0 0] 48):=by rw [← hw2];exact Zh (by simp)
 clear hw2
 have hH:∀ u,Za w2 u→u.cell? ⟨w.heap.size,0,none⟩=some (.int .i64 x.fn)∧u.cell? ⟨w.heap.size,1,none⟩=some (.int .i64 x.at_)∧u.cell? ⟨w.heap.size,2,none⟩=some (.slice ol L cl)∧u.cell? ⟨w.heap.size,3,none⟩=some (.slice os S cs) :=
  fun u hu=>have l:=Zn hu lX;⟨Zd l 0,Zd l 1,Zd l 2,Zd l 3⟩
 have HH:=Zb hH
 refine Wt 11 [0,1,2,3,4,5,7,8] (fun u=>u.cell? ⟨w.heap.size,0,none⟩=some (.int .i64 x.fn)∧u.cell? ⟨w.heap.size,1,none⟩=some (.int .i64 x.at_)∧u.cell? ⟨w.heap.size,2,none⟩=some (.slice ol L cl)∧u.cell? ⟨w.heap.size,3,none⟩=some (.slice os S cs)) (by kernel_rfl) ?_
 have hHeld:=hH w2 (Za.refl w2)
 clear hH
 repeat
  refine Yp (v:=?_) hHeld (fun u hSu=>?_) ?_
  rotate_left
  ·((try dsimp only at hSu);go_simp) <;> with_reducible rfl
  try simp only [PS]
 refine Yx ?_
 refine Zq (i:=6) rfl (by kernel_rfl) (fun K hK=>?_)
 go_simp
 refine ((un HC1) _ (hk2.drew)).mono ?_
 rintro e w3 ⟨v1,rfl,ho1,hk3⟩
 obtain ⟨o1,c1,rfl,_⟩:=Zw ho1
 have hk23:Za w2 w3:=((Za.refl w2).drew).trans hk3
 refine hK.out _ _ (fun _=>(un HH) w3 hk23) ?_
 clear hK K
 try simp only [PS]
 refine Zq (i:=9) rfl (by kernel_rfl) (fun K hK=>?_)
 go_simp
 refine ((un HC2) _ (hk2.trans hk23)).mono ?_
 rintro e w4 ⟨v2,rfl,ho2,hk4⟩
 obtain ⟨o2,c2,rfl,_⟩:=Zw ho2
 have hk24:Za w2 w4:=hk23.trans hk4
 refine hK.out _ _ (fun _=>(un HH) w4 hk24) ?_
 clear hK K
 try simp only [PS]
 refine Zq (i:=10) rfl (by kernel_rfl) (fun K hK=>?_)
 go_simp
 refine hK.out _ _ (fun _=>(un HH) w4 hk24) ?_
 clear hK K
 try simp only [PS]
 have lR4:=Zn hk24 lR
 have r0:=Zd lR4 0
 have r1:=Zd lR4 1
 have r2:=Zd lR4 2
 have r3:=Zd lR4 3
 have f0:=Zk lR4 0
 have f1:=Zk lR4 1
 have f2:=Zk lR4 2
 have f3:=Zk lR4 3
 refine Zq (i:=11) rfl (by kernel_rfl) (fun K hK=>?_)
 go_simp
 refine hK.out _ _ (fun h=>absurd rfl h) ?_
 clear hK K
 refine Qz (by kernel_rfl) ?_ _
 have lR5:=Zm (Zm (Zm (Zm lR4 0 (.int .i64 x.fn)) 1 (.int .i64 x.at_)) 2 (.slice o1 L c1)) 3 (.slice o2 S c2)
 have hne1:(Value.slice o1 L c1).ownBlock≠some (w.heap.size+1):=fun e=>by have:=(ho1.lt _ e).1;simp at this;omega
 have hne2:(Value.slice o2 S c2).ownBlock≠some (w.heap.size+1):=fun e=>by have:=(ho2.lt _ e).1;have:=hk23.size;omega
 have hap:=Xbz ho1 ho2
 have q1:=Jw (w':=w4) ho1 (fun g hg=>hk4.block g (ho1.lt g hg).2)
 have t1:=ownsRow_setCell_other (ownsRow_setCell_other (ownsRow_setCell_other (ownsRow_setCell_other (Zcg (base:=w.heap.size) q1 (by simp;omega)) (a:=⟨w.heap.size+1,0,none⟩) hne1 (.int .i64 x.fn)) (a:=⟨w.heap.size+1,1,none⟩) hne1 (.int .i64 x.at_)) (a:=⟨w.heap.size+1,2,none⟩) hne1 (.slice o1 L c1)) (a:=⟨w.heap.size+1,3,none⟩) hne1 (.slice o2 S c2)
 have t2:=ownsRow_setCell_other (ownsRow_setCell_other (ownsRow_setCell_other (ownsRow_setCell_other (Zcg (base:=w.heap.size) ho2 (by have:=hk23.size;omega)) (a:=⟨w.heap.size+1,0,none⟩) hne2 (.int .i64 x.fn)) (a:=⟨w.heap.size+1,1,none⟩) hne2 (.int .i64 x.at_)) (a:=⟨w.heap.size+1,2,none⟩) hne2 (.slice o1 L c1)) (a:=⟨w.heap.size+1,3,none⟩) hne2 (.slice o2 S c2)
 have hk5:=((((hk2.trans hk24).setCell (p:=⟨w.heap.size+1,0,none⟩) (Nat.le_succ _) (.int .i64 x.fn)).setCell (p:=⟨w.heap.size+1,1,none⟩) (Nat.le_succ _) (.int .i64 x.at_)).setCell (p:=⟨w.heap.size+1,2,none⟩) (Nat.le_succ _) (.slice o1 L c1)).setCell (p:=⟨w.heap.size+1,3,none⟩) (Nat.le_succ _) (.slice o2 S c2)
 generalize ((((w4.setCell ⟨w.heap.size+1,0,none⟩ (.int .i64 x.fn)).setCell ⟨w.heap.size+1,1,none⟩ (.int .i64 x.at_)).setCell ⟨w.heap.size+1,2,none⟩ (.slice o1 L c1)).setCell ⟨w.heap.size+1,3,none⟩ (.slice o2 S c2))=w5 at *
 have z0:w5.cell? ⟨w.heap.size+1,0,none⟩=some (.int .i64 x.fn):=Zd lR5 0
 have z1:w5.cell? ⟨w.heap.size+1,1,none⟩=some (.int .i64 x.at_):=Zd lR5 1
 have z2:w5.cell? ⟨w.heap.size+1,2,none⟩=some (.slice o1 L c1):=Zd lR5 2
 have z3:w5.cell? ⟨w.heap.size+1,3,none⟩=some (.slice o2 S c2):=Zd lR5 3
 have HT:=Zb (And.intro t1 (And.intro t2 (And.intro hap hk5)))
 clear t1 t2 hap hk5 q1 hne1 hne2 lR5 r0 r1 r2 r3 f0 f1 f2 f3 ho1 ho2 hk3 hk4 hk23 hk24 lR4 hHeld HH HC1 HC2 lX lR
 go_wp2
 refine bodyPost_ret (v:=.agg #[.int .i64 x.fn,.int .i64 x.at_,.slice o1 L c1,.slice o2 S c2]) (by simp [results,Tryz.results82,go_sem,z0,z1,z2,z3]) rfl ?_
 exact ⟨_,_,rfl,by rw [hL];exact (un HT).1,by rw [hS];exact (un HT).2.1,(un HT).2.2.1,(un HT).2.2.2⟩
def Zdj (s:St) (t:Nat) (A:Nat→Value × Value) (k:Nat):Value :=
 if k % 4=0 then .int .i64 (Ze s t (k / 4)).fn else if k % 4=1 then .int .i64 (Ze s t (k / 4)).at_ else if k % 4=2 then (A (k / 4)).1 else (A (k / 4)).2
def Pt (s:St) (t:Nat) (A:Nat→Value × Value):List Value:=(List.range ((Zc s t).frames.length*4)).map (Zdj s t A)
theorem Zlo (s:St) (t:Nat) (A:Nat→Value × Value):(Pt s t A).length=(Zc s t).frames.length*4:=by simp [Pt]
theorem Zeq (s:St) (t:Nat) (A:Nat→Value × Value) {k:Nat} (h:k<(Zc s t).frames.length*4):(Pt s t A)[k]?=some (Zdj s t A k):=by
 simp [Pt,List.getElem?_range h]
theorem Zxp (s:St) (t:Nat) (A:Nat→Value × Value) {j:Nat} (h:j<(Zc s t).frames.length) :
  (Pt s t A)[j*4]?=some (.int .i64 (Ze s t j).fn)∧(Pt s t A)[j*4+1]?=some (.int .i64 (Ze s t j).at_)∧(Pt s t A)[j*4+2]?=some (A j).1∧(Pt s t A)[j*4+3]?=some (A j).2:=by
 rw [Zeq s t A (by omega),Zeq s t A (by omega),Zeq s t A (by omega),Zeq s t A (by omega)]
 unfold Zdj
 have d0:j*4 / 4=j:=by omega
 have d1:(j*4+1) / 4=j:=by omega
 have d2:(j*4+2) / 4=j:=by omega
 have d3:(j*4+3) / 4=j:=by omega
 have m0:j*4 % 4=0:=by omega
 have m1:(j*4+1) % 4=1:=by omega
 have m2:(j*4+2) % 4=2:=by omega
 have m3:(j*4+3) % 4=3:=by omega
 simp [d0,d1,d2,d3,m0,m1,m2,m3]
theorem Zub {s:St} {t:Nat} {v:Value} {w:World} (h:Js w v (Zc s t).frames):∃ oa cap A,v=.slice oa (Zc s t).frames.length cap∧Uw w oa (Pt s t A)∧∀ j,j<(Zc s t).frames.length→Xj w (A j).1 (Ze s t j).locals∧Xj w (A j).2 (Ze s t j).stack:=by
 obtain ⟨oa,cap,e,_,hi⟩:=h
 have hall:∀ j:Nat,∃ a:Value × Value,j<(Zc s t).frames.length→∃ b o,oa=some ⟨b,o,none⟩∧w.cell? ⟨b,o+j*4,none⟩=some (.int .i64 (Ze s t j).fn)∧w.cell? ⟨b,o+j*4+1,none⟩=some (.int .i64 (Ze s t j).at_) ∧
   w.cell? ⟨b,o+j*4+2,none⟩=some a.1∧w.cell? ⟨b,o+j*4+3,none⟩=some a.2∧Xj w a.1 (Ze s t j).locals∧Xj w a.2 (Ze s t j).stack:=fun j=>by
  by_cases hj:j<(Zc s t).frames.length
  ·obtain ⟨b,o,vl,vs,h1,h2⟩:=hi j (Ze s t j) (Zs (Zc s t).frames j Fr.zero hj)
   exact ⟨(vl,vs),fun _=>⟨b,o,h1,h2⟩⟩
  ·exact ⟨(.slice none 0 0,.slice none 0 0),fun h=>absurd h hj⟩
 obtain ⟨A,hA⟩:=Classical.axiomOfChoice hall
 refine ⟨oa,cap,A,e,⟨fun k x hk=>?_,fun x hx=>?_⟩,fun j hj=>?_⟩
 ·have hlt:k<(Zc s t).frames.length*4:=by rw [← Zlo s t A];exact (List.getElem?_eq_some_iff.1 hk).1
  obtain ⟨b,o,e1,c0,c1,c2,c3,_⟩:=hA (k / 4) (by omega)
  refine ⟨b,o,e1,?_⟩
  rw [Zeq s t A hlt] at hk
  obtain rfl:=Option.some.inj hk
  unfold Zdj
  have hk4:k=k / 4*4+k % 4:=by omega
  have hm:k % 4<4:=Nat.mod_lt _ (by decide)
  by_cases m0:k % 4=0
  ·rw [if_pos m0,← c0];congr 2;omega
  ·rw [if_neg m0]
   by_cases m1:k % 4=1
   ·rw [if_pos m1,← c1];congr 2;omega
   ·rw [if_neg m1]
    by_cases m2:k % 4=2
    ·rw [if_pos m2,← c2];congr 2;omega
    ·rw [if_neg m2,← c3];congr 2;omega
 ·obtain ⟨k,hk,rfl⟩:=List.mem_map.1 hx
  have hlt:=List.mem_range.1 hk
  obtain ⟨b,o,e1,c0,c1,c2,c3,⟨_,_,e4,_⟩,⟨_,_,e5,_⟩⟩:=hA (k / 4) (by omega)
  unfold Zdj
  split
  ·rfl
  ·split
   ·rfl
   ·split
    ·rw [e4];rfl
    ·rw [e5];rfl
 ·obtain ⟨b,o,_,_,_,_,_,h1,h2⟩:=hA j hj
  exact ⟨h1,h2⟩
def Zhn (s:St) (t:Nat) (w:World) (en:Ending) (w':World):Prop :=
 ∃ V,en=.returned (V (.frames t))∧Xn (FK t (Zc s t).frames.length) w.heap.size w' V s∧Za w w'
def Un (s:St) (t:Nat) (A:Nat→Value × Value) (v:Value) (w:World) (k:Nat) (w':World):Prop :=
 ∃ V:Key→Value,V (.frames t)=v∧Xn (FK t k) w.heap.size w' V s∧(∀ j,k≤j→V (.locals t j)=(A j).1∧V (.stack t j)=(A j).2)∧Za w w'
theorem Un.start {s:St} {t:Nat} {A:Nat→Value × Value} {v:Value} {w w':World} (h:w'.ownsRow w.heap.size 48 4 v (Zc s t).frames.length (Pt s t A)) (hk:Za w w'):Un s t A v w 0 w':=by
 refine ⟨fun | some (some (.inr (.inl (_,j))))=>(A j).1 | some (some (.inr (.inr (_,j))))=>(A j).2 | _=>v,rfl,Xn.frames_start h (fun j hj=>Zxp s t A hj),fun j _=>⟨rfl,rfl⟩,hk⟩
theorem Un.next {s:St} {t g cap k:Nat} {A:Nat→Value × Value} {w w1 w2:World} {v1 v2:Value} (h:Un s t A (.slice (some ⟨g,0,none⟩) (Zc s t).frames.length cap) w k w1) (hk:k<(Zc s t).frames.length) (hp:Znu (Ze s t k) w1 (.returned (.agg #[.int .i64 (Ze s t k).fn,.int .i64 (Ze s t k).at_,v1,v2])) w2) :
  Un s t A (.slice (some ⟨g,0,none⟩) (Zc s t).frames.length cap) w (k+1) ((((w2.setCell ⟨g,k*4,none⟩ (.int .i64 (Ze s t k).fn)).setCell ⟨g,k*4+1,none⟩ (.int .i64 (Ze s t k).at_)).setCell ⟨g,k*4+2,none⟩ v1).setCell ⟨g,k*4+3,none⟩ v2):=by
 obtain ⟨V,hV,ho,hs,hkw⟩:=h
 obtain ⟨u1,u2,e,h1,h2,ha,hk2⟩:=hp
 have e':u1=v1∧u2=v2:=by simpa using e.symm
 obtain ⟨rfl,rfl⟩:=e'
 have hg:w.heap.size≤g:=((ho.piece (.frames t) rfl).block g (by rw [hV];rfl)).1
 refine ⟨frV V t k u1 u2,by rw [Zbn V (by simp) (by simp)];exact hV,ho.frame_in hkw.size hk2 hk hV h1 h2 ha,fun j hj=>?_,?_⟩
 ·rw [Zbn V (by simp;omega) (by simp),Zbn V (by simp) (by simp;omega)]
  exact hs j (by omega)
 ·exact ((((hkw.trans hk2).setCell (p:=⟨g,k*4,none⟩) hg _).setCell (p:=⟨g,k*4+1,none⟩) hg _).setCell (p:=⟨g,k*4+2,none⟩) hg _).setCell (p:=⟨g,k*4+3,none⟩) hg _
theorem Un.cells {s:St} {t g cap k:Nat} {A:Nat→Value × Value} {w w1:World} (h:Un s t A (.slice (some ⟨g,0,none⟩) (Zc s t).frames.length cap) w k w1) (hk:k<(Zc s t).frames.length) :
  w1.cell? ⟨g,k*4,none⟩=some (.int .i64 (Ze s t k).fn)∧w1.cell? ⟨g,k*4+1,none⟩=some (.int .i64 (Ze s t k).at_)∧w1.cell? ⟨g,k*4+2,none⟩=some (A k).1∧w1.cell? ⟨g,k*4+3,none⟩=some (A k).2∧g<w1.heap.size∧∀ j,w1.frozen? ⟨g,j,none⟩=false:=by
 obtain ⟨V,hV,ho,hs,hkw⟩:=h
 obtain ⟨xs,r1,r2⟩:=ho.piece (.frames t) rfl
 obtain ⟨x0,x1,x2,x3⟩:=r2 k hk
 rw [(hs k (Nat.le_refl _)).1] at x2
 rw [(hs k (Nat.le_refl _)).2] at x3
 rw [hV] at r1
 rcases r1 with ⟨l,⟨h0,_⟩ | ⟨g',cap',cur,e',_,hg,hn,_,hcs,ht⟩⟩
 ·cases h0
 ·simp only [Value.slice.injEq,Option.some.injEq,Addr.mk.injEq] at e'
  obtain ⟨⟨rfl,_⟩,_⟩:=e'
  have hat:∀ j u,xs[j]?=some u→w1.cell? ⟨g,j,none⟩=some u:=fun j u hj=>by
   rw [Zd hg j,← Array.getElem?_toList]
   rw [← ht,List.getElem?_take] at hj
   split at hj
   ·exact hj
   ·cases hj
  exact ⟨hat _ _ x0,hat _ _ x1,hat _ _ x2,hat _ _ x3,(Array.getElem?_eq_some_iff.1 hg).1,fun j=>Zk hg j⟩
theorem Zrr (s:St) (t:Nat) (v:Value) (w:World) (h:Js w v (Zc s t).frames) (hn:(Zc s t).frames.length≤1000) (hsm:∀ j,j<(Zc s t).frames.length→(Ze s t j).locals.length≤1000∧(Ze s t j).stack.length≤1000) :
  Calls Tryz.prog 81 #[v,.func (.func 82) #[] #[]] w (Zhn s t w):=by
 obtain ⟨oa,cap,A,rfl,hc,hA⟩:=Zub h
 have HCL:=Zb (Zyh _ oa cap _ w hc (Zlo s t A) hn)
 have HA:=Zb hA
 have HSM:=Zb hsm
 have HST:=Zb (fun (v:Value) (w':World)=>Un.start (s:=s) (t:=t) (A:=A) (v:=v) (w:=w) (w':=w'))
 have HEND:Hid (∀ v w',Un s t A v w (Zc s t).frames.length w'→Zhn s t w (.returned v) w'):=Zb (fun v w' ⟨V,hV,ho,_,hk⟩=>⟨V,by rw [hV],ho,hk⟩)
 have HIN:Hid (∀ k w' o c,k<(Zc s t).frames.length→Un s t A (.slice o (Zc s t).frames.length c) w k w'→∃ g,o=some ⟨g,0,none⟩):=Zb (fun k w' o c hk ⟨V,hV,ho,_,_⟩=>by
  obtain ⟨xs,r1,_⟩:=ho.piece (.frames t) rfl
  rw [hV] at r1
  rcases r1.2 with ⟨_,e⟩ | ⟨g,cap',cur,e,_⟩
  ·omega
  ·simp only [Value.slice.injEq] at e;exact ⟨g,e.1⟩)
 have HCE:=Zb (fun (g c k:Nat) (w':World)=>Un.cells (s:=s) (t:=t) (g:=g) (cap:=c) (k:=k) (A:=A) (w:=w) (w1:=w'))
 have HNX:=Zb (fun (g c k:Nat) (w1 w2:World) (v1 v2:Value)=>Un.next (s:=s) (t:=t) (g:=g) (cap:=c) (k:=k) (A:=A) (w:=w) (w1:=w1) (w2:=w2) (v1:=v1) (v2:=v2))
 clear h hc hA hsm
 generalize hN:(Zc s t).frames.length=n at *
 go_enter Tryz.func81,Tryz.ntmps81
 go_wp2_with fail
 refine (un HCL).mono ?_
 rintro e w1 ⟨v1,rfl,hr1,hk1⟩
 obtain ⟨o1,c1,rfl,_⟩:=Zw hr1
 have HI0:Hid (Un s t A (.slice o1 n c1) w 0 w1):=Zb ((un HST) _ _ hr1 hk1)
 clear hr1 hk1 HCL HST
 go_wp2
 go_loopw [10] (fun s10 wr=>∃ k:Nat,k≤n∧s10=.int .i64 k∧Hid (Un s t A (.slice o1 n c1) w k wr)) (fun s10 _=>n - (intOf s10).toNat)
 case atStart=>exact ⟨0,Nat.zero_le _,rfl,HI0⟩
 case round =>
  obtain ⟨k,hkn,rfl,HI⟩:=hrel
  by_cases hlt:k<n
  ·obtain ⟨g,rfl⟩:=(un HIN) k wr o1 c1 hlt (un HI)
   obtain ⟨e0,e1,e2,e3,hgz,hfz⟩:=(un HCE) g c1 k wr (un HI) hlt
   obtain ⟨V,hV,ho,hs,hkw⟩:=id (un HI)
   have hof:=Xbb (Ze s t k) _ _ wr (((un HA) k hlt).1.kept hkw) (((un HA) k hlt).2.kept hkw) ((un HSM) k hlt).1 ((un HSM) k hlt).2
   have HOF:=Zb hof
   clear hof hV ho hs hkw V
   go_wp2_with fail
   refine (un HOF).mono ?_
   rintro e w2 ⟨u1,u2,rfl,r1,r2,ha,hk2⟩
   obtain ⟨o3,c3,rfl,_⟩:=Zw r1
   obtain ⟨o4,c4,rfl,_⟩:=Zw r2
   have HI2:=Zb ((un HNX) g c1 k wr w2 _ _ (un HI) hlt ⟨_,_,rfl,r1,r2,ha,hk2⟩)
   have d0:=hk2.cell e0
   have d1:=hk2.cell e1
   have d2:=hk2.cell e2
   have d3:=hk2.cell e3
   have hz2:∀ j,w2.frozen? ⟨g,j,none⟩=false:=fun j=>by
    have:=hfz j
    unfold World.frozen? at this ⊢
    rw [hk2.block g hgz];exact this
   clear HOF r1 r2 ha hk2 e0 e1 e2 e3 hfz hgz
   generalize hL:(Ze s t k).locals.length=L at *
   generalize hS:(Ze s t k).stack.length=S at *
   clear hL hS
   go_wp2
   go_roundw
   case rel=>exact ⟨k+1,by omega,by go_num,HI2⟩
   case measure=>simp [intOf];omega
  ·have hke:k=n:=by omega
   have hf:=un HI
   rw [hke] at hf
   have HF:=Zb hf
   clear hke hf
   go_wp2
   go_ret
   exact (un HEND) _ _ (un HF)
theorem Xn.low {K:Key→Prop} {base base':Nat} {w:World} {V:Key→Value} {s:St} (h:Xn K base' w V s) (hb:base≤base'):Xn K base w V s:=⟨fun k hk=>(h.piece k hk).low hb,h.apart⟩
theorem Xn.setLow {K:Key→Prop} {base:Nat} {w:World} {V:Key→Value} {s:St} (h:Xn K base w V s) {a:Addr} (ha:a.block<base) (u:Value):Xn K base (w.setCell a u) V s :=
 h.same fun k b hk hb=>Below.heap_setCell w a u b (fun e=>by have:=((h.piece k hk).block b hb).1;omega)
def Zlh (s:St) (t:Nat) (w:World) (en:Ending) (w':World):Prop :=
 ∃ V,en=.returned (.agg #[V (.frames t),.int .i64 (Zc s t).caller])∧Xn (FK t (Zc s t).frames.length) w.heap.size w' V s∧Za w w'
theorem Xbc (s:St) (t:Nat) (v:Value) (w:World) (h:Js w v (Zc s t).frames) (hn:(Zc s t).frames.length≤1000) (hsm:∀ j,j<(Zc s t).frames.length→(Ze s t j).locals.length≤1000∧(Ze s t j).stack.length≤1000) :
  Calls Tryz.prog 51 #[.agg #[v,.int .i64 (Zc s t).caller]] w (Zlh s t w):=by
 have HC:Hid (∀ u,Za w u→Calls Tryz.prog 81 #[v,.func (.func 82) #[] #[]] u (Zhn s t u)):=Zb (fun u hu=>Zrr s t v u (h.kept hu) hn hsm)
 obtain ⟨oa,cap,rfl,_,_⟩:=h
 clear hsm
 generalize hN:(Zc s t).frames.length=n at *
 generalize hc:(Zc s t).caller=c at *
 go_enter Tryz.func51,Tryz.ntmps51
 go_wp2_with fail
 generalize hw2:((w.alloc (.cells #[.slice oa n cap,.int .i64 c] 46)).alloc (.cells #[.slice none 0 0,.int .i64 0] 46))=w2
 have hk2:Za w w2:=by rw [← hw2];exact ((Za.refl w).alloc _).alloc _
 have hz2:w2.heap.size=w.heap.size+2:=by rw [← hw2];simp
 have lX:w2.heap[w.heap.size]?=some (.cells #[.slice oa n cap,.int .i64 c] 46):=by rw [← hw2];exact Zo (Zh rfl) _
 have lR:w2.heap[w.heap.size+1]?=some (.cells #[.slice none 0 0,.int .i64 0] 46):=by rw [← hw2];exact Zh (by simp)
 clear hw2
 have hH:∀ u,Za w2 u→u.cell? ⟨w.heap.size,0,none⟩=some (.slice oa n cap)∧u.cell? ⟨w.heap.size,1,none⟩=some (.int .i64 c) :=
  fun u hu=>have l:=Zn hu lX;⟨Zd l 0,Zd l 1⟩
 have HH:=Zb hH
 refine Wt 6 [0,1,3,4] (fun u=>u.cell? ⟨w.heap.size,0,none⟩=some (.slice oa n cap)∧u.cell? ⟨w.heap.size,1,none⟩=some (.int .i64 c)) (by kernel_rfl) ?_
 have hHeld:=hH w2 (Za.refl w2)
 clear hH
 repeat
  refine Yp (v:=?_) hHeld (fun u hSu=>?_) ?_
  rotate_left
  ·((try dsimp only at hSu);go_simp) <;> with_reducible rfl
  try simp only [PS]
 refine Yx ?_
 refine Zq (i:=2) rfl (by kernel_rfl) (fun K hK=>?_)
 go_simp
 refine ((un HC) _ (hk2.drew)).mono ?_
 rintro e w3 ⟨V,rfl,ho,hk3⟩
 have hk23:Za w2 w3:=((Za.refl w2).drew).trans hk3
 obtain ⟨xs,hr,_⟩:=ho.piece (.frames t) rfl
 obtain ⟨o1,c1,hV,_⟩:=Zw hr
 rw [hN] at hV
 rw [hV]
 refine hK.out _ _ (fun _=>(un HH) w3 hk23) ?_
 clear hK K
 try simp only [PS]
 refine Zq (i:=5) rfl (by kernel_rfl) (fun K hK=>?_)
 go_simp
 refine hK.out _ _ (fun _=>(un HH) w3 hk23) ?_
 clear hK K
 try simp only [PS]
 have lR3:=Zn hk23 lR
 have r0:=Zd lR3 0
 have r1:=Zd lR3 1
 have f0:=Zk lR3 0
 have f1:=Zk lR3 1
 refine Zq (i:=6) rfl (by kernel_rfl) (fun K hK=>?_)
 go_simp
 refine hK.out _ _ (fun h=>absurd rfl h) ?_
 clear hK K
 refine Qz (by kernel_rfl) ?_ _
 have lR5:=Zm (Zm lR3 0 (.slice o1 n c1)) 1 (.int .i64 c)
 have hz:w.heap.size+2≤(w2.drew).heap.size:=by simp;omega
 have t1:=((((ho.low hz).setLow (a:=⟨w.heap.size+1,0,none⟩) (by simp) (.slice o1 n c1)).setLow (a:=⟨w.heap.size+1,1,none⟩) (by simp) (.int .i64 c)).low (base:=w.heap.size) (by omega))
 have hk5:=((hk2.trans hk23).setCell (p:=⟨w.heap.size+1,0,none⟩) (Nat.le_succ _) (.slice o1 n c1)).setCell (p:=⟨w.heap.size+1,1,none⟩) (Nat.le_succ _) (.int .i64 c)
 generalize ((w3.setCell ⟨w.heap.size+1,0,none⟩ (.slice o1 n c1)).setCell ⟨w.heap.size+1,1,none⟩ (.int .i64 c))=w5 at *
 have z0:w5.cell? ⟨w.heap.size+1,0,none⟩=some (.slice o1 n c1):=Zd lR5 0
 have z1:w5.cell? ⟨w.heap.size+1,1,none⟩=some (.int .i64 c):=Zd lR5 1
 have HT:=Zb (And.intro t1 hk5)
 have HV:=Zb hV
 clear t1 hk5 lR5 r0 r1 f0 f1 ho hk3 hk23 lR3 hHeld HH HC lX lR hr hV
 go_wp2
 refine bodyPost_ret (v:=.agg #[.slice o1 n c1,.int .i64 c]) (by simp [results,Tryz.results51,go_sem,z0,z1]) rfl ?_
 exact ⟨V,by rw [un HV,hc],(un HT).1,(un HT).2⟩
def Zek (s:St) (A:Nat→Value) (k:Nat):Value:=if k % 2=0 then A (k / 2) else .int .i64 (Zc s (k / 2)).caller
def Zat (s:St) (A:Nat→Value):List Value:=(List.range (s.fibers.length*2)).map (Zek s A)
theorem Znc (s:St) (A:Nat→Value):(Zat s A).length=s.fibers.length*2:=by simp [Zat]
theorem Zjg (s:St) (A:Nat→Value) {k:Nat} (h:k<s.fibers.length*2):(Zat s A)[k]?=some (Zek s A k):=by
 simp [Zat,List.getElem?_range h]
theorem Ztc (s:St) (A:Nat→Value) {j:Nat} (h:j<s.fibers.length):(Zat s A)[j*2]?=some (A j)∧(Zat s A)[j*2+1]?=some (.int .i64 (Zc s j).caller):=by
 rw [Zjg s A (by omega),Zjg s A (by omega)]
 unfold Zek
 have d0:j*2 / 2=j:=by omega
 have d1:(j*2+1) / 2=j:=by omega
 have m0:j*2 % 2=0:=by omega
 have m1:(j*2+1) % 2=1:=by omega
 simp [d0,d1,m0,m1]
theorem Xdd {s:St} {v:Value} {w:World} (h:We w v s.fibers):∃ oa cap A,v=.slice oa s.fibers.length cap∧Uw w oa (Zat s A)∧∀ j,j<s.fibers.length→Js w (A j) (Zc s j).frames:=by
 obtain ⟨oa,cap,e,_,hi⟩:=h
 have hall:∀ j:Nat,∃ a:Value,j<s.fibers.length→∃ b o,oa=some ⟨b,o,none⟩∧w.cell? ⟨b,o+j*2,none⟩=some a∧w.cell? ⟨b,o+j*2+1,none⟩=some (.int .i64 (Zc s j).caller)∧Js w a (Zc s j).frames:=fun j=>by
  by_cases hj:j<s.fibers.length
  ·obtain ⟨b,o,vf,h1,h2⟩:=hi j (Zc s j) (Zs s.fibers j Fb.zero hj)
   exact ⟨vf,fun _=>⟨b,o,h1,h2⟩⟩
  ·exact ⟨.slice none 0 0,fun h=>absurd h hj⟩
 obtain ⟨A,hA⟩:=Classical.axiomOfChoice hall
 refine ⟨oa,cap,A,e,⟨fun k x hk=>?_,fun x hx=>?_⟩,fun j hj=>?_⟩
 ·have hlt:k<s.fibers.length*2:=by rw [← Znc s A];exact (List.getElem?_eq_some_iff.1 hk).1
  obtain ⟨b,o,e1,c0,c1,_⟩:=hA (k / 2) (by omega)
  refine ⟨b,o,e1,?_⟩
  rw [Zjg s A hlt] at hk
  obtain rfl:=Option.some.inj hk
  unfold Zek
  by_cases m0:k % 2=0
  ·rw [if_pos m0,← c0];congr 2;omega
  ·rw [if_neg m0,← c1];congr 2;omega
 ·obtain ⟨k,hk,rfl⟩:=List.mem_map.1 hx
  have hlt:=List.mem_range.1 hk
  obtain ⟨b,o,e1,c0,c1,⟨_,_,e4,_⟩⟩:=hA (k / 2) (by omega)
  unfold Zek
  split
  ·rw [e4];rfl
  ·rfl
 ·obtain ⟨b,o,_,_,_,h1⟩:=hA j hj
  exact h1
def Ziq (s:St) (w:World) (en:Ending) (w':World):Prop:=∃ V,en=.returned (V .fibers)∧Xn (LK s s.fibers.length) w.heap.size w' V s∧Za w w'
def Ub (s:St) (A:Nat→Value) (v:Value) (w:World) (k:Nat) (w':World):Prop :=
 ∃ V:Key→Value,V .fibers=v∧Xn (LK s k) w.heap.size w' V s∧(∀ j,k≤j→V (.frames j)=A j)∧Za w w'
theorem Ub.start {s:St} {A:Nat→Value} {v:Value} {w w':World} (h:w'.ownsRow w.heap.size 46 2 v s.fibers.length (Zat s A)) (hk:Za w w'):Ub s A v w 0 w' :=
 ⟨fun | some (some (.inl i))=>A i | _=>v,rfl,Xn.fibers_start h (fun _ hj=>Ztc s A hj),fun _ _=>rfl,hk⟩
theorem Ub.next {s:St} {g cap k:Nat} {A:Nat→Value} {w w1 w2:World} {v1:Value} (h:Ub s A (.slice (some ⟨g,0,none⟩) s.fibers.length cap) w k w1) (hk:k<s.fibers.length) (hp:Zlh s k w1 (.returned (.agg #[v1,.int .i64 (Zc s k).caller])) w2) :
  Ub s A (.slice (some ⟨g,0,none⟩) s.fibers.length cap) w (k+1) ((w2.setCell ⟨g,k*2,none⟩ v1).setCell ⟨g,k*2+1,none⟩ (.int .i64 (Zc s k).caller)):=by
 obtain ⟨V,hV,ho,hs,hkw⟩:=h
 obtain ⟨V1,e,h1,hk2⟩:=hp
 obtain rfl:V1 (.frames k)=v1:=by simpa using e.symm
 have hg:w.heap.size≤g:=((ho.piece .fibers trivial).block g (by rw [hV];rfl)).1
 refine ⟨fbV V V1 k,by rw [Zbt V V1 rfl];exact hV,ho.fiber_in hkw.size hk2 hk hV h1,fun j hj=>?_,?_⟩
 ·rw [Zbt V V1 (t:=k) (k:=.frames j) (beq_eq_false_iff_ne.2 (by omega))]
  exact hs j (by omega)
 ·exact ((hkw.trans hk2).setCell (p:=⟨g,k*2,none⟩) hg _).setCell (p:=⟨g,k*2+1,none⟩) hg _
theorem Ub.cells {s:St} {g cap k:Nat} {A:Nat→Value} {w w1:World} (h:Ub s A (.slice (some ⟨g,0,none⟩) s.fibers.length cap) w k w1) (hk:k<s.fibers.length) :
  w1.cell? ⟨g,k*2,none⟩=some (A k)∧w1.cell? ⟨g,k*2+1,none⟩=some (.int .i64 (Zc s k).caller)∧g<w1.heap.size∧∀ j,w1.frozen? ⟨g,j,none⟩=false:=by
 obtain ⟨V,hV,ho,hs,hkw⟩:=h
 obtain ⟨xs,r1,r2⟩:=ho.piece .fibers trivial
 obtain ⟨x0,x1⟩:=r2 k hk
 rw [hs k (Nat.le_refl _)] at x0
 rw [hV] at r1
 rcases r1 with ⟨l,⟨h0,_⟩ | ⟨g',cap',cur,e',_,hg,hn,_,hcs,ht⟩⟩
 ·cases h0
 ·simp only [Value.slice.injEq,Option.some.injEq,Addr.mk.injEq] at e'
  obtain ⟨⟨rfl,_⟩,_⟩:=e'
  have hat:∀ j u,xs[j]?=some u→w1.cell? ⟨g,j,none⟩=some u:=fun j u hj=>by
   rw [Zd hg j,← Array.getElem?_toList]
   rw [← ht,List.getElem?_take] at hj
   split at hj
   ·exact hj
   ·cases hj
  exact ⟨hat _ _ x0,hat _ _ x1,(Array.getElem?_eq_some_iff.1 hg).1,fun j=>Zk hg j⟩
def Zhy (s:St):Prop:=s.fibers.length≤1000∧s.out.length≤1000∧∀ t,t<s.fibers.length→(Zc s t).frames.length≤1000∧∀ j,j<(Zc s t).frames.length→(Ze s t j).locals.length≤1000∧(Ze s t j).stack.length≤1000
theorem Zzb (s:St) (v:Value) (w:World) (h:We w v s.fibers) (hn:Zhy s) :
  Calls Tryz.prog 50 #[v,.func (.func 51) #[] #[]] w (Ziq s w):=by
 obtain ⟨oa,cap,A,rfl,hc,hA⟩:=Xdd h
 have HCL:=Zb (Xca _ oa cap _ w hc (Znc s A) hn.1)
 have HA:=Zb hA
 have HSM:=Zb hn.2.2
 have HST:=Zb (fun (v:Value) (w':World)=>Ub.start (s:=s) (A:=A) (v:=v) (w:=w) (w':=w'))
 have HEND:Hid (∀ v w',Ub s A v w s.fibers.length w'→Ziq s w (.returned v) w'):=Zb (fun v w' ⟨V,hV,ho,_,hk⟩=>⟨V,by rw [hV],ho,hk⟩)
 have HIN:Hid (∀ k w' o c,k<s.fibers.length→Ub s A (.slice o s.fibers.length c) w k w'→∃ g,o=some ⟨g,0,none⟩):=Zb (fun k w' o c hk ⟨V,hV,ho,_,_⟩=>by
  obtain ⟨xs,r1,_⟩:=ho.piece .fibers trivial
  rw [hV] at r1
  rcases r1.2 with ⟨_,e⟩ | ⟨g,cap',cur,e,_⟩
  ·omega
  ·simp only [Value.slice.injEq] at e;exact ⟨g,e.1⟩)
 have HCE:=Zb (fun (g c k:Nat) (w':World)=>Ub.cells (s:=s) (g:=g) (cap:=c) (k:=k) (A:=A) (w:=w) (w1:=w'))
 have HNX:=Zb (fun (g c k:Nat) (w1 w2:World) (v1:Value)=>Ub.next (s:=s) (g:=g) (cap:=c) (k:=k) (A:=A) (w:=w) (w1:=w1) (w2:=w2) (v1:=v1))
 have hn1:=hn.1
 clear h hc hA hn
 generalize hN:s.fibers.length=n at *
 go_enter Tryz.func50,Tryz.ntmps50
 go_wp2_with fail
 refine (un HCL).mono ?_
 rintro e w1 ⟨v1,rfl,hr1,hk1⟩
 obtain ⟨o1,c1,rfl,_⟩:=Zw hr1
 have HI0:Hid (Ub s A (.slice o1 n c1) w 0 w1):=Zb ((un HST) _ _ hr1 hk1)
 clear hr1 hk1 HCL HST
 go_wp2
 go_loopw [10] (fun s10 wr=>∃ k:Nat,k≤n∧s10=.int .i64 k∧Hid (Ub s A (.slice o1 n c1) w k wr)) (fun s10 _=>n - (intOf s10).toNat)
 case atStart=>exact ⟨0,Nat.zero_le _,rfl,HI0⟩
 case round =>
  obtain ⟨k,hkn,rfl,HI⟩:=hrel
  by_cases hlt:k<n
  ·obtain ⟨g,rfl⟩:=(un HIN) k wr o1 c1 hlt (un HI)
   obtain ⟨e0,e1,hgz,hfz⟩:=(un HCE) g c1 k wr (un HI) hlt
   obtain ⟨V,hV,ho,hs,hkw⟩:=id (un HI)
   have hof:=Xbc s k _ wr (((un HA) k hlt).kept hkw) ((un HSM) k hlt).1 ((un HSM) k hlt).2
   have HOF:=Zb hof
   clear hof hV ho hs hkw V
   go_wp2_with fail
   refine (un HOF).mono ?_
   rintro e w2 ⟨V1,rfl,r1,hk2⟩
   obtain ⟨xs,hr,_⟩:=r1.piece (.frames k) rfl
   obtain ⟨o3,c3,hV3,_⟩:=Zw hr
   have HI2:=Zb ((un HNX) g c1 k wr w2 _ (un HI) hlt ⟨V1,rfl,r1,hk2⟩)
   rw [hV3] at HI2
   rw [hV3]
   have d0:=hk2.cell e0
   have d1:=hk2.cell e1
   have hz2:∀ j,w2.frozen? ⟨g,j,none⟩=false:=fun j=>by
    have:=hfz j
    unfold World.frozen? at this ⊢
    rw [hk2.block g hgz];exact this
   clear HOF r1 hk2 e0 e1 hfz hgz hr hV3
   generalize (Zc s k).frames.length=L at *
   go_wp2
   go_roundw
   case rel=>exact ⟨k+1,by omega,by go_num,HI2⟩
   case measure=>simp [intOf];omega
  ·have hke:k=n:=by omega
   have hf:=un HI
   rw [hke] at hf
   have HF:=Zb hf
   clear hke hf
   go_wp2
   go_ret
   exact (un HEND) _ _ (un HF)
def Zdx (s:St) (w:World) (en:Ending) (w':World):Prop :=
 ∃ V,en=.returned (.agg #[V .fibers,.int .i64 s.now,V .out])∧Own w.heap.size w' V s∧Za w w'
theorem Zoi (s:St) (v:Value) (w:World) (h:Xo w v s) (hn:Zhy s):Calls Tryz.prog 27 #[v] w (Zdx s w):=by
 obtain ⟨vf,vo,rfl,hf,ho⟩:=h
 have HC1:Hid (∀ u,Za w u→Calls Tryz.prog 50 #[vf,.func (.func 51) #[] #[]] u (Ziq s u)):=Zb (fun u hu=>Zzb s vf u (hf.kept hu) hn)
 obtain ⟨oa,cap,rfl,_,_⟩:=hf
 obtain ⟨oo,co,rfl,_,hoi⟩:=ho
 have HC2:Hid (∀ u,Za w u→Calls Tryz.prog 52 #[.slice oo s.out.length co] u (Zdf 3 1 s.out.length (ints s.out) u)):=Zb (fun u hu=>Zhz _ oo co _ u ((Zhm hoi).kept hu) (by rw [Pm,Nat.mul_one]) hn.2.1)
 have HW:=Zb (fun (u u1:World) (V:Key→Value) (vo:Value) (base:Nat)=>Xn.whole (base:=base) (w:=u) (w1:=u1) (V:=V) (s:=s) (vo:=vo))
 clear hoi hn
 generalize hN:s.fibers.length=n at *
 generalize hM:s.out.length=m at *
 generalize hc:s.now=c at *
 go_enter Tryz.func27,Tryz.ntmps27
 go_wp2_with fail
 generalize hw2:((w.alloc (.cells #[.slice oa n cap,.int .i64 c,.slice oo m co] 26)).alloc (.cells #[.slice none 0 0,.int .i64 0,.slice none 0 0] 26))=w2
 have hk2:Za w w2:=by rw [← hw2];exact ((Za.refl w).alloc _).alloc _
 have hz2:w2.heap.size=w.heap.size+2:=by rw [← hw2];simp
 have lX:w2.heap[w.heap.size]?=some (.cells #[.slice oa n cap,.int .i64 c,.slice oo m co] 26):=by rw [← hw2];exact Zo (Zh rfl) _
 have lR:w2.heap[w.heap.size+1]?=some (.cells #[.slice none 0 0,.int .i64 0,.slice none 0 0] 26):=by rw [← hw2];exact Zh (by simp)
 clear hw2
 have hH:∀ u,Za w2 u→u.cell? ⟨w.heap.size,0,none⟩=some (.slice oa n cap)∧u.cell? ⟨w.heap.size,1,none⟩=some (.int .i64 c)∧u.cell? ⟨w.heap.size,2,none⟩=some (.slice oo m co) :=
  fun u hu=>have l:=Zn hu lX;⟨Zd l 0,Zd l 1,Zd l 2⟩
 have HH:=Zb hH
 refine Wt 9 [0,1,3,4,5,6] (fun u=>u.cell? ⟨w.heap.size,0,none⟩=some (.slice oa n cap)∧u.cell? ⟨w.heap.size,1,none⟩=some (.int .i64 c)∧u.cell? ⟨w.heap.size,2,none⟩=some (.slice oo m co)) (by kernel_rfl) ?_
 have hHeld:=hH w2 (Za.refl w2)
 clear hH
 repeat
  refine Yp (v:=?_) hHeld (fun u hSu=>?_) ?_
  rotate_left
  ·((try dsimp only at hSu);go_simp) <;> with_reducible rfl
  try simp only [PS]
 refine Yx ?_
 refine Zq (i:=2) rfl (by kernel_rfl) (fun K hK=>?_)
 go_simp
 refine ((un HC1) _ (hk2.drew)).mono ?_
 rintro e w3 ⟨V,rfl,ho,hk3⟩
 have hk23:Za w2 w3:=((Za.refl w2).drew).trans hk3
 obtain ⟨xs,hr,_⟩:=ho.piece .fibers trivial
 obtain ⟨o1,c1,hV,_⟩:=Zw hr
 rw [hN] at hV
 rw [hV]
 refine hK.out _ _ (fun _=>(un HH) w3 hk23) ?_
 clear hK K
 try simp only [PS]
 refine Zq (i:=7) rfl (by kernel_rfl) (fun K hK=>?_)
 go_simp
 refine ((un HC2) _ (hk2.trans hk23)).mono ?_
 rintro e w4 ⟨v4,rfl,ho4,hk4⟩
 obtain ⟨o2,c2,rfl,_⟩:=Zw ho4
 have hk24:Za w2 w4:=hk23.trans hk4
 refine hK.out _ _ (fun _=>(un HH) w4 hk24) ?_
 clear hK K
 try simp only [PS]
 refine Zq (i:=8) rfl (by kernel_rfl) (fun K hK=>?_)
 go_simp
 refine hK.out _ _ (fun _=>(un HH) w4 hk24) ?_
 clear hK K
 try simp only [PS]
 have lR4:=Zn hk24 lR
 have r0:=Zd lR4 0
 have r1:=Zd lR4 1
 have r2:=Zd lR4 2
 have f0:=Zk lR4 0
 have f1:=Zk lR4 1
 have f2:=Zk lR4 2
 refine Zq (i:=9) rfl (by kernel_rfl) (fun K hK=>?_)
 go_simp
 refine hK.out _ _ (fun h=>absurd rfl h) ?_
 clear hK K
 refine Qz (by kernel_rfl) ?_ _
 have lR5:=Zm (Zm (Zm lR4 0 (.slice o1 n c1)) 1 (.int .i64 c)) 2 (.slice o2 m c2)
 have hz:w.heap.size+2≤(w2.drew).heap.size:=by simp;omega
 have hz3:w.heap.size+2≤w3.heap.size:=by have:=hk23.size;omega
 have hown:Own (w.heap.size+2) w4 (upd V .out (.slice o2 m c2)) s:=(un HW) w3 w4 V (.slice o2 m c2) (w.heap.size+2) (by rw [← hN];exact ho.low hz) hz3 hk4 ho4
 have hoff:Own.off (upd V .out (.slice o2 m c2)) s (w.heap.size+1):=hown.new_off (.inr (by omega))
 have t1:Own (w.heap.size+2) _ _ _:=((hown.setOff (a:=⟨w.heap.size+1,0,none⟩) hoff (.slice o1 n c1)).setOff (a:=⟨w.heap.size+1,1,none⟩) hoff (.int .i64 c)).setOff (a:=⟨w.heap.size+1,2,none⟩) hoff (.slice o2 m c2)
 have hk5:=(((hk2.trans hk24).setCell (p:=⟨w.heap.size+1,0,none⟩) (Nat.le_succ _) (.slice o1 n c1)).setCell (p:=⟨w.heap.size+1,1,none⟩) (Nat.le_succ _) (.int .i64 c)).setCell (p:=⟨w.heap.size+1,2,none⟩) (Nat.le_succ _) (.slice o2 m c2)
 generalize (((w4.setCell ⟨w.heap.size+1,0,none⟩ (.slice o1 n c1)).setCell ⟨w.heap.size+1,1,none⟩ (.int .i64 c)).setCell ⟨w.heap.size+1,2,none⟩ (.slice o2 m c2))=w5 at *
 have z0:w5.cell? ⟨w.heap.size+1,0,none⟩=some (.slice o1 n c1):=Zd lR5 0
 have z1:w5.cell? ⟨w.heap.size+1,1,none⟩=some (.int .i64 c):=Zd lR5 1
 have z2:w5.cell? ⟨w.heap.size+1,2,none⟩=some (.slice o2 m c2):=Zd lR5 2
 have t2:Own w.heap.size w5 (upd V .out (.slice o2 m c2)) s:=⟨fun k hk=>(t1.piece k hk).low (by omega),t1.apart⟩
 have HT:=Zb (And.intro t2 hk5)
 have HV:=Zb hV
 clear t1 t2 hk5 lR5 r0 r1 r2 f0 f1 f2 ho hk3 hk4 hk23 hk24 lR4 hHeld HH HC1 HC2 lX lR hr hV ho4 hown hoff HW
 go_wp2
 refine bodyPost_ret (v:=.agg #[.slice o1 n c1,.int .i64 c,.slice o2 m c2]) (by simp [results,Tryz.results27,go_sem,z0,z1,z2]) rfl ?_
 exact ⟨upd V .out (.slice o2 m c2),by rw [Qb,Zp V _ (by simp),un HV,hc],(un HT).1,(un HT).2⟩
theorem Zjr {p:List Fn} (h:Xq p=0):Uu p:=fun _ hk=>(Zeo h hk).1.len
theorem Zju {p:List Fn} (h:Xq p=0):Zcj p:=fun k a hk=>by
 have:=Zns h hk a
 omega
end Go.Proofs.YtblihfpigjiahaaGreatDoor
