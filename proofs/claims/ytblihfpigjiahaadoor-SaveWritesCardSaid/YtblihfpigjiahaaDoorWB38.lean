/- OwnI -/
import Derived.Test.YtblihfpigjiahaaDoorWB37
import Derived.Test.YtblihfpigjiahaaDoorWB26
import Derived.Deep.DeepCutAuto
set_option maxRecDepth 100000
set_option maxHeartbeats 8000000
namespace Go.Proofs.YtblihfpigjiahaaDoor
open Go.RowKit
def Znl (s:St) (w:World) (e:Ending) (w':World):Prop:=∃ V,e=.returned (.agg #[V .fibers,.int .i64 s.now,V .out])∧Own w.heap.size w' V s∧Zb w w'
theorem Zhb {base:Nat} {w:World} {B3 g:Nat} {vo:Value} {now:Int} {out:List Int} (hB:w.heap[B3]?=some (.cells #[.slice none 0 0,.int .i64 now,vo] 26)) (hr:w.ownsRow base 3 1 vo out.length (ints out)) (hg:vo.ownBlock=some g) (hne:g≠B3) (hb:base≤B3) :
  Zi base w B3 (fun k=>if k=.out then vo else .slice none 0 0) ⟨[],now,out⟩:=by
 refine ⟨hB,⟨fun k hk=>?_,fun k k' g' hk hk' e e'=>?_⟩,fun k hk e=>?_,hb⟩
 ·cases k using Key.by with
  | fibers=>exact ⟨[],World.ownsRow_nil _ _ _ _,fun i hi=>by simp at hi⟩
  | out=>exact hr
  | frames t=>simp [live] at hk
  | locals t q=>simp [live] at hk
  | stack t q=>simp [live] at hk
 ·by_cases h1:k=.out
  ·by_cases h2:k'=.out
   ·rw [h1,h2]
   ·simp only [if_neg h2] at e';cases e'
  ·simp only [if_neg h1] at e;cases e
 ·by_cases h1:k=.out
  ·simp only [if_pos h1] at e;rw [hg] at e;exact hne (Option.some.inj e)
  ·simp only [if_neg h1] at e;cases e
theorem Ue {u:World} {B:Nat} {a b c x y z:Value} {t:TypeId} (h:u.heap[B]?=some (.cells #[a,b,c] t)):(((u.setCell ⟨B,0,none⟩ x).setCell ⟨B,1,none⟩ y).setCell ⟨B,2,none⟩ z).heap[B]?=some (.cells #[x,y,z] t):=by
 rw [Zl (Zl (Zl h 0 x) 1 y) 2 z]
 rfl
theorem Zkq (s:St) (v:Value) (w:World) (hs:Zy w v s) (hsm:Yi s):Calls Tryd.prog 85 #[v] w (Znl s w):=by
 obtain ⟨vf,vo,rfl,hF,hO⟩:=hs
 obtain ⟨oF,cF,rfl,hFl,hFi⟩:=hF
 obtain ⟨oO,cO,rfl,_,_⟩:=id hO
 have HO:=Za hO
 have HFI:=Za hFi
 have HSM:=Za hsm
 have hNl:s.fibers.length≤1000:=hsm.1
 clear hO hFi hsm
 generalize hN:s.fibers.length=N at *
 have HN:=Za hN
 clear hN
 go_enter Tryd.func85,Tryd.ntmps85
 go_wp2_with fail
 generalize hw1:(w.alloc (.cells #[.slice oF N cF,.int .i64 s.now,.slice oO s.out.length cO] 26)).alloc (.cells #[.slice none 0 0,.int .i64 0,.slice none 0 0] 26)=w1
 have LA:w1.heap[w.heap.size]?=some (.cells #[.slice oF N cF,.int .i64 s.now,.slice oO s.out.length cO] 26):=by rw [← hw1];exact Zr (Zg rfl) _
 have LR:w1.heap[w.heap.size+1]?=some (.cells #[.slice none 0 0,.int .i64 0,.slice none 0 0] 26):=by rw [← hw1];exact Zg (by simp)
 have hk1:Zb w w1:=by rw [← hw1];exact ((Zb.refl w).alloc _).alloc _
 have hs1:w1.heap.size=w.heap.size+2:=by rw [← hw1];simp
 generalize hA:w.heap.size=A at *
 generalize hR2:A+1=R2 at *
 have HK1:=Za hk1
 have HLA:=Za LA
 have HLR:=Za LR
 have a0:=Zd LA 0
 have a1:=Zd LA 1
 have a2:=Zd LA 2
 have HS1:=Za hs1
 have HAR:Hid (w.heap.size=A∧A+1=R2):=Za ⟨hA,hR2⟩
 clear hw1 hk1 LA LR hs1 hA hR2
 go_cut [3] from 8 to 73 (fun s3 wx=>∃ (B3:Nat) (V0:Key→Value),s3=.pointer (some ⟨B3,0,none⟩)∧Hid (Zi w1.heap.size wx B3 V0 ⟨[],s.now,s.out⟩∧Zb w1 wx))
 case first =>
  have HYS:Hid (∀ u,Zb w1 u→u.cell? ⟨A,1,none⟩=some (.int .i64 s.now)∧u.cell? ⟨A,2,none⟩=some (.slice oO s.out.length cO)):=Za (fun u hu=>⟨hu.cell a1,hu.cell a2⟩)
  have HOI:Hid (∀ u,Zb w1 u→Xn u (.slice oO s.out.length cO) s.out):=Za (fun u hu=>(un HO).kept ((un HK1).trans hu))
  refine Zac 8 (fun u=>u.cell? ⟨A,1,none⟩=some (.int .i64 s.now)∧u.cell? ⟨A,2,none⟩=some (.slice oO s.out.length cO)) (by kernel_rfl) ?_
  have hHeld:=(un HYS) _ (Zb.refl w1).drew
  refine Zt (i:=0) (v:=?_) rfl (by kernel_rfl) (by kernel_rfl) (by kernel_rfl) (by kernel_rfl) (fun _ _ _ h=>h) (by rfl) (fun u hSu=>?_) hHeld ?_
  rotate_left
  ·((try dsimp only at hSu);go_simp) <;> with_reducible rfl
  try simp only [PS]
  refine Zt (i:=1) (v:=?_) rfl (by kernel_rfl) (by kernel_rfl) (by kernel_rfl) (by kernel_rfl) (fun _ _ _ h=>h) (by rfl) (fun u hSu=>?_) hHeld ?_
  rotate_left
  ·((try dsimp only at hSu);go_simp) <;> with_reducible rfl
  try simp only [PS]
  refine Zt (i:=3) (v:=?_) rfl (by kernel_rfl) (by kernel_rfl) (by kernel_rfl) (by kernel_rfl) (fun _ _ _ h=>h) (by rfl) (fun u hSu=>?_) hHeld ?_
  rotate_left
  ·((try dsimp only at hSu);go_simp) <;> with_reducible rfl
  try simp only [PS]
  refine Zt (i:=4) (v:=?_) rfl (by kernel_rfl) (by kernel_rfl) (by kernel_rfl) (by kernel_rfl) (fun _ _ _ h=>h) (by rfl) (fun u hSu=>?_) hHeld ?_
  rotate_left
  ·((try dsimp only at hSu);go_simp) <;> with_reducible rfl
  try simp only [PS]
  refine Zey (i:=2) (k:=7) rfl rfl (by kernel_rfl) (fun K hK=>?_) (fun K hK=>?_)
  ·go_simp
   refine hK.out _ _ (fun _=>(un HYS) _ (((Zb.refl w1).alloc _).drew)) ?_
   clear hK K
   try simp only [PS]
   refine Zey (i:=5) (k:=7) rfl rfl (by kernel_rfl) (fun K hK=>?_) (fun K hK=>?_)
   ·rw [if_pos (by rfl)]
    obtain ⟨v5,w5,hr5,ho5,hg5,g,hvg,hgg⟩:=Pw w1.heap.size w1.heap.size (w1.alloc (.cells #[] 3)).drew _ s.out ((un HOI) _ (((Zb.refl w1).alloc _).drew)) (un HSM).2.1 (Xi (Zg rfl)) (Nat.le_refl _)
    refine Yp (v:=.slice (some ⟨w1.heap.size,0,none⟩) 0 0) (u:=.slice oO s.out.length cO) _ _ _ 24 rfl rfl rfl hr5 ?_
    have hk5:Zb w1 w5:=Below.grown (((Zb.refl w1).alloc _).drew) hg5 (by simp) (fun j hj=>by cases hj;exact Nat.le_refl _)
    refine hK.out _ _ (fun _=>(un HYS) _ hk5) ?_
    clear hK K
    obtain ⟨o5,c5,rfl,_⟩:=Xq ho5
    try simp only [PS]
    have hHeld:=(un HYS) _ hk5
    refine Zt (i:=6) (v:=?_) rfl (by kernel_rfl) (by kernel_rfl) (by kernel_rfl) (by kernel_rfl) (fun _ _ _ h=>h) (by rfl) (fun u hSu=>?_) hHeld ?_
    rotate_left
    ·((try dsimp only at hSu);go_simp) <;> with_reducible rfl
    try simp only [PS]
    refine Xl (i:=7) rfl (by kernel_rfl) (fun K hK=>?_)
    go_simp
    refine hK.out _ _ (fun _=>(un HYS) _ (hk5.alloc _)) ?_
    clear hK K
    try simp only [PS]
    refine Xl (i:=8) rfl (by kernel_rfl) (fun K hK=>?_)
    go_simp
    refine hK.out _ _ (fun h=>absurd rfl h) ?_
    clear hK K
    refine Uj (by kernel_rfl) ?_ _
    have hfin:=Zhb (base:=w1.heap.size) (Zg (w:=w5) (o:=.cells #[.slice none 0 0,.int .i64 s.now,.slice o5 s.out.length c5] 26) rfl) (Zij ho5 ((Zb.refl w5).alloc _)) hvg (by have:=(ho5.lt g hvg).2;omega) hk5.size
    have HFIN:=Za (And.intro hfin (hk5.alloc (.cells #[.slice none 0 0,.int .i64 s.now,.slice o5 s.out.length c5] 26)))
    clear hfin ho5 hg5 hvg hgg hk5 hHeld hr5
    go_wp2_with fail
    go_meet
    exact ⟨_,_,rfl,HFIN⟩
   ·-- 2,7,5
    go_simp
    refine hK.out _ _ (fun _=>(un HYS) _ ((((Zb.refl w1).alloc _).alloc _).drew)) ?_
    clear hK K
    try simp only [PS]
    refine Xl (i:=5) rfl (by kernel_rfl) (fun K hK=>?_)
    rw [if_pos (by rfl)]
    obtain ⟨v5,w5,hr5,ho5,hg5,g,hvg,hgg⟩:=Pw w1.heap.size w1.heap.size ((w1.alloc (.cells #[] 3)).alloc (.cells #[.slice none 0 0,.int .i64 0,.slice none 0 0] 26)).drew _ s.out ((un HOI) _ ((((Zb.refl w1).alloc _).alloc _).drew)) (un HSM).2.1 (Xi (Zr (Zg rfl) _)) (Nat.le_refl _)
    refine Yp (v:=.slice (some ⟨w1.heap.size,0,none⟩) 0 0) (u:=.slice oO s.out.length cO) _ _ _ 24 rfl rfl rfl hr5 ?_
    have hk5:Zb w1 w5:=Below.grown ((((Zb.refl w1).alloc _).alloc _).drew) hg5 (by simp;omega) (fun j hj=>by cases hj;exact (Nat.le_refl _))
    refine hK.out _ _ (fun _=>(un HYS) _ hk5) ?_
    clear hK K
    obtain ⟨o5,c5,rfl,_⟩:=Xq ho5
    try simp only [PS]
    have hHeld:=(un HYS) _ hk5
    refine Zt (i:=6) (v:=?_) rfl (by kernel_rfl) (by kernel_rfl) (by kernel_rfl) (by kernel_rfl) (fun _ _ _ h=>h) (by rfl) (fun u hSu=>?_) hHeld ?_
    rotate_left
    ·((try dsimp only at hSu);go_simp) <;> with_reducible rfl
    try simp only [PS]
    have lb:w5.heap[w1.heap.size+1]?=some (.cells #[.slice none 0 0,.int .i64 0,.slice none 0 0] 26):=(hg5.block _ (by simp) (by simp)).trans (Xi (Zg (by simp)))
    have fzb:=Zk lb
    have f0:=fzb 0
    have f1:=fzb 1
    have f2:=fzb 2
    have e0:=Zd lb 0
    have e1:=Zd lb 1
    have e2:=Zd lb 2
    refine Xl (i:=8) rfl (by kernel_rfl) (fun K hK=>?_)
    go_simp
    refine hK.out _ _ (fun h=>absurd rfl h) ?_
    clear hK K
    refine Uj (by kernel_rfl) ?_ _
    have hgne:g≠(w1.heap.size+1):=by rcases hgg with e | e <;> (try simp at e) <;> omega
    have hvne:(Value.slice o5 s.out.length c5).ownBlock≠some (w1.heap.size+1):=by rw [hvg];intro e;exact hgne (Option.some.inj e)
    have hfin:=Zhb (base:=w1.heap.size) (Ue (x:=.slice none 0 0) (y:=.int .i64 s.now) (z:=.slice o5 s.out.length c5) lb) (ownsRow_setCell_other (ownsRow_setCell_other (ownsRow_setCell_other ho5 hvne _) hvne _) hvne _) hvg hgne (Nat.le_succ _)
    have HFIN:=Za (And.intro hfin (((hk5.setCell (p:=⟨(w1.heap.size+1),0,none⟩) (Nat.le_succ _) (.slice none 0 0)).setCell (p:=⟨(w1.heap.size+1),1,none⟩) (Nat.le_succ _) (.int .i64 s.now)).setCell (p:=⟨(w1.heap.size+1),2,none⟩) (Nat.le_succ _) (.slice o5 s.out.length c5)))
    clear hfin ho5 hg5 hvg hgg hk5 hHeld hr5 lb fzb f0 f1 f2 e0 e1 e2 hgne hvne
    go_wp2_with fail
    go_meet
    exact ⟨_,_,rfl,HFIN⟩
  ·-- 7,2,5
   go_simp
   refine hK.out _ _ (fun _=>(un HYS) _ (((Zb.refl w1).alloc _).drew)) ?_
   clear hK K
   try simp only [PS]
   refine Xl (i:=2) rfl (by kernel_rfl) (fun K hK=>?_)
   go_simp
   refine hK.out _ _ (fun _=>(un HYS) _ ((((Zb.refl w1).alloc _).alloc _).drew)) ?_
   clear hK K
   try simp only [PS]
   refine Xl (i:=5) rfl (by kernel_rfl) (fun K hK=>?_)
   rw [if_pos (by rfl)]
   obtain ⟨v5,w5,hr5,ho5,hg5,g,hvg,hgg⟩:=Pw w1.heap.size (w1.heap.size+1) ((w1.alloc (.cells #[.slice none 0 0,.int .i64 0,.slice none 0 0] 26)).alloc (.cells #[] 3)).drew _ s.out ((un HOI) _ ((((Zb.refl w1).alloc _).alloc _).drew)) (un HSM).2.1 (Xi (Zg (by simp))) (Nat.le_succ _)
   refine Yp (v:=.slice (some ⟨(w1.heap.size+1),0,none⟩) 0 0) (u:=.slice oO s.out.length cO) _ _ _ 24 rfl rfl rfl hr5 ?_
   have hk5:Zb w1 w5:=Below.grown ((((Zb.refl w1).alloc _).alloc _).drew) hg5 (by simp;omega) (fun j hj=>by cases hj;exact (Nat.le_succ _))
   refine hK.out _ _ (fun _=>(un HYS) _ hk5) ?_
   clear hK K
   obtain ⟨o5,c5,rfl,_⟩:=Xq ho5
   try simp only [PS]
   have hHeld:=(un HYS) _ hk5
   refine Zt (i:=6) (v:=?_) rfl (by kernel_rfl) (by kernel_rfl) (by kernel_rfl) (by kernel_rfl) (fun _ _ _ h=>h) (by rfl) (fun u hSu=>?_) hHeld ?_
   rotate_left
   ·((try dsimp only at hSu);go_simp) <;> with_reducible rfl
   try simp only [PS]
   have lb:w5.heap[w1.heap.size]?=some (.cells #[.slice none 0 0,.int .i64 0,.slice none 0 0] 26):=(hg5.block _ (by simp;omega) (by simp)).trans (Xi (Zr (Zg rfl) _))
   have fzb:=Zk lb
   have f0:=fzb 0
   have f1:=fzb 1
   have f2:=fzb 2
   have e0:=Zd lb 0
   have e1:=Zd lb 1
   have e2:=Zd lb 2
   refine Xl (i:=8) rfl (by kernel_rfl) (fun K hK=>?_)
   go_simp
   refine hK.out _ _ (fun h=>absurd rfl h) ?_
   clear hK K
   refine Uj (by kernel_rfl) ?_ _
   have hgne:g≠w1.heap.size:=by rcases hgg with e | e <;> (try simp at e) <;> omega
   have hvne:(Value.slice o5 s.out.length c5).ownBlock≠some w1.heap.size:=by rw [hvg];intro e;exact hgne (Option.some.inj e)
   have hfin:=Zhb (base:=w1.heap.size) (Ue (x:=.slice none 0 0) (y:=.int .i64 s.now) (z:=.slice o5 s.out.length c5) lb) (ownsRow_setCell_other (ownsRow_setCell_other (ownsRow_setCell_other ho5 hvne _) hvne _) hvne _) hvg hgne (Nat.le_refl _)
   have HFIN:=Za (And.intro hfin (((hk5.setCell (p:=⟨w1.heap.size,0,none⟩) (Nat.le_refl _) (.slice none 0 0)).setCell (p:=⟨w1.heap.size,1,none⟩) (Nat.le_refl _) (.int .i64 s.now)).setCell (p:=⟨w1.heap.size,2,none⟩) (Nat.le_refl _) (.slice o5 s.out.length c5)))
   clear hfin ho5 hg5 hvg hgg hk5 hHeld hr5 lb fzb f0 f1 f2 e0 e1 e2 hgne hvne
   go_wp2_with fail
   go_meet
   exact ⟨_,_,rfl,HFIN⟩
 case rest =>
  obtain ⟨B3,V0,rfl,HC⟩:=hcut
  clear a0 a1 a2
  go_wp2_with fail
  go_loopw [4] (fun s4 wr=>∃ (k:Nat) (V:Key→Value),k≤N∧s4=.int .i64 k∧Hid (Zi w1.heap.size wr B3 V ⟨s.fibers.take k,s.now,s.out⟩)∧Hid (Zb w1 wr)) (fun s4 _=>N - (intOf s4).toNat)
  case atStart=>exact ⟨0,V0,Nat.zero_le _,rfl,Za (un HC).1,Za (un HC).2⟩
  case round =>
   obtain ⟨k,V,hkN,rfl,HV,HKr⟩:=hrel
   have a0:=Zd (Zm (un HKr) (un HLA)) 0
   by_cases hlt:k<N
   ·have hkf:=Zq s.fibers k Fb.zero (by rw [un HN];exact hlt)
    obtain ⟨bF,oF',vfk,rfl,y0,y1,hfr⟩:=(un HFI) k _ hkf
    have HKF:=Za hkf
    have hsmf:=(un HSM).2.2 _ (List.mem_of_getElem? hkf)
    generalize s.fibers.getD k Fb.zero=f at y0 y1 hfr HKF hsmf
    obtain ⟨oo,co,rfl,_,hfi⟩:=hfr
    have HFR:=Za hfi
    have HSF:=Za hsmf
    have hml:f.frames.length≤1000:=hsmf.1
    generalize hm:f.frames.length=m at *
    have HM:=Za hm
    have z0:=(un HKr).cell ((un HK1).cell y0)
    have z1:=(un HKr).cell ((un HK1).cell y1)
    have hk1:(k:Int)<(N:Int):=by omega
    have hk0:(0:Int)≤(k:Int):=by omega
    clear hkf hfi y0 y1 hm hsmf
    go_wp2_with fail
    generalize wr=wk at *
    generalize hN0:wk.heap.size=N0 at *
    have HN0:=Za hN0
    go_loopw [6] (fun s6 wi=>∃ (i:Nat) (Vf:Key→Value),i≤m∧s6=.int .i64 i∧Hid (Own N0 wi Vf (Qq ⟨f.frames.take i,f.caller⟩))∧Hid (Vf .fibers=.slice (some ⟨N0,0,none⟩) 1 1)∧Hid (Zb wk wi)) (fun s6 _=>m - (intOf s6).toNat)
    case atStart=>exact ⟨0,_,Nat.zero_le _,rfl,Za (Zxg (Zg hN0)),Za (if_pos rfl),Za ((Zb.refl _).alloc _)⟩
    case round =>
     obtain ⟨i,Vf,him,rfl,HVf,HVF,HKi⟩:=hrel
     have hkA:Zb w1 wr:=(un HKr).trans (un HKi)
     have a0:=Zd (Zm hkA (un HLA)) 0
     have z0':=(un HKi).cell z0
     clear z0
     by_cases hil:i<m
     ·obtain ⟨b2,o2,vl,vs,rfl,x0,x1,x2,x3,hvl,hvs⟩:=(un HFR) i _ (Zq f.frames i Fr.zero (by rw [un HM];exact hil))
      have hxf:=Zq f.frames i Fr.zero (by rw [un HM];exact hil)
      have hxs:=(un HSF).2 _ (List.mem_of_getElem? hxf)
      generalize hx:f.frames.getD i Fr.zero=x at x0 x1 x2 x3 hvl hvs hxs
      rw [hx] at hxf
      have HXF:=Za hxf
      have HX1:=Za hxs
      obtain ⟨ol,cl,rfl,_,_⟩:=id hvl
      obtain ⟨os,cs,rfl,_,_⟩:=id hvs
      have hkw:Zb w wr:=(un HK1).trans hkA
      have y0:=hkw.cell x0
      have y1:=hkw.cell x1
      have y2:=hkw.cell x2
      have y3:=hkw.cell x3
      have hi1:(i:Int)<(m:Int):=by omega
      have hi0:(0:Int)≤(i:Int):=by omega
      have HLO:=Za (hvl.kept hkw)
      have HST:=Za (hvs.kept hkw)
      clear x0 x1 x2 x3 hvl hvs hxf hxs hx hkw
      go_wp2_with fail
      generalize hwx:wr.alloc (.cells #[.int .i64 x.fn,.int .i64 x.at_,.slice ol x.locals.length cl,.slice os x.stack.length cs] 53)=wx
      have LX7:wx.heap[wr.heap.size]?=some (.cells #[.int .i64 x.fn,.int .i64 x.at_,.slice ol x.locals.length cl,.slice os x.stack.length cs] 53):=by rw [← hwx];exact Zg rfl
      have hkx:Zb wr wx:=by rw [← hwx];exact (Zb.refl wr).alloc _
      have hsx:wx.heap.size=wr.heap.size+1:=by rw [← hwx];simp
      have hN0r:N0<wr.heap.size:=by
       have h0:=((un HVf).piece .fibers trivial).block N0 (by rw [un HVF];rfl)
       exact h0.2
      obtain ⟨gF,capF,eF,_,k0,_,fzF,_⟩:=(un HVf).fib (i:=0) (by simp [Qq])
      rw [un HVF] at eF
      obtain rfl:N0=gF:=by
       simp only [Value.slice.injEq,Option.some.injEq,Addr.mk.injEq] at eF
       exact eF.1.1
      obtain ⟨ysF,hrF,_⟩:=(un HVf).piece (.frames 0) (by simp [live,Qq])
      obtain ⟨of,cf,hvr,_⟩:=Xq hrF
      rw [Zas] at hvr
      simp only [List.length_take] at hvr
      rw [Nat.min_eq_left (by rw [un HM];omega)] at hvr
      have hnf0:(Vf (.frames 0)).ownBlock≠some N0:=fun e=>by have:=(un HVf).apart (.frames 0) .fibers N0 (by simp [live,Qq]) trivial e (by rw [un HVF];rfl);cases this
      rw [hvr,Nat.zero_mul] at k0
      have HSX:Hid (wx.heap.size=wr.heap.size+1∧N0<wr.heap.size):=Za ⟨hsx,hN0r⟩
      have HKX:=Za hkx
      have HVR:=Za hvr
      have HNF0:=Za hnf0
      have HFZ:=Za (fzF 0)
      have c0:=hkx.cell k0
      generalize hB7:wr.heap.size=B7 at LX7
      have e0:=Zd LX7 0
      have e1:=Zd LX7 1
      have e2:=Zd LX7 2
      have e3:=Zd LX7 3
      have HYS:Hid (∀ u,Zb wx u→u.cell? ⟨N0,0,none⟩=some (.slice of i cf)∧u.cell? ⟨B7,0,none⟩=some (.int .i64 x.fn)∧u.cell? ⟨B7,1,none⟩=some (.int .i64 x.at_)∧u.cell? ⟨B7,2,none⟩=some (.slice ol x.locals.length cl)∧u.cell? ⟨B7,3,none⟩=some (.slice os x.stack.length cs)):=Za (fun u hu=>⟨hu.cell c0,hu.cell e0,hu.cell e1,hu.cell e2,hu.cell e3⟩)
      have HLO':=Za (fun (u:World) (hu:Zb wx u)=>(un HLO).kept (hkx.trans hu))
      have HST':=Za (fun (u:World) (hu:Zb wx u)=>(un HST).kept (hkx.trans hu))
      have HB7E:=Za hB7
      clear hwx hkx hsx hN0r k0 fzF eF hvr hnf0 c0 e0 e1 e2 e3 LX7 hrF HLO HST y0 y1 y2 y3 a0 z0' hB7
      refine Zac 18 (fun u=>u.cell? ⟨N0,0,none⟩=some (.slice of i cf)∧u.cell? ⟨B7,0,none⟩=some (.int .i64 x.fn)∧u.cell? ⟨B7,1,none⟩=some (.int .i64 x.at_)∧u.cell? ⟨B7,2,none⟩=some (.slice ol x.locals.length cl)∧u.cell? ⟨B7,3,none⟩=some (.slice os x.stack.length cs)) (by kernel_rfl) ?_
      have hHeld:=(un HYS) _ (Zb.refl wx).drew
      refine Zt (i:=0) (v:=?_) rfl (by kernel_rfl) (by kernel_rfl) (by kernel_rfl) (by kernel_rfl) (fun _ _ _ h=>h) (by rfl) (fun u hSu=>?_) hHeld ?_
      rotate_left
      ·((try dsimp only at hSu);go_simp) <;> with_reducible rfl
      try simp only [PS]
      refine Zt (i:=1) (v:=?_) rfl (by kernel_rfl) (by kernel_rfl) (by kernel_rfl) (by kernel_rfl) (fun _ _ _ h=>h) (by rfl) (fun u hSu=>?_) hHeld ?_
      rotate_left
      ·((try dsimp only at hSu);go_simp) <;> with_reducible rfl
      try simp only [PS]
      refine Zt (i:=2) (v:=?_) rfl (by kernel_rfl) (by kernel_rfl) (by kernel_rfl) (by kernel_rfl) (fun _ _ _ h=>h) (by rfl) (fun u hSu=>?_) hHeld ?_
      rotate_left
      ·((try dsimp only at hSu);go_simp) <;> with_reducible rfl
      try simp only [PS]
      refine Zt (i:=3) (v:=?_) rfl (by kernel_rfl) (by kernel_rfl) (by kernel_rfl) (by kernel_rfl) (fun _ _ _ h=>h) (by rfl) (fun u hSu=>?_) hHeld ?_
      rotate_left
      ·((try dsimp only at hSu);go_simp) <;> with_reducible rfl
      try simp only [PS]
      refine Zt (i:=4) (v:=?_) rfl (by kernel_rfl) (by kernel_rfl) (by kernel_rfl) (by kernel_rfl) (fun _ _ _ h=>h) (by rfl) (fun u hSu=>?_) hHeld ?_
      rotate_left
      ·((try dsimp only at hSu);go_simp) <;> with_reducible rfl
      try simp only [PS]
      refine Zt (i:=5) (v:=?_) rfl (by kernel_rfl) (by kernel_rfl) (by kernel_rfl) (by kernel_rfl) (fun _ _ _ h=>h) (by rfl) (fun u hSu=>?_) hHeld ?_
      rotate_left
      ·((try dsimp only at hSu);go_simp) <;> with_reducible rfl
      try simp only [PS]
      refine Zt (i:=7) (v:=?_) rfl (by kernel_rfl) (by kernel_rfl) (by kernel_rfl) (by kernel_rfl) (fun _ _ _ h=>h) (by rfl) (fun u hSu=>?_) hHeld ?_
      rotate_left
      ·((try dsimp only at hSu);go_simp) <;> with_reducible rfl
      try simp only [PS]
      refine Zt (i:=8) (v:=?_) rfl (by kernel_rfl) (by kernel_rfl) (by kernel_rfl) (by kernel_rfl) (fun _ _ _ h=>h) (by rfl) (fun u hSu=>?_) hHeld ?_
      rotate_left
      ·((try dsimp only at hSu);go_simp) <;> with_reducible rfl
      try simp only [PS]
      refine Zt (i:=11) (v:=?_) rfl (by kernel_rfl) (by kernel_rfl) (by kernel_rfl) (by kernel_rfl) (fun _ _ _ h=>h) (by rfl) (fun u hSu=>?_) hHeld ?_
      rotate_left
      ·((try dsimp only at hSu);go_simp) <;> with_reducible rfl
      try simp only [PS]
      refine Zt (i:=12) (v:=?_) rfl (by kernel_rfl) (by kernel_rfl) (by kernel_rfl) (by kernel_rfl) (fun _ _ _ h=>h) (by rfl) (fun u hSu=>?_) hHeld ?_
      rotate_left
      ·((try dsimp only at hSu);go_simp) <;> with_reducible rfl
      try simp only [PS]
      refine Zey (i:=6) (k:=10) rfl rfl (by kernel_rfl) (fun K hK=>?_) (fun K hK=>?_)
      ·go_simp
       refine hK.out _ _ (fun _=>(un HYS) _ (((Zb.refl wx).alloc _).drew)) ?_
       clear hK K
       try simp only [PS]
       refine Zey (i:=9) (k:=10) rfl rfl (by kernel_rfl) (fun K hK=>?_) (fun K hK=>?_)
       ·rw [if_pos (by rfl)]
        obtain ⟨v5,w5,hr5,ho5,hg5,g5,hvg5,hgg5⟩:=Pw N0 wx.heap.size (wx.alloc (.cells #[] 3)).drew _ x.locals ((un HLO') _ (((Zb.refl wx).alloc _).drew)) (un HX1).1 (Xi (Zg rfl)) (by have:=un HSX;have:=un HB7E;omega)
        refine Yp (v:=.slice (some ⟨wx.heap.size,0,none⟩) 0 0) (u:=.slice ol x.locals.length cl) _ _ _ 24 rfl rfl rfl hr5 ?_
        have hk5:Zb wx w5:=Below.grown (((Zb.refl wx).alloc _).drew) hg5 (((Zb.refl wx).alloc _).drew).size (fun j hj=>by cases hj;exact Nat.le_refl _)
        refine hK.out _ _ (fun _=>(un HYS) _ hk5) ?_
        clear hK K
        obtain ⟨o5,c5,rfl,_⟩:=Xq ho5
        try simp only [PS]
        refine Xl (i:=10) rfl (by kernel_rfl) (fun K hK=>?_)
        go_simp
        refine hK.out _ _ (fun _=>(un HYS) _ (hk5.alloc _)) ?_
        clear hK K
        try simp only [PS]
        refine Xl (i:=13) rfl (by kernel_rfl) (fun K hK=>?_)
        rw [if_pos (by rfl)]
        obtain ⟨v6,w6,hr6,ho6,hg6,g6,hvg6,hgg6⟩:=Pw N0 w5.heap.size (w5.alloc (.cells #[] 3)) _ x.stack ((un HST') _ (hk5.alloc (.cells #[] 3))) (un HX1).2 (Zg rfl) (by have:=un HSX;have:=un HB7E;have:=hk5.size;omega)
        refine Yp (v:=.slice (some ⟨w5.heap.size,0,none⟩) 0 0) (u:=.slice os x.stack.length cs) _ _ _ 24 rfl rfl rfl hr6 ?_
        have hk6:Zb wx w6:=Below.grown (hk5.alloc (.cells #[] 3)) hg6 (hk5.alloc (.cells #[] 3)).size (fun j hj=>by cases hj;exact hk5.size)
        refine hK.out _ _ (fun _=>(un HYS) _ hk6) ?_
        clear hK K
        obtain ⟨o6,c6,rfl,_⟩:=Xq ho6
        try simp only [PS]
        have hlt5:=(ho5.lt g5 hvg5)
        have hlt6:=(ho6.lt g6 hvg6)
        have hne56:g5≠g6:=by rcases hgg6 with e | e <;> (try simp at e) <;> omega
        have hge5:wr.heap.size≤g5:=by have:=un HSX;have:=un HB7E;rcases hgg5 with e | e <;> (try simp at e) <;> omega
        have hge6:wr.heap.size≤g6:=by have:=un HSX;have:=un HB7E;have:=hk5.size;rcases hgg6 with e | e <;> (try simp at e) <;> omega
        have hlo6:w6.ownsRow N0 3 1 (.slice o5 x.locals.length c5) x.locals.length (ints x.locals):=Jl ho5 (fun y hy=>by
         obtain rfl:g5=y:=by rw [hvg5] at hy;exact Option.some.inj hy
         exact (hg6.block g5 (by simp;omega) (by simp;omega)).trans (Below.heap_alloc w5 _ g5 hlt5.2))
        have hkw6:Zb wr w6:=(un HKX).trans hk6
        obtain ⟨v7,w7,hr7,⟨o7,c7,rfl⟩,⟨V7,hown7,hV7⟩,hb7,hkp7⟩:=Zhw N0 N0 Vf ⟨f.frames.take i,f.caller⟩ w6 ((un HVf).same (fun kk gg hkk hgk=>hkw6.block gg (((un HVf).piece kk hkk).block gg hgk).2)) (un HVF) x _ _ g5 g6 hvg5 hvg6 hne56 ((un HVf).new_off (.inl hge5)) ((un HVf).new_off (.inl hge6)) (by have:=hk6.size;have:=un HSX;have:=un HB7E;omega) hlo6 ho6 (by simp;omega)
        have hti:(f.frames.take i).length=i:=by rw [List.length_take,un HM];omega
        simp only [hti] at hr7 hown7
        rw [un HVR] at hr7 hkp7
        have t7:∀ y,y<w6.heap.size→Own.off Vf (Qq ⟨f.frames.take i,f.caller⟩) y∨y=N0→w7.heap[y]?=w6.heap[y]?:=fun y hy ho=>hkp7 y hy (fun e=>by
         rcases ho with ho | rfl
         ·exact ho (.frames 0) (by simp [live,Qq]) (by rw [un HVR];exact e)
         ·exact un HNF0 (by rw [un HVR];exact e))
        have h7N:w7.heap[N0]?=w6.heap[N0]?:=t7 N0 (by have:=hk6.size;have:=un HSX;have:=un HB7E;omega) (.inr rfl)
        have h7B:w7.heap[B7]?=w6.heap[B7]?:=t7 B7 (by have:=hk6.size;have:=un HSX;have:=un HB7E;omega) (.inl ((un HVf).new_off (.inl (by have:=un HSX;have:=un HB7E;omega))))
        have s6:=(un HYS) _ hk6
        have HS7:Hid (w7.cell? ⟨N0,0,none⟩=some (.slice of i cf)∧w7.cell? ⟨B7,0,none⟩=some (.int .i64 x.fn)∧w7.cell? ⟨B7,1,none⟩=some (.int .i64 x.at_)∧w7.cell? ⟨B7,2,none⟩=some (.slice ol x.locals.length cl)∧w7.cell? ⟨B7,3,none⟩=some (.slice os x.stack.length cs)):=Za ⟨(World.cell?_of_block (w:=w6) h7N).trans s6.1,(World.cell?_of_block (w:=w6) h7B).trans s6.2.1,(World.cell?_of_block (w:=w6) h7B).trans s6.2.2.1,(World.cell?_of_block (w:=w6) h7B).trans s6.2.2.2.1,(World.cell?_of_block (w:=w6) h7B).trans s6.2.2.2.2⟩
        have fz7:w7.frozen? ⟨N0,0,none⟩=false:=(World.frozen?_of_block (w:=w6) h7N).trans ((World.frozen?_of_block (w:=wr) (hkw6.block N0 (by have:=un HSX;have:=un HB7E;omega))).trans (un HFZ))
        have HO7:=Za hown7
        have HV7:=Za hV7
        have HB7:Hid (Below N0 wk w7):=Za (Below.trans (Below.trans (show Below N0 wk wr by have:=un HKi;unfold Zb at this;rw [un HN0] at this;exact this) (Below.mono hkw6 (by have:=un HSX;have:=un HB7E;omega))) hb7)
        have HR7:=Za hr7
        have HF7:=Za fz7
        clear hlt5 hlt6 hne56 hge5 hge6 hlo6 hkw6 hr7 hown7 hV7 hb7 hkp7 t7 h7N h7B s6 fz7 ho5 hg5 hvg5 hgg5 ho6 hg6 hvg6 hgg6 hr5 hr6 hti
        refine Xl (i:=14) rfl (by kernel_rfl) (fun K hK=>?_)
        go_simp
        refine hK.out _ _ (fun _=>(un HYS) _ hk6) ?_
        clear hK K
        try simp only [PS]
        refine Xl (i:=15) rfl (by kernel_rfl) (fun K hK=>?_)
        go_simp
        refine hK.out _ _ (fun _=>(un HYS) _ (hk6.alloc _)) ?_
        clear hK K
        try simp only [PS]
        refine Xl (i:=16) rfl (by kernel_rfl) (fun K hK=>?_)
        rw [if_pos (by rfl)]
        refine Yp (v:=.slice of i cf) (u:=.slice (some ⟨w6.heap.size,0,none⟩) 1 1) _ _ _ 44 rfl rfl rfl (un HR7) ?_
        refine hK.out _ _ (fun _=>un HS7) ?_
        clear hK K hk5 hk6
        try simp only [PS]
        refine Xl (i:=17) rfl (by kernel_rfl) (fun K hK=>?_)
        go_simp
        refine hK.out _ _ (fun _=>un HS7) ?_
        clear hK K
        try simp only [PS]
        have q0:=(un HS7).1
        have qf:=un HF7
        refine Xl (i:=18) rfl (by kernel_rfl) (fun K hK=>?_)
        go_simp
        refine hK.out _ _ (fun h=>absurd rfl h) ?_
        clear hK K
        refine Uj (by kernel_rfl) ?_ _
        clear q0 qf
        go_wp2
        go_roundw
        case rel =>
         refine ⟨i+1,V7,by omega,by go_num,Za ?_,HV7,Za ?_⟩
         ·have ht:f.frames.take (i+1)=f.frames.take i++[x]:=by rw [List.take_add_one,un HXF];rfl
          rw [ht];exact un HO7
         ·unfold Zb;rw [un HN0];exact Below.setCell (un HB7) (Nat.le_refl _) _
        case measure=>simp [intOf];omega
       ·skip
        go_simp
        refine hK.out _ _ (fun _=>(un HYS) _ ((((Zb.refl wx).alloc _).alloc _).drew)) ?_
        clear hK K
        try simp only [PS]
        refine Xl (i:=9) rfl (by kernel_rfl) (fun K hK=>?_)
        rw [if_pos (by rfl)]
        obtain ⟨v5,w5,hr5,ho5,hg5,g5,hvg5,hgg5⟩:=Pw N0 wx.heap.size ((wx.alloc (.cells #[] 3)).alloc (.cells #[] 3)).drew _ x.locals ((un HLO') _ ((((Zb.refl wx).alloc _).alloc _).drew)) (un HX1).1 (Xi (Zr (Zg rfl) _)) (by have:=un HSX;have:=un HB7E;omega)
        refine Yp (v:=.slice (some ⟨wx.heap.size,0,none⟩) 0 0) (u:=.slice ol x.locals.length cl) _ _ _ 24 rfl rfl rfl hr5 ?_
        have hk5:Zb wx w5:=Below.grown ((((Zb.refl wx).alloc _).alloc _).drew) hg5 ((((Zb.refl wx).alloc _).alloc _).drew).size (fun j hj=>by cases hj;exact Nat.le_refl _)
        refine hK.out _ _ (fun _=>(un HYS) _ hk5) ?_
        clear hK K
        obtain ⟨o5,c5,rfl,_⟩:=Xq ho5
        try simp only [PS]
        refine Xl (i:=13) rfl (by kernel_rfl) (fun K hK=>?_)
        rw [if_pos (by rfl)]
        obtain ⟨v6,w6,hr6,ho6,hg6,g6,hvg6,hgg6⟩:=Pw N0 (wx.heap.size+1) w5 _ x.stack ((un HST') _ hk5) (un HX1).2 ((hg5.block _ (by simp) (by simp)).trans (Xi (Zg (by simp)))) (by have:=un HSX;have:=un HB7E;omega)
        refine Yp (v:=.slice (some ⟨(wx.heap.size+1),0,none⟩) 0 0) (u:=.slice os x.stack.length cs) _ _ _ 24 rfl rfl rfl hr6 ?_
        have hk6:Zb wx w6:=Below.grown hk5 hg6 hk5.size (fun j hj=>by cases hj;exact Nat.le_succ _)
        refine hK.out _ _ (fun _=>(un HYS) _ hk6) ?_
        clear hK K
        obtain ⟨o6,c6,rfl,_⟩:=Xq ho6
        try simp only [PS]
        have hlt5:=(ho5.lt g5 hvg5)
        have hlt6:=(ho6.lt g6 hvg6)
        have hne56:g5≠g6:=by rcases hgg5 with e | e <;> rcases hgg6 with e' | e' <;> (try simp at e) <;> omega
        have hge5:wr.heap.size≤g5:=by have:=un HSX;have:=un HB7E;rcases hgg5 with e | e <;> (try simp at e) <;> omega
        have hge6:wr.heap.size≤g6:=by have:=un HSX;have:=un HB7E;have:=hk5.size;rcases hgg6 with e | e <;> (try simp at e) <;> omega
        have hlo6:w6.ownsRow N0 3 1 (.slice o5 x.locals.length c5) x.locals.length (ints x.locals):=Jl ho5 (fun y hy=>by
         obtain rfl:g5=y:=by rw [hvg5] at hy;exact Option.some.inj hy
         exact hg6.block g5 hlt5.2 (by intro e1;have e2:=Option.some.inj e1;rcases hgg5 with e | e <;> (try simp at e) <;> omega))
        have hkw6:Zb wr w6:=(un HKX).trans hk6
        obtain ⟨v7,w7,hr7,⟨o7,c7,rfl⟩,⟨V7,hown7,hV7⟩,hb7,hkp7⟩:=Zhw N0 N0 Vf ⟨f.frames.take i,f.caller⟩ w6 ((un HVf).same (fun kk gg hkk hgk=>hkw6.block gg (((un HVf).piece kk hkk).block gg hgk).2)) (un HVF) x _ _ g5 g6 hvg5 hvg6 hne56 ((un HVf).new_off (.inl hge5)) ((un HVf).new_off (.inl hge6)) (by have:=hk6.size;have:=un HSX;have:=un HB7E;omega) hlo6 ho6 (by simp;omega)
        have hti:(f.frames.take i).length=i:=by rw [List.length_take,un HM];omega
        simp only [hti] at hr7 hown7
        rw [un HVR] at hr7 hkp7
        have t7:∀ y,y<w6.heap.size→Own.off Vf (Qq ⟨f.frames.take i,f.caller⟩) y∨y=N0→w7.heap[y]?=w6.heap[y]?:=fun y hy ho=>hkp7 y hy (fun e=>by
         rcases ho with ho | rfl
         ·exact ho (.frames 0) (by simp [live,Qq]) (by rw [un HVR];exact e)
         ·exact un HNF0 (by rw [un HVR];exact e))
        have h7N:w7.heap[N0]?=w6.heap[N0]?:=t7 N0 (by have:=hk6.size;have:=un HSX;have:=un HB7E;omega) (.inr rfl)
        have h7B:w7.heap[B7]?=w6.heap[B7]?:=t7 B7 (by have:=hk6.size;have:=un HSX;have:=un HB7E;omega) (.inl ((un HVf).new_off (.inl (by have:=un HSX;have:=un HB7E;omega))))
        have s6:=(un HYS) _ hk6
        have HS7:Hid (w7.cell? ⟨N0,0,none⟩=some (.slice of i cf)∧w7.cell? ⟨B7,0,none⟩=some (.int .i64 x.fn)∧w7.cell? ⟨B7,1,none⟩=some (.int .i64 x.at_)∧w7.cell? ⟨B7,2,none⟩=some (.slice ol x.locals.length cl)∧w7.cell? ⟨B7,3,none⟩=some (.slice os x.stack.length cs)):=Za ⟨(World.cell?_of_block (w:=w6) h7N).trans s6.1,(World.cell?_of_block (w:=w6) h7B).trans s6.2.1,(World.cell?_of_block (w:=w6) h7B).trans s6.2.2.1,(World.cell?_of_block (w:=w6) h7B).trans s6.2.2.2.1,(World.cell?_of_block (w:=w6) h7B).trans s6.2.2.2.2⟩
        have fz7:w7.frozen? ⟨N0,0,none⟩=false:=(World.frozen?_of_block (w:=w6) h7N).trans ((World.frozen?_of_block (w:=wr) (hkw6.block N0 (by have:=un HSX;have:=un HB7E;omega))).trans (un HFZ))
        have HO7:=Za hown7
        have HV7:=Za hV7
        have HB7:Hid (Below N0 wk w7):=Za (Below.trans (Below.trans (show Below N0 wk wr by have:=un HKi;unfold Zb at this;rw [un HN0] at this;exact this) (Below.mono hkw6 (by have:=un HSX;have:=un HB7E;omega))) hb7)
        have HR7:=Za hr7
        have HF7:=Za fz7
        clear hlt5 hlt6 hne56 hge5 hge6 hlo6 hkw6 hr7 hown7 hV7 hb7 hkp7 t7 h7N h7B s6 fz7 ho5 hg5 hvg5 hgg5 ho6 hg6 hvg6 hgg6 hr5 hr6 hti
        refine Xl (i:=14) rfl (by kernel_rfl) (fun K hK=>?_)
        go_simp
        refine hK.out _ _ (fun _=>(un HYS) _ hk6) ?_
        clear hK K
        try simp only [PS]
        refine Xl (i:=15) rfl (by kernel_rfl) (fun K hK=>?_)
        go_simp
        refine hK.out _ _ (fun _=>(un HYS) _ (hk6.alloc _)) ?_
        clear hK K
        try simp only [PS]
        refine Xl (i:=16) rfl (by kernel_rfl) (fun K hK=>?_)
        rw [if_pos (by rfl)]
        refine Yp (v:=.slice of i cf) (u:=.slice (some ⟨w6.heap.size,0,none⟩) 1 1) _ _ _ 44 rfl rfl rfl (un HR7) ?_
        refine hK.out _ _ (fun _=>un HS7) ?_
        clear hK K hk5 hk6
        try simp only [PS]
        refine Xl (i:=17) rfl (by kernel_rfl) (fun K hK=>?_)
        go_simp
        refine hK.out _ _ (fun _=>un HS7) ?_
        clear hK K
        try simp only [PS]
        have q0:=(un HS7).1
        have qf:=un HF7
        refine Xl (i:=18) rfl (by kernel_rfl) (fun K hK=>?_)
        go_simp
        refine hK.out _ _ (fun h=>absurd rfl h) ?_
        clear hK K
        refine Uj (by kernel_rfl) ?_ _
        clear q0 qf
        go_wp2
        go_roundw
        case rel =>
         refine ⟨i+1,V7,by omega,by go_num,Za ?_,HV7,Za ?_⟩
         ·have ht:f.frames.take (i+1)=f.frames.take i++[x]:=by rw [List.take_add_one,un HXF];rfl
          rw [ht];exact un HO7
         ·unfold Zb;rw [un HN0];exact Below.setCell (un HB7) (Nat.le_refl _) _
        case measure=>simp [intOf];omega
      ·skip
       go_simp
       refine hK.out _ _ (fun _=>(un HYS) _ (((Zb.refl wx).alloc _).drew)) ?_
       clear hK K
       try simp only [PS]
       refine Xl (i:=6) rfl (by kernel_rfl) (fun K hK=>?_)
       go_simp
       refine hK.out _ _ (fun _=>(un HYS) _ ((((Zb.refl wx).alloc _).alloc _).drew)) ?_
       clear hK K
       try simp only [PS]
       refine Xl (i:=9) rfl (by kernel_rfl) (fun K hK=>?_)
       rw [if_pos (by rfl)]
       obtain ⟨v5,w5,hr5,ho5,hg5,g5,hvg5,hgg5⟩:=Pw N0 (wx.heap.size+1) ((wx.alloc (.cells #[] 3)).alloc (.cells #[] 3)).drew _ x.locals ((un HLO') _ ((((Zb.refl wx).alloc _).alloc _).drew)) (un HX1).1 (Xi (Zg (by simp))) (by have:=un HSX;have:=un HB7E;omega)
       refine Yp (v:=.slice (some ⟨(wx.heap.size+1),0,none⟩) 0 0) (u:=.slice ol x.locals.length cl) _ _ _ 24 rfl rfl rfl hr5 ?_
       have hk5:Zb wx w5:=Below.grown ((((Zb.refl wx).alloc _).alloc _).drew) hg5 ((((Zb.refl wx).alloc _).alloc _).drew).size (fun j hj=>by cases hj;exact Nat.le_succ _)
       refine hK.out _ _ (fun _=>(un HYS) _ hk5) ?_
       clear hK K
       obtain ⟨o5,c5,rfl,_⟩:=Xq ho5
       try simp only [PS]
       refine Xl (i:=13) rfl (by kernel_rfl) (fun K hK=>?_)
       rw [if_pos (by rfl)]
       obtain ⟨v6,w6,hr6,ho6,hg6,g6,hvg6,hgg6⟩:=Pw N0 wx.heap.size w5 _ x.stack ((un HST') _ hk5) (un HX1).2 ((hg5.block _ (by simp;omega) (by simp)).trans (Xi (Zr (Zg rfl) _))) (by have:=un HSX;have:=un HB7E;omega)
       refine Yp (v:=.slice (some ⟨wx.heap.size,0,none⟩) 0 0) (u:=.slice os x.stack.length cs) _ _ _ 24 rfl rfl rfl hr6 ?_
       have hk6:Zb wx w6:=Below.grown hk5 hg6 hk5.size (fun j hj=>by cases hj;exact Nat.le_refl _)
       refine hK.out _ _ (fun _=>(un HYS) _ hk6) ?_
       clear hK K
       obtain ⟨o6,c6,rfl,_⟩:=Xq ho6
       try simp only [PS]
       have hlt5:=(ho5.lt g5 hvg5)
       have hlt6:=(ho6.lt g6 hvg6)
       have hne56:g5≠g6:=by rcases hgg5 with e | e <;> rcases hgg6 with e' | e' <;> (try simp at e) <;> omega
       have hge5:wr.heap.size≤g5:=by have:=un HSX;have:=un HB7E;rcases hgg5 with e | e <;> (try simp at e) <;> omega
       have hge6:wr.heap.size≤g6:=by have:=un HSX;have:=un HB7E;have:=hk5.size;rcases hgg6 with e | e <;> (try simp at e) <;> omega
       have hlo6:w6.ownsRow N0 3 1 (.slice o5 x.locals.length c5) x.locals.length (ints x.locals):=Jl ho5 (fun y hy=>by
        obtain rfl:g5=y:=by rw [hvg5] at hy;exact Option.some.inj hy
        exact hg6.block g5 hlt5.2 (by intro e1;have e2:=Option.some.inj e1;rcases hgg5 with e | e <;> (try simp at e) <;> omega))
       have hkw6:Zb wr w6:=(un HKX).trans hk6
       obtain ⟨v7,w7,hr7,⟨o7,c7,rfl⟩,⟨V7,hown7,hV7⟩,hb7,hkp7⟩:=Zhw N0 N0 Vf ⟨f.frames.take i,f.caller⟩ w6 ((un HVf).same (fun kk gg hkk hgk=>hkw6.block gg (((un HVf).piece kk hkk).block gg hgk).2)) (un HVF) x _ _ g5 g6 hvg5 hvg6 hne56 ((un HVf).new_off (.inl hge5)) ((un HVf).new_off (.inl hge6)) (by have:=hk6.size;have:=un HSX;have:=un HB7E;omega) hlo6 ho6 (by simp;omega)
       have hti:(f.frames.take i).length=i:=by rw [List.length_take,un HM];omega
       simp only [hti] at hr7 hown7
       rw [un HVR] at hr7 hkp7
       have t7:∀ y,y<w6.heap.size→Own.off Vf (Qq ⟨f.frames.take i,f.caller⟩) y∨y=N0→w7.heap[y]?=w6.heap[y]?:=fun y hy ho=>hkp7 y hy (fun e=>by
        rcases ho with ho | rfl
        ·exact ho (.frames 0) (by simp [live,Qq]) (by rw [un HVR];exact e)
        ·exact un HNF0 (by rw [un HVR];exact e))
       have h7N:w7.heap[N0]?=w6.heap[N0]?:=t7 N0 (by have:=hk6.size;have:=un HSX;have:=un HB7E;omega) (.inr rfl)
       have h7B:w7.heap[B7]?=w6.heap[B7]?:=t7 B7 (by have:=hk6.size;have:=un HSX;have:=un HB7E;omega) (.inl ((un HVf).new_off (.inl (by have:=un HSX;have:=un HB7E;omega))))
       have s6:=(un HYS) _ hk6
       have HS7:Hid (w7.cell? ⟨N0,0,none⟩=some (.slice of i cf)∧w7.cell? ⟨B7,0,none⟩=some (.int .i64 x.fn)∧w7.cell? ⟨B7,1,none⟩=some (.int .i64 x.at_)∧w7.cell? ⟨B7,2,none⟩=some (.slice ol x.locals.length cl)∧w7.cell? ⟨B7,3,none⟩=some (.slice os x.stack.length cs)):=Za ⟨(World.cell?_of_block (w:=w6) h7N).trans s6.1,(World.cell?_of_block (w:=w6) h7B).trans s6.2.1,(World.cell?_of_block (w:=w6) h7B).trans s6.2.2.1,(World.cell?_of_block (w:=w6) h7B).trans s6.2.2.2.1,(World.cell?_of_block (w:=w6) h7B).trans s6.2.2.2.2⟩
       have fz7:w7.frozen? ⟨N0,0,none⟩=false:=(World.frozen?_of_block (w:=w6) h7N).trans ((World.frozen?_of_block (w:=wr) (hkw6.block N0 (by have:=un HSX;have:=un HB7E;omega))).trans (un HFZ))
       have HO7:=Za hown7
       have HV7:=Za hV7
       have HB7:Hid (Below N0 wk w7):=Za (Below.trans (Below.trans (show Below N0 wk wr by have:=un HKi;unfold Zb at this;rw [un HN0] at this;exact this) (Below.mono hkw6 (by have:=un HSX;have:=un HB7E;omega))) hb7)
       have HR7:=Za hr7
       have HF7:=Za fz7
       clear hlt5 hlt6 hne56 hge5 hge6 hlo6 hkw6 hr7 hown7 hV7 hb7 hkp7 t7 h7N h7B s6 fz7 ho5 hg5 hvg5 hgg5 ho6 hg6 hvg6 hgg6 hr5 hr6 hti
       refine Xl (i:=14) rfl (by kernel_rfl) (fun K hK=>?_)
       go_simp
       refine hK.out _ _ (fun _=>(un HYS) _ hk6) ?_
       clear hK K
       try simp only [PS]
       refine Xl (i:=15) rfl (by kernel_rfl) (fun K hK=>?_)
       go_simp
       refine hK.out _ _ (fun _=>(un HYS) _ (hk6.alloc _)) ?_
       clear hK K
       try simp only [PS]
       refine Xl (i:=16) rfl (by kernel_rfl) (fun K hK=>?_)
       rw [if_pos (by rfl)]
       refine Yp (v:=.slice of i cf) (u:=.slice (some ⟨w6.heap.size,0,none⟩) 1 1) _ _ _ 44 rfl rfl rfl (un HR7) ?_
       refine hK.out _ _ (fun _=>un HS7) ?_
       clear hK K hk5 hk6
       try simp only [PS]
       refine Xl (i:=17) rfl (by kernel_rfl) (fun K hK=>?_)
       go_simp
       refine hK.out _ _ (fun _=>un HS7) ?_
       clear hK K
       try simp only [PS]
       have q0:=(un HS7).1
       have qf:=un HF7
       refine Xl (i:=18) rfl (by kernel_rfl) (fun K hK=>?_)
       go_simp
       refine hK.out _ _ (fun h=>absurd rfl h) ?_
       clear hK K
       refine Uj (by kernel_rfl) ?_ _
       clear q0 qf
       go_wp2
       go_roundw
       case rel =>
        refine ⟨i+1,V7,by omega,by go_num,Za ?_,HV7,Za ?_⟩
        ·have ht:f.frames.take (i+1)=f.frames.take i++[x]:=by rw [List.take_add_one,un HXF];rfl
         rw [ht];exact un HO7
        ·unfold Zb;rw [un HN0];exact Below.setCell (un HB7) (Nat.le_refl _) _
       case measure=>simp [intOf];omega
     ·have him2:i=m:=by omega
      have hft:f.frames.take i=f.frames:=by rw [him2,← un HM];exact List.take_length
      have hown:=un HVf
      rw [hft] at hown
      have hovk:=(un HV)
      have hovr:Zi w1.heap.size wr B3 V ⟨s.fibers.take k,s.now,s.out⟩:=hovk.kept (un HKi)
      have hkl:(s.fibers.take k).length=k:=by rw [List.length_take,un HN];omega
      have hB3:B3<N0:=by have:=lt_of_block hovk.var;rw [un HN0] at this;exact this
      have hNr:N0≤wr.heap.size:=by have:=(un HKi).size;rw [un HN0] at this;exact this
      have hVlt:∀ kk g,live ⟨s.fibers.take k,s.now,s.out⟩ kk→(V kk).ownBlock=some g→g<N0:=fun kk g hkk hg=>by
       have:=((hovk.own.piece kk hkk).block g hg).2
       rw [un HN0] at this
       exact this
      obtain ⟨v7,w7,hr7,⟨o7,c7,rfl⟩,⟨V7,ho7⟩,hb7,q0,q1,hk7⟩:=Zpo w1.heap.size B3 V ⟨s.fibers.take k,s.now,s.out⟩ wr hovr N0 hVlt hB3 hNr Vf f hown (by rw [hkl];omega)
      obtain ⟨xsF,hrF,_⟩:=hovr.own.piece .fibers trivial
      obtain ⟨oV,cV,hVf,_⟩:=Xq hrF
      obtain ⟨ysF,hrG,_⟩:=hown.piece (.frames 0) (by simp [live,Qq])
      obtain ⟨oG,cG,hVg,_⟩:=Xq hrG
      obtain ⟨d0,_,_,_⟩:=hovr.cells
      obtain ⟨gF,capF,eF,_,k0,kc,_,_⟩:=hown.fib (i:=0) (by simp [Qq])
      rw [un HVF] at eF
      obtain rfl:N0=gF:=by
       simp only [Value.slice.injEq,Option.some.injEq,Addr.mk.injEq] at eF
       exact eF.1.1
      rw [Nat.zero_mul] at k0 kc
      rw [Nat.zero_add] at kc
      simp only [hkl] at hr7 ho7 hVf
      rw [hVf] at hr7 d0 q0
      rw [Zas] at hVg kc
      rw [hVg] at hr7 k0
      have HR7:=Za hr7
      have HO7:Hid (Zi w1.heap.size (w7.setCell ⟨B3,0,none⟩ (.slice o7 (k+1) c7)) B3 V7 ⟨s.fibers.take (k+1),s.now,s.out⟩):=by
       have ht:s.fibers.take (k+1)=s.fibers.take k++[f]:=by rw [List.take_add_one,un HKF];rfl
       rw [ht];exact Za ho7
      have HB7:Hid (Zb w1 w7):=Za (Below.trans (Below.trans (un HKr) (Below.mono (un HKi) (un HKr).size)) hb7)
      have hb3:w1.heap.size≤B3:=hovr.low
      clear hr7 ho7 hb7 hk7 hVlt hovr hovk hown hrF hrG eF hVf hVg him2 hft hkl
      go_wp2_with (at_builtin;refine un ?_)
      refine Za ?_
      refine Zai (v:=.slice oV k cV) (u:=.slice (some ⟨wr.heap.size,0,none⟩) 1 1) _ rfl _ _ 23 rfl rfl rfl (un HR7) ?_
      go_wp2
      go_roundw
      case rel=>exact ⟨k+1,V7,by omega,by go_num,HO7,Za ((un HB7).setCell (p:=⟨B3,0,none⟩) hb3 _)⟩
      case measure=>simp [intOf];omega
   ·have hkN2:s.fibers.take k=s.fibers:=by rw [List.take_of_length_le (by rw [un HN];omega)]
    have hov:=un HV
    rw [hkN2] at hov
    obtain ⟨xsF,hrF,_⟩:=hov.own.piece .fibers trivial
    obtain ⟨oV,cV,hVf,_⟩:=Xq hrF
    have hrO:_:=hov.own.piece .out trivial
    obtain ⟨oW,cW,hVo,_⟩:=Xq hrO
    obtain ⟨d0,d1,d2,_⟩:=hov.cells
    rw [hVf] at d0
    rw [hVo] at d2
    have LR:=Zm (un HKr) (un HLR)
    have r0:=Zd LR 0
    have r1:=Zd LR 1
    have r2:=Zd LR 2
    have f0:=Zk LR 0
    have f1:=Zk LR 1
    have f2:=Zk LR 2
    have hbR:¬ B3=R2:=by have:=hov.low;have:=un HS1;have:=un HAR;omega
    have hbR':¬ R2=B3:=fun e=>hbR e.symm
    have HOV:=Za hov
    have HVF:=Za hVf
    have HVO:=Za hVo
    have hRw:R2<w1.heap.size:=by have:=un HS1;have:=un HAR;omega
    have LRR:=LR
    clear hov hrF hrO hVf hVo LR hkN2
    simp only at d1
    have LZ:=Ue (x:=.slice oV s.fibers.length cV) (y:=.int .i64 s.now) (z:=.slice oW s.out.length cW) LRR
    have HLZ:=Za LZ
    clear LZ LRR
    go_wp2_with fail
    have k0:=Zd (un HLZ) 0
    have k1:=Zd (un HLZ) 1
    have k2:=Zd (un HLZ) 2
    have hwf:∀ (y:Nat),w1.heap.size≤y→(((wr.setCell ⟨R2,0,none⟩ (.slice oV s.fibers.length cV)).setCell ⟨R2,1,none⟩ (.int .i64 s.now)).setCell ⟨R2,2,none⟩ (.slice oW s.out.length cW)).heap[y]?=wr.heap[y]?:=fun y hy=>by
     rw [Below.heap_setCell _ _ _ _ (by simp only;omega),Below.heap_setCell _ _ _ _ (by simp only;omega),Below.heap_setCell _ _ _ _ (by simp only;omega)]
    have hkr:Zb w wr:=(un HK1).trans (un HKr)
    have hwR:w.heap.size≤R2:=by have:=un HAR;omega
    have hkf:Zb w (((wr.setCell ⟨R2,0,none⟩ (.slice oV s.fibers.length cV)).setCell ⟨R2,1,none⟩ (.int .i64 s.now)).setCell ⟨R2,2,none⟩ (.slice oW s.out.length cW)):=((hkr.setCell (p:=⟨R2,0,none⟩) hwR _).setCell (p:=⟨R2,1,none⟩) hwR _).setCell (p:=⟨R2,2,none⟩) hwR _
    have hof:Own w.heap.size (((wr.setCell ⟨R2,0,none⟩ (.slice oV s.fibers.length cV)).setCell ⟨R2,1,none⟩ (.int .i64 s.now)).setCell ⟨R2,2,none⟩ (.slice oW s.out.length cW)) V s:=by
     refine Own.base (base:=w1.heap.size) ?_ (by have:=un HS1;have:=un HAR;omega)
     exact (un HOV).own.same (fun kk g hkk hg=>hwf g (((un HOV).own.piece kk hkk).block g hg).1)
    refine bodyPost_ret (v:=.agg #[.slice oV s.fibers.length cV,.int .i64 s.now,.slice oW s.out.length cW]) (by simp [results,Tryd.results85,go_sem,k0,k1,k2]) rfl ?_
    exact ⟨V,by rw [un HVF,un HVO],hof,hkf⟩
end Go.Proofs.YtblihfpigjiahaaDoor
