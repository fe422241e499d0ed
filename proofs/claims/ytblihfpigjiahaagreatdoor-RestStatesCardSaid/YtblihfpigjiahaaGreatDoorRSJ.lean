/- SamePr, RestA, RestB -/
import Derived.Test.YtblihfpigjiahaaGreatDoorZB01
import Derived.Test.YtblihfpigjiahaaGreatDoorZB08
import Derived.Deep.RegionWith
import Derived.Deep.DeepCutAuto
import Derived.Test.YtblihfpigjiahaaGreatDoorZB11
import Derived.Test.YtblihfpigjiahaaGreatDoorZB30
import Derived.Test.YtblihfpigjiahaaGreatDoorZB17
import Derived.Test.YtblihfpigjiahaaGreatDoorZB36
import Derived.Test.YtblihfpigjiahaaGreatDoorTakesQ
import Derived.Test.YtblihfpigjiahaaGreatDoorStX
import Derived.Laws.AppendOwn
import Derived.Maps.AppendAt
set_option maxRecDepth 100000
set_option maxHeartbeats 8000000
namespace Go.Proofs.YtblihfpigjiahaaGreatDoor
open Go.RowKit

theorem sameFuncsF (ar lo:Int) (c:List (Int × Int)) (cv1 cv2:Value) (w:World) (h1:CodeAt w cv1 c) (h2:CodeAt w cv2 c) :
    Calls Tryz.prog 38 #[.agg #[.int .i64 ar,.int .i64 lo,cv1],.agg #[.int .i64 ar,.int .i64 lo,cv2]] w fun e w'=>e=.returned (.bool true)∧Kept w w':=by
  obtain ⟨oa1,cap1,rfl,hl8,i1⟩:=h1
  obtain ⟨oa2,cap2,rfl,_,i2⟩:=h2
  have hn1:(ar != ar)=false:=by simp
  have hn2:(lo != lo)=false:=by simp
  have hn3:((c.length:Int) != (c.length:Int))=false:=by simp
  generalize hm:c.length=m at *
  have HI1:=hide i1
  have HI2:=hide i2
  have HM:=hide hm
  clear i1 i2 hm
  go_enter Tryz.func38,Tryz.ntmps38
  go_wp2
  have L0:Hid (((w.alloc (.cells #[.int .i64 ar,.int .i64 lo,.slice oa1 m cap1] 70)).alloc (.cells #[.int .i64 ar,.int .i64 lo,.slice oa2 m cap2] 70)).heap[w.heap.size]?=_):=hide (Zg (Zd rfl) _)
  have L1:Hid (((w.alloc (.cells #[.int .i64 ar,.int .i64 lo,.slice oa1 m cap1] 70)).alloc (.cells #[.int .i64 ar,.int .i64 lo,.slice oa2 m cap2] 70)).heap[w.heap.size + 1]?=_):=hide (Zd (by simp))
  generalize hW:(w.alloc (.cells #[.int .i64 ar,.int .i64 lo,.slice oa1 m cap1] 70)).alloc (.cells #[.int .i64 ar,.int .i64 lo,.slice oa2 m cap2] 70)=W at *
  have HKW:Hid (Kept w W):=by rw [← hW]; exact ((Kept.refl w).alloc _).alloc _
  clear hW
  go_loopw [5] (fun s wr=>∃ k:Nat,k≤m∧s=.int .i64 k∧Hid (Kept W wr)) (fun s _=>m - (intOf s).toNat)
  case atStart=>exact ⟨0,Nat.zero_le _,rfl,Kept.refl _⟩
  case round =>
    obtain ⟨k,hkm,rfl,HKr⟩:=hrel
    have b0:=Zb (Zj (un HKr) (un L0)) 2
    have b1:=Zb (Zj (un HKr) (un L1)) 2
    simp only [List.getElem?_toArray,List.getElem?_cons_zero,List.getElem?_cons_succ] at b0 b1
    by_cases hlt:k < m
    · obtain ⟨⟨kd,a⟩,hx⟩:∃ x,c[k]?=some x:=⟨_,List.getElem?_eq_getElem (by rw [un HM]; exact hlt)⟩
      obtain ⟨p1,o1,rfl,x0,x1⟩:=(un HI1) k _ hx
      obtain ⟨p2,o2,rfl,y0,y1⟩:=(un HI2) k _ hx
      have hk:=(un HKW).trans (un HKr)
      have x0':=hk.cell x0
      have x1':=hk.cell x1
      have y0':=hk.cell y0
      have y1':=hk.cell y1
      simp only at x0' x1' y0' y1'
      clear hk x0 x1 y0 y1 hx
      go_wp2
      go_quiet (fail)
      go_wp2
      go_roundw
      case rel=>exact ⟨k + 1,by omega,by go_num,(un HKr).drewN _⟩
      case measure=>simp [intOf]; omega
    · go_wp2
      go_ret
      exact ⟨rfl,(un HKW).trans (un HKr)⟩
theorem sameProgsF (p:List Fn) (v1 v2:Value) (w:World) (h1:ProgAt w v1 p) (h2:ProgAt w v2 p) :
    Calls Tryz.prog 19 #[v1,v2] w fun e w'=>e=.returned (.bool true)∧Kept w w':=by
  obtain ⟨oa1,cap1,rfl,hl8,i1⟩:=h1
  obtain ⟨oa2,cap2,rfl,_,i2⟩:=h2
  have hn3:((p.length:Int) != (p.length:Int))=false:=by simp
  generalize hm:p.length=m at *
  have HI1:=hide i1
  have HI2:=hide i2
  have HM:=hide hm
  clear i1 i2 hm
  go_enter Tryz.func19,Tryz.ntmps19
  go_wp2
  go_loopw [5] (fun s wr=>∃ k:Nat,k≤m∧s=.int .i64 k∧Hid (Kept w wr)) (fun s _=>m - (intOf s).toNat)
  case atStart=>exact ⟨0,Nat.zero_le _,rfl,Kept.refl _⟩
  case round =>
    obtain ⟨k,hkm,rfl,HKr⟩:=hrel
    by_cases hlt:k < m
    · obtain ⟨f,hx⟩:∃ f,p[k]?=some f:=⟨_,List.getElem?_eq_getElem (by rw [un HM]; exact hlt)⟩
      obtain ⟨p1,o1,cv1,rfl,x0,x1,x2,hc1⟩:=(un HI1) k _ hx
      obtain ⟨p2,o2,cv2,rfl,y0,y1,y2,hc2⟩:=(un HI2) k _ hx
      have hk:=un HKr
      have x0':=hk.cell x0
      have x1':=hk.cell x1
      have x2':=hk.cell x2
      have y0':=hk.cell y0
      have y1':=hk.cell y1
      have y2':=hk.cell y2
      obtain ⟨oc1,cc1,rfl,_,_⟩:=id hc1
      obtain ⟨oc2,cc2,rfl,_,_⟩:=id hc2
      have HSF:Hid (∀ u,Kept wr u→Calls Tryz.prog 38 #[.agg #[.int .i64 f.args,.int .i64 f.locals,.slice oc1 f.code.length cc1],.agg #[.int .i64 f.args,.int .i64 f.locals,.slice oc2 f.code.length cc2]] u fun e w'=>e=.returned (.bool true)∧Kept u w') :=
        hide (fun u hu=>sameFuncsF f.args f.locals f.code _ _ u (hc1.kept (hk.trans hu)) (hc2.kept (hk.trans hu)))
      clear hk x0 x1 x2 y0 y1 y2 hx hc1 hc2
      go_wp2_with fail
      go_cut [26] from 11 to 26 (fun s26 wx=>s26=.bool false∧Hid (Kept wr wx))
      case first =>
        go_region_with (go_at_call 38; refine ((un HSF) _ ?_).mono ?_; (repeat (first | exact Kept.refl _ | refine Kept.drew ?_ | refine Kept.alloc ?_ _)); rintro e w' ⟨rfl,hkk⟩)
        all_goals go_wp2_with fail
        all_goals go_meet
        all_goals exact ⟨rfl,hide (by first | exact hkk | exact (Kept.refl wr).drew.trans hkk)⟩
      case rest =>
        obtain ⟨rfl,HKx⟩:=hcut
        go_wp2
        go_roundw
        case rel=>exact ⟨k + 1,by omega,by go_num,(un HKr).trans (un HKx)⟩
        case measure=>simp [intOf]; omega
    · go_wp2
      go_ret
      exact ⟨rfl,un HKr⟩
end Go.Proofs.YtblihfpigjiahaaGreatDoor
set_option maxRecDepth 100000
set_option maxHeartbeats 8000000
namespace Go.Proofs.YtblihfpigjiahaaGreatDoor
open Go.RowKit

def IntsOk (w:World) (N:Nat) (v:Value):Prop:=∃ oa n cap,v=.slice oa n cap∧(0 < n→∃ g cur,oa=some ⟨g,0,none⟩∧N≤g∧w.heap[g]?=some (.cells cur 3)∧n≤cur.size∧n≤9223372036854775807)
def FrsOk (w:World) (N:Nat) (v:Value):Prop:=∃ oa n cap,v=.slice oa n cap∧(0 < n→∃ g cur,oa=some ⟨g,0,none⟩∧N≤g∧w.heap[g]?=some (.cells cur 48)∧n≤9223372036854775807 ∧
  ∀ j,j < n→∃ a b vl vs,cur[j * 4]?=some (.int .i64 a)∧cur[j * 4 + 1]?=some (.int .i64 b)∧cur[j * 4 + 2]?=some vl∧cur[j * 4 + 3]?=some vs∧IntsOk w N vl∧IntsOk w N vs)
def FbsOk (w:World) (N:Nat) (v:Value):Prop:=∃ oa n cap,v=.slice oa n cap∧(0 < n→∃ g cur,oa=some ⟨g,0,none⟩∧N≤g∧w.heap[g]?=some (.cells cur 46)∧n≤9223372036854775807 ∧
  ∀ k,k < n→∃ vf c,cur[k * 2]?=some vf∧cur[k * 2 + 1]?=some (.int .i64 c)∧FrsOk w N vf)
theorem IntsOk.nil (w:World) (N:Nat):IntsOk w N (.slice none 0 0):=⟨none,0,0,rfl,fun h=>by omega⟩
theorem FrsOk.nil (w:World) (N:Nat):FrsOk w N (.slice none 0 0):=⟨none,0,0,rfl,fun h=>by omega⟩
def FrSame (c c':Array Value) (j:Nat):Prop:=(c'[j * 4]?=c[j * 4]?∧c'[j * 4 + 1]?=c[j * 4 + 1]?∧c'[j * 4 + 2]?=c[j * 4 + 2]?∧c'[j * 4 + 3]?=c[j * 4 + 3]?) ∨
  (c'[j * 4]?=some (.int .i64 0)∧c'[j * 4 + 1]?=some (.int .i64 (-1))∧c'[j * 4 + 2]?=some (.slice none 0 0)∧c'[j * 4 + 3]?=some (.slice none 0 0))
def FbSame (c c':Array Value) (k:Nat):Prop:=(c'[k * 2]?=c[k * 2]?∧c'[k * 2 + 1]?=c[k * 2 + 1]?)∨(c'[k * 2]?=some (.slice none 0 0)∧c'[k * 2 + 1]?=some (.int .i64 0))
def Wr (w w':World):Prop:=∀ (g:Nat) (c:Array Value) (t:TypeId),w.heap[g]?=some (.cells c t)→∃ c',w'.heap[g]?=some (.cells c' t)∧c'.size=c.size ∧
  (t=48→∀ j,FrSame c c' j)∧(t=46→∀ k,FbSame c c' k)∧(t=26→c'=c)
theorem Wr.same {w w':World} (h:∀ (g:Nat) (o:Obj),w.heap[g]?=some o→w'.heap[g]?=some o):Wr w w':=fun g c _ hg =>
  ⟨c,h g _ hg,rfl,fun _ _=>.inl ⟨rfl,rfl,rfl,rfl⟩,fun _ _=>.inl ⟨rfl,rfl⟩,fun _=>rfl⟩
theorem Wr.kept {w w':World} (h:Kept w w'):Wr w w':=Wr.same fun _ _ hg=>Zj h hg
theorem IntsOk.wr {w w':World} {N:Nat} {v:Value} (h:IntsOk w N v) (k:Wr w w'):IntsOk w' N v:=by
  obtain ⟨oa,n,cap,rfl,h⟩:=h
  refine ⟨oa,n,cap,rfl,fun hn=>?_⟩
  obtain ⟨g,cur,e,hN,hg,hs,hb⟩:=h hn
  obtain ⟨c',hc,hz,_⟩:=k g cur _ hg
  exact ⟨g,c',e,hN,hc,by omega,hb⟩
theorem FrsOk.wr {w w':World} {N:Nat} {v:Value} (h:FrsOk w N v) (k:Wr w w'):FrsOk w' N v:=by
  obtain ⟨oa,n,cap,rfl,h⟩:=h
  refine ⟨oa,n,cap,rfl,fun hn=>?_⟩
  obtain ⟨g,cur,e,hN,hg,hb,hs⟩:=h hn
  obtain ⟨c',hc,hz,hf,_⟩:=k g cur _ hg
  refine ⟨g,c',e,hN,hc,hb,fun j hj=>?_⟩
  obtain ⟨a,b,vl,vs,h1,h2,h3,h4,h5,h6⟩:=hs j hj
  rcases hf rfl j with ⟨q1,q2,q3,q4⟩ | ⟨q1,q2,q3,q4⟩
  · exact ⟨a,b,vl,vs,q1.trans h1,q2.trans h2,q3.trans h3,q4.trans h4,h5.wr k,h6.wr k⟩
  · exact ⟨_,_,_,_,q1,q2,q3,q4,IntsOk.nil _ _,IntsOk.nil _ _⟩
theorem FbsOk.wr {w w':World} {N:Nat} {v:Value} (h:FbsOk w N v) (k:Wr w w'):FbsOk w' N v:=by
  obtain ⟨oa,n,cap,rfl,h⟩:=h
  refine ⟨oa,n,cap,rfl,fun hn=>?_⟩
  obtain ⟨g,cur,e,hN,hg,hb,hs⟩:=h hn
  obtain ⟨c',hc,hz,_,hf,_⟩:=k g cur _ hg
  refine ⟨g,c',e,hN,hc,hb,fun j hj=>?_⟩
  obtain ⟨vf,c,h1,h2,h3⟩:=hs j hj
  rcases hf rfl j with ⟨q1,q2⟩ | ⟨q1,q2⟩
  · exact ⟨vf,c,q1.trans h1,q2.trans h2,h3.wr k⟩
  · exact ⟨_,_,q1,q2,FrsOk.nil _ _⟩
theorem heap_set {w:World} {g:Nat} {c:Array Value} {t:TypeId} (h:w.heap[g]?=some (.cells c t)) (i:Nat) (u:Value) (b:Nat) :
    (w.setCell ⟨g,i,none⟩ u).heap[b]?=if b=g then some (.cells (c.setIfInBounds i u) t) else w.heap[b]?:=by
  by_cases e:b=g
  · subst e; rw [if_pos rfl]; exact Zs h i u
  · rw [if_neg e]; exact Below.heap_setCell w ⟨g,i,none⟩ u b e
theorem kind_ne:(3:Nat)≠48∧(3:Nat)≠46∧(3:Nat)≠26∧(48:Nat)≠46∧(48:Nat)≠26∧(46:Nat)≠26:=by decide
theorem Wr.int {w:World} {g:Nat} {c:Array Value} (h:w.heap[g]?=some (.cells c 3)) (i:Nat) (u:Value):Wr w (w.setCell ⟨g,i,none⟩ u):=by
  intro b c1 t hb
  rw [heap_set h]
  by_cases e:b=g
  · subst e
    rw [h] at hb
    obtain ⟨rfl,rfl⟩:c=c1∧3=t:=by simpa using hb
    rw [if_pos rfl]
    exact ⟨_,rfl,by simp,fun q=>absurd q (by decide),fun q=>absurd q (by decide),fun q=>absurd q (by decide)⟩
  · rw [if_neg e]
    exact ⟨c1,hb,rfl,fun _ _=>.inl ⟨rfl,rfl,rfl,rfl⟩,fun _ _=>.inl ⟨rfl,rfl⟩,fun _=>rfl⟩
abbrev setFrame (w:World) (g j:Nat):World:=(((w.setCell ⟨g,j * 4,none⟩ (.int .i64 0)).setCell ⟨g,j * 4 + 1,none⟩ (.int .i64 (-1))).setCell ⟨g,j * 4 + 2,none⟩ (.slice none 0 0)).setCell ⟨g,j * 4 + 3,none⟩ (.slice none 0 0)
abbrev setFiber (w:World) (g k:Nat):World:=(w.setCell ⟨g,k * 2,none⟩ (.slice none 0 0)).setCell ⟨g,k * 2 + 1,none⟩ (.int .i64 0)
theorem Wr.frame {w:World} {g:Nat} {c:Array Value} (h:w.heap[g]?=some (.cells c 48)) {j:Nat} (hj:j * 4 + 3 < c.size):Wr w (setFrame w g j):=by
  intro b c1 t hb
  have l4:=Zs (Zs (Zs (Zs h (j * 4) (.int .i64 0)) (j * 4 + 1) (.int .i64 (-1))) (j * 4 + 2) (.slice none 0 0)) (j * 4 + 3) (.slice none 0 0)
  by_cases e:b=g
  · subst e
    rw [h] at hb
    obtain ⟨rfl,rfl⟩:c=c1∧48=t:=by simpa using hb
    refine ⟨_,l4,by simp,fun _ i=>?_,fun q=>absurd q (by decide),fun q=>absurd q (by decide)⟩
    by_cases hi:i=j
    · subst hi
      right
      simp only [Array.getElem?_setIfInBounds,Array.size_setIfInBounds]
      refine ⟨?_,?_,?_,?_⟩ <;> simp <;> omega
    · left
      simp only [Array.getElem?_setIfInBounds]
      refine ⟨?_,?_,?_,?_⟩ <;> (repeat rw [if_neg (by omega)])
  · refine ⟨c1,?_,rfl,fun _ _=>.inl ⟨rfl,rfl,rfl,rfl⟩,fun _ _=>.inl ⟨rfl,rfl⟩,fun _=>rfl⟩
    rw [← hb]
    simp only [setFrame]
    rw [Below.heap_setCell _ _ _ _ e,Below.heap_setCell _ _ _ _ e,Below.heap_setCell _ _ _ _ e,Below.heap_setCell _ _ _ _ e]
theorem Wr.fiber {w:World} {g:Nat} {c:Array Value} (h:w.heap[g]?=some (.cells c 46)) {j:Nat} (hj:j * 2 + 1 < c.size):Wr w (setFiber w g j):=by
  intro b c1 t hb
  have l4:=Zs (Zs h (j * 2) (.slice none 0 0)) (j * 2 + 1) (.int .i64 0)
  by_cases e:b=g
  · subst e
    rw [h] at hb
    obtain ⟨rfl,rfl⟩:c=c1∧46=t:=by simpa using hb
    refine ⟨_,l4,by simp,fun q=>absurd q (by decide),fun _ i=>?_,fun q=>absurd q (by decide)⟩
    by_cases hi:i=j
    · subst hi
      right
      simp only [Array.getElem?_setIfInBounds,Array.size_setIfInBounds]
      refine ⟨?_,?_⟩ <;> simp <;> omega
    · left
      simp only [Array.getElem?_setIfInBounds]
      refine ⟨?_,?_⟩ <;> (repeat rw [if_neg (by omega)])
  · refine ⟨c1,?_,rfl,fun _ _=>.inl ⟨rfl,rfl,rfl,rfl⟩,fun _ _=>.inl ⟨rfl,rfl⟩,fun _=>rfl⟩
    rw [← hb]
    simp only [setFiber]
    rw [Below.heap_setCell _ _ _ _ e,Below.heap_setCell _ _ _ _ e]
theorem row_open {w:World} {base:Nat} {e:TypeId} {size:Nat} {v:Value} {n:Nat} {xs:List Value} (h:w.ownsRow base e size v n xs) :
    ∃ oa cap,v=.slice oa n cap∧(0 < n→∃ g cur,oa=some ⟨g,0,none⟩∧base≤g∧w.heap[g]?=some (.cells cur e)∧n * size≤cur.size∧n≤9223372036854775807∧∀ (j:Nat) u,xs[j]?=some u→cur[j]?=some u):=by
  obtain ⟨hl,⟨rfl,rfl⟩ | ⟨g,cap,cur,rfl,hb,hh,h1,h2,hs,ht⟩⟩:=h
  · exact ⟨none,0,rfl,fun h=>by omega⟩
  · refine ⟨_,cap,rfl,fun _=>⟨g,cur,rfl,hb,hh,?_,by unfold maxLen at h2; omega,fun j u hj=>?_⟩⟩
    · rw [hs]; exact Nat.mul_le_mul_right _ h1
    · rw [← ht,List.getElem?_take] at hj
      split at hj
      · simpa using hj
      · cases hj
theorem Own.shape {N:Nat} {w:World} {V:Key→Value} {s:St} (h:Own N w V s):FbsOk w N (V .fibers)∧IntsOk w N (V .out):=by
  have hi:∀ {v:Value} {n:Nat} {xs:List Value},w.ownsRow N 3 1 v n xs→IntsOk w N v:=fun {v n xs} hr=>by
    obtain ⟨oa,cap,rfl,hr2⟩:=row_open hr
    refine ⟨oa,n,cap,rfl,fun hn=>?_⟩
    obtain ⟨g,cur,e,hb,hh,hs,h9,_⟩:=hr2 hn
    exact ⟨g,cur,e,hb,hh,by omega,h9⟩
  refine ⟨?_,hi (h.piece .out trivial)⟩
  obtain ⟨xs,hx,hc⟩:=h.piece .fibers trivial
  obtain ⟨oa,cap,e,hr⟩:=row_open hx
  refine ⟨oa,_,cap,e,fun hn=>?_⟩
  obtain ⟨g,cur,e,hb,hh,hs,h9,hu⟩:=hr hn
  refine ⟨g,cur,e,hb,hh,h9,fun k hk=>⟨_,_,hu _ _ (hc k hk).1,hu _ _ (hc k hk).2,?_⟩⟩
  obtain ⟨xs,hx,hc⟩:=h.piece (.frames k) hk
  obtain ⟨oa,cap,e,hr⟩:=row_open hx
  refine ⟨oa,_,cap,e,fun hn=>?_⟩
  obtain ⟨g,cur,e,hb,hh,hs,h9,hu⟩:=hr hn
  refine ⟨g,cur,e,hb,hh,h9,fun j hj=>?_⟩
  obtain ⟨q1,q2,q3,q4⟩:=hc j hj
  exact ⟨_,_,_,_,hu _ _ q1,hu _ _ q2,hu _ _ q3,hu _ _ q4,hi (h.piece (.locals k j) ⟨hk,hj⟩),hi (h.piece (.stack k j) ⟨hk,hj⟩)⟩
theorem IntsOk.low {w:World} {N M:Nat} {v:Value} (h:IntsOk w N v) (hm:M≤N):IntsOk w M v:=by
  obtain ⟨oa,n,cap,rfl,h⟩:=h
  refine ⟨oa,n,cap,rfl,fun hn=>?_⟩
  obtain ⟨g,cur,e,hN,r⟩:=h hn
  exact ⟨g,cur,e,by omega,r⟩
theorem FrsOk.low {w:World} {N M:Nat} {v:Value} (h:FrsOk w N v) (hm:M≤N):FrsOk w M v:=by
  obtain ⟨oa,n,cap,rfl,h⟩:=h
  refine ⟨oa,n,cap,rfl,fun hn=>?_⟩
  obtain ⟨g,cur,e,hN,hg,hb,hs⟩:=h hn
  refine ⟨g,cur,e,by omega,hg,hb,fun j hj=>?_⟩
  obtain ⟨a,b,vl,vs,h1,h2,h3,h4,h5,h6⟩:=hs j hj
  exact ⟨a,b,vl,vs,h1,h2,h3,h4,h5.low hm,h6.low hm⟩
theorem FbsOk.low {w:World} {N M:Nat} {v:Value} (h:FbsOk w N v) (hm:M≤N):FbsOk w M v:=by
  obtain ⟨oa,n,cap,rfl,h⟩:=h
  refine ⟨oa,n,cap,rfl,fun hn=>?_⟩
  obtain ⟨g,cur,e,hN,hg,hb,hs⟩:=h hn
  refine ⟨g,cur,e,by omega,hg,hb,fun j hj=>?_⟩
  obtain ⟨vf,c,h1,h2,h3⟩:=hs j hj
  exact ⟨vf,c,h1,h2,h3.low hm⟩
def LAt (w0 w:World) (L:Nat) (cs:Array Value):Prop:=w.heap[L]?=some (.cells cs 26)∧w0.heap.size≤L∧Kept w0 w ∧
  ∀ i,i < 3→∃ vf c vo,cs[i * 3]?=some vf∧cs[i * 3 + 1]?=some (.int .i64 c)∧cs[i * 3 + 2]?=some vo∧FbsOk w w0.heap.size vf∧IntsOk w w0.heap.size vo
theorem LAt.wr {w0 w w':World} {L:Nat} {cs:Array Value} (h:LAt w0 w L cs) (hk:Kept w0 w') (k:Wr w w'):LAt w0 w' L cs:=by
  obtain ⟨h1,h2,_,h4⟩:=h
  obtain ⟨c',hc,_,_,_,he⟩:=k L cs _ h1
  refine ⟨by rw [hc,he rfl],h2,hk,fun i hi=>?_⟩
  obtain ⟨vf,c,vo,q1,q2,q3,q4,q5⟩:=h4 i hi
  exact ⟨vf,c,vo,q1,q2,q3,q4.wr k,q5.wr k⟩
theorem LAt.make {w0 w:World} {L:Nat} {f0 o0 f1 o1 f2 o2:Value} {n0 n1 n2:Int} (h:w.heap[L]?=some (.cells #[f0,.int .i64 n0,o0,f1,.int .i64 n1,o1,f2,.int .i64 n2,o2] 26)) (hL:w0.heap.size≤L) (hk:Kept w0 w)
    (a0:FbsOk w w0.heap.size f0) (b0:IntsOk w w0.heap.size o0) (a1:FbsOk w w0.heap.size f1) (b1:IntsOk w w0.heap.size o1) (a2:FbsOk w w0.heap.size f2) (b2:IntsOk w w0.heap.size o2):LAt w0 w L #[f0,.int .i64 n0,o0,f1,.int .i64 n1,o1,f2,.int .i64 n2,o2]:=by
  refine ⟨h,hL,hk,fun i hi=>?_⟩
  match i,hi with
  | 0,_=>exact ⟨f0,n0,o0,rfl,rfl,rfl,a0,b0⟩
  | 1,_=>exact ⟨f1,n1,o1,rfl,rfl,rfl,a1,b1⟩
  | 2,_=>exact ⟨f2,n2,o2,rfl,rfl,rfl,a2,b2⟩
theorem LAt.fib {w0 w:World} {L:Nat} {cs:Array Value} (h:LAt w0 w L cs) {i:Nat} (hi:i < 3):∃ of nf cf oo no co,w.cell? ⟨L,i * 3,none⟩=some (.slice of nf cf)∧w.cell? ⟨L,i * 3 + 2,none⟩=some (.slice oo no co)∧cs[i * 3]?=some (.slice of nf cf)∧cs[i * 3 + 2]?=some (.slice oo no co):=by
  obtain ⟨h1,_,_,h4⟩:=h
  obtain ⟨vf,c,vo,q1,_,q3,q4,q5⟩:=h4 i hi
  obtain ⟨of,nf,cf,rfl,_⟩:=q4
  obtain ⟨oo,no,co,rfl,_⟩:=q5
  exact ⟨of,nf,cf,oo,no,co,(Zb h1 _).trans q1,(Zb h1 _).trans q3,q1,q3⟩
theorem LAt.frs {w0 w:World} {L:Nat} {cs:Array Value} (h:LAt w0 w L cs) {i:Nat} (hi:i < 3) {of:Option Addr} {nf cf:Nat} (hc:cs[i * 3]?=some (.slice of nf cf)) {k:Nat} (hk:k < nf) :
    ∃ g cur,of=some ⟨g,0,none⟩∧w0.heap.size≤g∧w.heap[g]?=some (.cells cur 46)∧nf≤9223372036854775807∧∃ o n c z,cur[k * 2]?=some (.slice o n c)∧cur[k * 2 + 1]?=some (.int .i64 z)∧FrsOk w w0.heap.size (.slice o n c):=by
  obtain ⟨_,_,_,h4⟩:=h
  obtain ⟨vf,c,vo,q1,_,_,q4,_⟩:=h4 i hi
  obtain rfl:vf=.slice of nf cf:=Option.some.inj (q1.symm.trans hc)
  obtain ⟨_,_,_,e,q⟩:=q4
  cases e
  obtain ⟨g,cur,rfl,hg,hh,hb,hs⟩:=q (by omega)
  obtain ⟨vf,z,r1,r2,r3⟩:=hs k hk
  obtain ⟨o,n,c,rfl,_⟩:=id r3
  exact ⟨g,cur,rfl,hg,hh,hb,o,n,c,z,r1,r2,r3⟩
theorem LAt.ints {w0 w:World} {L:Nat} {cs:Array Value} (h:LAt w0 w L cs) {i:Nat} (hi:i < 3) {oo:Option Addr} {no co:Nat} (hc:cs[i * 3 + 2]?=some (.slice oo no co)):IntsOk w w0.heap.size (.slice oo no co):=by
  obtain ⟨_,_,_,h4⟩:=h
  obtain ⟨vf,c,vo,_,_,q3,_,q5⟩:=h4 i hi
  obtain rfl:vo=.slice oo no co:=Option.some.inj (q3.symm.trans hc)
  exact q5
theorem FrsOk.at {w:World} {N n cf:Nat} {of:Option Addr} (h:FrsOk w N (.slice of n cf)) {j:Nat} (hj:j < n):∃ g cur,of=some ⟨g,0,none⟩∧N≤g∧w.heap[g]?=some (.cells cur 48)∧∃ a b ol nl cl os ns cs,w.cell? ⟨g,j * 4,none⟩=some (.int .i64 a)∧w.cell? ⟨g,j * 4 + 1,none⟩=some (.int .i64 b) ∧
    w.cell? ⟨g,j * 4 + 2,none⟩=some (.slice ol nl cl)∧w.cell? ⟨g,j * 4 + 3,none⟩=some (.slice os ns cs)∧IntsOk w N (.slice ol nl cl)∧IntsOk w N (.slice os ns cs)∧j * 4 + 3 < cur.size∧n≤9223372036854775807:=by
  obtain ⟨_,_,_,e,q⟩:=h
  cases e
  obtain ⟨g,cur,rfl,hg,hh,hb,hs⟩:=q (by omega)
  obtain ⟨a,b,vl,vs,r1,r2,r3,r4,r5,r6⟩:=hs j hj
  obtain ⟨ol,nl,cl,rfl,_⟩:=id r5
  obtain ⟨os,ns,cs,rfl,_⟩:=id r6
  exact ⟨g,cur,rfl,hg,hh,a,b,ol,nl,cl,os,ns,cs,(Zb hh _).trans r1,(Zb hh _).trans r2,(Zb hh _).trans r3,(Zb hh _).trans r4,r5,r6,(Array.getElem?_eq_some_iff.1 r4).1,hb⟩
theorem IntsOk.at {w:World} {N n c:Nat} {oo:Option Addr} (h:IntsOk w N (.slice oo n c)) {m:Nat} (hm:m < n):∃ g cur x,oo=some ⟨g,0,none⟩∧N≤g∧w.heap[g]?=some (.cells cur 3)∧w.cell? ⟨g,m,none⟩=some x∧w.frozen? ⟨g,m,none⟩=false∧n≤9223372036854775807:=by
  obtain ⟨_,_,_,e,q⟩:=h
  cases e
  obtain ⟨g,cur,rfl,hg,hh,hs,hb⟩:=q (by omega)
  exact ⟨g,cur,cur[m]'(by omega),rfl,hg,hh,(Zb hh _).trans (Array.getElem?_eq_getElem (by omega)),Zi hh _,hb⟩
theorem other_kind {w:World} {g b:Nat} {c d:Array Value} {t r:TypeId} (h:w.heap[g]?=some (.cells c t)) (k:w.heap[b]?=some (.cells d r)) (hn:t≠r) (i:Nat) (u:Value):(w.setCell ⟨g,i,none⟩ u).heap[b]?=some (.cells d r):=by
  refine Xz k (fun e=>?_) u
  simp only at e
  subst e
  rw [h] at k
  simp only [Option.some.injEq,Obj.cells.injEq] at k
  exact hn k.2.1
theorem LAt.frs2 {w0 w:World} {L gf:Nat} {cs curf:Array Value} (h:LAt w0 w L cs) {i:Nat} (hi:i < 3) {nf cf:Nat} (hc:cs[i * 3]?=some (.slice (some ⟨gf,0,none⟩) nf cf)) {k:Nat} (hk:k < nf) (hg:w.heap[gf]?=some (.cells curf 46)) {v:Value} (hv:curf[k * 2]?=some v):FrsOk w w0.heap.size v:=by
  obtain ⟨g,cur,e,_,hh,_,o,n,c,z,h1,_,h3⟩:=h.frs hi hc hk
  obtain rfl:gf=g:=by simpa using e
  rw [hg] at hh
  obtain rfl:curf=cur:=by simpa using hh
  rw [hv] at h1
  rwa [Option.some.inj h1]
def XAt (w0 w:World) (L gf Bx:Nat) (cs curf xc:Array Value) (vl vs:Value):Prop:=LAt w0 w L cs∧w.heap[gf]?=some (.cells curf 46)∧w.heap[Bx]?=some (.cells xc 48)∧IntsOk w w0.heap.size vl∧IntsOk w w0.heap.size vs
theorem XAt.int {w0 w:World} {L gf Bx g i:Nat} {cs curf xc cur:Array Value} {vl vs:Value} (h:XAt w0 w L gf Bx cs curf xc vl vs) (hg:w.heap[g]?=some (.cells cur 3)) (hN:w0.heap.size≤g) (u:Value):XAt w0 (w.setCell ⟨g,i,none⟩ u) L gf Bx cs curf xc vl vs:=by
  obtain ⟨h1,h2,h3,h4,h5⟩:=h
  have k:=Wr.int hg i u
  exact ⟨h1.wr (h1.2.2.1.setCell (p:=⟨g,i,none⟩) hN u) k,other_kind hg h2 (by decide) i u,other_kind hg h3 (by decide) i u,h4.wr k,h5.wr k⟩
theorem LAt.int {w0 w:World} {L g i:Nat} {cs cur:Array Value} (h:LAt w0 w L cs) (hg:w.heap[g]?=some (.cells cur 3)) (hN:w0.heap.size≤g) (u:Value):LAt w0 (w.setCell ⟨g,i,none⟩ u) L cs:=h.wr (h.2.2.1.setCell (p:=⟨g,i,none⟩) hN u) (Wr.int hg i u)
theorem LAt.frame {w0 w:World} {L g j gf:Nat} {cs cur curf:Array Value} (h:LAt w0 w L cs) (h2:w.heap[gf]?=some (.cells curf 46)) (hg:w.heap[g]?=some (.cells cur 48)) (hN:w0.heap.size≤g) (hj:j * 4 + 3 < cur.size):LAt w0 (setFrame w g j) L cs∧(setFrame w g j).heap[gf]?=some (.cells curf 46):=by
  refine ⟨h.wr ((((h.2.2.1.setCell (p:=⟨g,_,none⟩) hN _).setCell (p:=⟨g,_,none⟩) hN _).setCell (p:=⟨g,_,none⟩) hN _).setCell (p:=⟨g,_,none⟩) hN _) (Wr.frame hg hj),?_⟩
  have l1:=Zs hg (j * 4) (.int .i64 0)
  have l2:=Zs l1 (j * 4 + 1) (.int .i64 (-1))
  have l3:=Zs l2 (j * 4 + 2) (.slice none 0 0)
  exact other_kind l3 (other_kind l2 (other_kind l1 (other_kind hg h2 (by decide) _ _) (by decide) _ _) (by decide) _ _) (by decide) _ _
theorem LAt.fiber {w0 w:World} {L g j:Nat} {cs cur:Array Value} (h:LAt w0 w L cs) (hg:w.heap[g]?=some (.cells cur 46)) (hN:w0.heap.size≤g) (hj:j * 2 + 1 < cur.size):LAt w0 (setFiber w g j) L cs :=
  h.wr ((h.2.2.1.setCell (p:=⟨g,_,none⟩) hN _).setCell (p:=⟨g,_,none⟩) hN _) (Wr.fiber hg hj)
end Go.Proofs.YtblihfpigjiahaaGreatDoor
set_option maxRecDepth 100000
set_option maxHeartbeats 8000000
namespace Go.Proofs.YtblihfpigjiahaaGreatDoor
open Go.RowKit Go.Maps

theorem take_oneR {P:Program} {md:Region.Mode} {Q:Exit→Act→World→Prop} {S:World→Prop} {L tl:List Oper} {i:Nat} {oi:Oper} {fuel:Nat} {listed:Array Bool} {a:Act} {w:World} (hd:L.drop i=oi :: tl)
    (hr:Region.ready md L.toArray listed=[i])
    (h:∀ K':Act→World→Prop,Shut (∀ a w,S w→(S w→wpAnyH P md L.toArray Q S fuel (listed.setIfInBounds i true) a w)→K' a w)→if Region.wanted oi (yielded L.toArray a.tmps)=true then Oper.wp P oi a w K' Q else K' (a.put oi.dst undef) w) :
    wpAnyH P md L.toArray Q S (fuel + 1) listed a w :=
  wpAnyH_ready hr (by simp) (AllReadyH.cons (at_drop hd) h AllReadyH.nil)
theorem rInfoOp:(Tryz.prog.info? 66).map (fun i=>(i.zero,i.size,i.bytes))=some (some (.agg #[.int .i64 0,.int .i64 0]),2,16):=by kernel_rfl
theorem rInfoFn:(Tryz.prog.info? 70).map (fun i=>(i.zero,i.size,i.bytes))=some (some (.agg #[.int .i64 0,.int .i64 0,.slice none 0 0]),3,40):=by kernel_rfl
theorem rFlat_len:∀ c:List (Int × Int),(flatOps c).length=c.length * 2
  | []=>rfl
  | _ :: c=>by have:=rFlat_len c; simp only [flatOps,List.flatMap_cons,List.length_append,List.length_cons,List.length_nil] at this ⊢; omega
theorem rFlat_one (c:List (Int × Int)):∀ u∈flatOps c,u.oneCell'=true:=by
  intro u hu
  simp only [flatOps,List.mem_flatMap,List.mem_cons,List.not_mem_nil,or_false] at hu
  obtain ⟨x,_,rfl | rfl⟩:=hu <;> rfl
def CodeB (w:World) (v:Value) (c:List (Int × Int)):Prop :=
  ∃ D cap cur,v=.slice (some ⟨D,0,none⟩) c.length cap∧w.heap[D]?=some (.cells cur 66)∧∀ (j:Nat) u,(flatOps c)[j]?=some u→cur[j]?=some u
theorem CodeB.code {w:World} {v:Value} {c:List (Int × Int)} (h:CodeB w v c) (hl:c.length≤1000):CodeAt w v c:=by
  obtain ⟨D,cap,cur,rfl,hD,hc⟩:=h
  refine ⟨_,cap,rfl,by omega,fun i x hx=>?_⟩
  obtain ⟨f1,f2⟩:=flatOps_at c i x hx
  refine ⟨D,0,rfl,?_,?_⟩
  · rw [Zb hD]; simpa using hc _ _ f1
  · rw [Zb hD]; simpa using hc _ _ f2
theorem CodeB.kept {w w':World} {v:Value} {c:List (Int × Int)} (h:CodeB w v c) (k:Kept w w'):CodeB w' v c:=by
  obtain ⟨D,cap,cur,e,hD,hc⟩:=h
  exact ⟨D,cap,cur,e,Zj k hD,hc⟩
theorem ops_copied (B:Nat) (w0 u:World) (v:Value) (c:List (Int × Int)) (hc:CodeAt u v c) (hl:c.length≤1000) (hB:u.heap[B]?=some (.cells #[] 66)) (hb:w0.heap.size≤B) (hk:Kept w0 u) :
    ∃ o' c' u',(Builtin.append_ #[68,68] 68 #[.slice (some ⟨B,0,none⟩) 0 0,v]).run Tryz.prog u=.ok (.slice o' c.length c') u'∧CodeB u' (.slice o' c.length c') c∧Kept w0 u':=by
  obtain ⟨i0,hi0,hz0,hz1,hz2⟩:=info_parts rInfoOp
  have hBl:B < u.heap.size:=(Array.getElem?_eq_some_iff.1 hB).1
  have hrow:u.ownsRow w0.heap.size 66 2 (.slice (some ⟨B,0,none⟩) 0 0) 0 []:=⟨rfl,.inr ⟨B,0,#[],rfl,hb,hB,Nat.le_refl _,by decide,rfl,rfl⟩⟩
  obtain ⟨oa,cap,rfl,_,hi⟩:=hc
  by_cases h0:c.length=0
  · obtain rfl:c=[]:=List.length_eq_zero_iff.1 h0
    refine ⟨some ⟨B,0,none⟩,0,u,?_,⟨B,0,#[],rfl,hB,fun j u hj=>by simp [flatOps] at hj⟩,hk⟩
    cases oa with
    | none=>exact run_append_nothing u _ _ _ _ i0 Tryz.underlying68 hi0 _ 0 0 (Nat.le_refl _) _ (Src.ofNil u Tryz.underlying68 cap)
    | some a=>exact run_append_nothing u _ _ _ _ i0 Tryz.underlying68 hi0 _ 0 0 (Nat.le_refl _) _ (Src.ofSlice u Tryz.underlying68 a 0 cap [] (by simp) (by simp) (by simp))
  · obtain ⟨b,o,rfl,_⟩:=hi 0 _ (List.getElem?_eq_getElem (by omega))
    obtain ⟨v',u',hrun,hown,hgrow,_,hat⟩:=run_append_own_at (P:=Tryz.prog) u w0.heap.size 68 68 66 i0 _ 2 16 Tryz.underlying68 hi0 hz0 hz1 hz2 rfl (by decide) _ 0 [] hrow ⟨b,o,none⟩ c.length cap (flatOps c) (rFlat_len c) (fun j x hj=>by
        have hjl:j < c.length * 2:=by rw [← rFlat_len]; exact (List.getElem?_eq_some_iff.1 hj).1
        obtain ⟨b',o',e,h1,h2⟩:=hi (j / 2) _ (List.getElem?_eq_getElem (by omega))
        obtain ⟨rfl,rfl⟩:=(by simpa using e:b=b'∧o=o')
        have:((⟨b,o,none⟩:Addr).add j)=⟨b,o + j,none⟩:=by unfold Addr.add; split <;> simp_all
        obtain ⟨f1,f2⟩:=flatOps_at c (j / 2) _ (List.getElem?_eq_getElem (by omega))
        rw [this]
        rcases Nat.mod_two_eq_zero_or_one j with hm | hm
        · have ej:j / 2 * 2=j:=by omega
          rw [ej] at f1 h1
          rw [h1,← hj,f1]
        · have ej:j / 2 * 2 + 1=j:=by omega
          rw [ej] at f2
          rw [show o + j / 2 * 2 + 1=o + j by omega] at h2
          rw [h2,← hj,f2]) (rFlat_one c) (by unfold maxLen; omega) (by omega) (by omega)
    have hk':Kept w0 u':=Below.grown hk hgrow hk.size (fun g e=>by cases e; exact hb)
    rw [List.nil_append,Nat.zero_add] at hown
    obtain ⟨_,⟨rfl,h9⟩ | ⟨g,cp,cur,rfl,hg,hh,_,_,hs,ht⟩⟩:=hown
    · omega
    · refine ⟨some ⟨g,0,none⟩,cp,u',hrun,⟨g,cp,cur,rfl,hh,fun j u hj=>?_⟩,hk'⟩
      rw [← ht,List.getElem?_take] at hj
      split at hj
      · simpa using hj
      · cases hj
def OwnP (w0 w:World) (v:Value) (p:List Fn) (k:Nat):Prop :=
  ∃ l:List (Fn × Value),l.length=k∧l.map (·.1)=p.take k∧w.ownsRow w0.heap.size 70 3 v k (flatFns l)∧(∀ x∈l,CodeB w x.2 x.1.code)∧Kept w0 w
theorem OwnP.start (w:World) (p:List Fn):OwnP w w (.slice none 0 0) p 0:=⟨[],rfl,rfl,⟨rfl,.inl ⟨rfl,rfl⟩⟩,(fun x hx=>by cases hx),Kept.refl w⟩
theorem OwnP.kept {w0 w w':World} {v:Value} {p:List Fn} {k:Nat} (h:OwnP w0 w v p k) (hk:Kept w w'):OwnP w0 w' v p k:=by
  obtain ⟨l,h1,h2,h3,h4,h5⟩:=h
  exact ⟨l,h1,h2,Qr h3 (fun g hg=>hk.block g (World.ownsRow.lt h3 g hg).2),fun x hx=>(h4 x hx).kept hk,h5.trans hk⟩
theorem flatFns_snocR (l:List (Fn × Value)) (x:Fn × Value):flatFns (l++[x])=flatFns l++[.int .i64 x.1.args,.int .i64 x.1.locals,x.2]:=by simp [flatFns]
theorem OwnP.prog {w0 w:World} {v:Value} {p:List Fn} (h:OwnP w0 w v p p.length) (hp:p.length≤5) (hc:∀ f∈p,f.code.length≤24):ProgAt w v p:=by
  obtain ⟨l,h1,h2,h3,h4,_⟩:=h
  rw [List.take_length] at h2
  obtain ⟨oa,cap,rfl,hr⟩:=row_open h3
  refine ⟨oa,cap,rfl,by omega,fun i f hf=>?_⟩
  have hi:=(List.getElem?_eq_some_iff.1 hf).1
  obtain ⟨g,cur,rfl,_,hg,_,_,hu⟩:=hr (by omega)
  rw [← h2,List.getElem?_map,Option.map_eq_some_iff] at hf
  obtain ⟨x,hx,rfl⟩:=hf
  obtain ⟨f1,f2,f3⟩:=flatFns_at l i x hx
  have hm:=List.mem_of_getElem? hx
  refine ⟨g,0,x.2,rfl,?_,?_,?_,(h4 x hm).code (by have:=hc x.1 (by rw [← h2]; exact List.mem_map_of_mem hm); omega)⟩
  · rw [Zb hg]; simpa using hu _ _ f1
  · rw [Zb hg]; simpa using hu _ _ f2
  · rw [Zb hg]; simpa using hu _ _ f3
theorem OwnP.more {w0 u:World} {v cv:Value} {p:List Fn} {k:Nat} {f:Fn} (h:OwnP w0 u v p k) (hf:p[k]?=some f) (hk5:k≤5) (hcv:CodeB u cv f.code) :
    ∃ o' c' u',(Builtin.append_ #[22,22] 22 #[v,.slice (some ⟨u.heap.size,0,none⟩) 1 1]).run Tryz.prog (u.alloc (.cells #[.int .i64 f.args,.int .i64 f.locals,cv] 70))=.ok (.slice o' (k + 1) c') u'∧OwnP w0 u' (.slice o' (k + 1) c') p (k + 1):=by
  obtain ⟨i0,hi0,hz0,hz1,hz2⟩:=info_parts rInfoFn
  obtain ⟨l,h1,h2,h3,h4,h5⟩:=h
  obtain ⟨D,cp,cur,rfl,hD,hcur⟩:=id hcv
  have hL:(u.alloc (.cells #[.int .i64 f.args,.int .i64 f.locals,.slice (some ⟨D,0,none⟩) f.code.length cp] 70)).heap[u.heap.size]?=some (.cells #[.int .i64 f.args,.int .i64 f.locals,.slice (some ⟨D,0,none⟩) f.code.length cp] 70):=Zd rfl
  obtain ⟨v',u',hrun,hown,hgrow,_,hat⟩:=run_append_own_at (P:=Tryz.prog) _ w0.heap.size 22 22 70 i0 _ 3 40 Tryz.underlying22 hi0 hz0 hz1 hz2 rfl (by decide) v k (flatFns l) (Qr (w':=u.alloc (.cells #[.int .i64 f.args,.int .i64 f.locals,.slice (some ⟨D,0,none⟩) f.code.length cp] 70)) h3 (fun g hg=>Below.heap_alloc u _ g (World.ownsRow.lt h3 g hg).2)) ⟨u.heap.size,0,none⟩ 1 1 [.int .i64 f.args,.int .i64 f.locals,.slice (some ⟨D,0,none⟩) f.code.length cp] rfl (fun j x hj=>by
      rw [addr_add,Zb hL]; simpa using hj) (fun x hx=>by
      simp only [List.mem_cons,List.not_mem_nil,or_false] at hx
      rcases hx with rfl | rfl | rfl <;> rfl) (by unfold maxLen; omega) (by omega) (Nat.le_trans h5.size (by simp))
  obtain ⟨oa,cap,rfl,_⟩:=row_open hown
  have hkk:Kept w0 u':=Below.grown (h5.alloc _) hgrow (h5.alloc _).size (fun g hg=>(World.ownsRow.lt h3 g hg).1)
  have hstay:∀ {E:Nat} {cc:Array Value},u.heap[E]?=some (.cells cc 66)→u'.heap[E]?=some (.cells cc 66):=fun {E cc} hE=>by
    have hlt:E < u.heap.size:=(Array.getElem?_eq_some_iff.1 hE).1
    refine (hgrow.block E (by simp; omega) (fun e=>?_)).trans (Zg hE _)
    obtain ⟨_,⟨rfl,_⟩ | ⟨g,_,cur',rfl,_,hh,_⟩⟩:=h3
    · cases e
    · obtain rfl:E=g:=by simpa [Value.ownBlock] using e
      rw [hE] at hh
      simp at hh
  refine ⟨oa,cap,u',hrun,l++[(f,.slice (some ⟨D,0,none⟩) f.code.length cp)],by simp [h1],?_,?_,?_,hkk⟩
  · rw [List.map_append,h2,List.take_add_one,hf]; rfl
  · rw [flatFns_snocR]; exact hown
  · intro x hx
    rcases List.mem_append.1 hx with hx | hx
    · obtain ⟨E,q,cc,e,hE,hq⟩:=h4 x hx
      exact ⟨E,q,cc,e,hstay hE,hq⟩
    · obtain rfl:=List.mem_singleton.1 hx
      exact ⟨D,cp,cur,rfl,hstay hD,hcur⟩
theorem ownProg_any (p:List Fn) (vp:Value) (w:World) (hp:ProgAt w vp p) (h5:p.length≤5) (hc:∀ f∈p,f.code.length≤24) :
    Calls Tryz.prog 14 #[vp] w fun e w'=>∃ oa n cap,e=.returned (.slice oa n cap)∧ProgAt w' (.slice oa n cap) p∧Kept w w':=by
  obtain ⟨oa,cap,rfl,_,hi⟩:=hp
  generalize hn:p.length=n at *
  have HI:=hide hi
  have HC:=hide hc
  have HN:=hide hn
  clear hi hc hn
  go_enter Tryz.func14,Tryz.ntmps14
  go_wp2
  go_loopw [3,4] (fun s3 s4 wr=>∃ (k:Nat) (o3:Option Addr) (c3:Nat),k≤n∧s3=.slice o3 k c3∧s4=.int .i64 k∧Hid (OwnP w wr (.slice o3 k c3) p k)) (fun _ s4 _=>n - (intOf s4).toNat)
  case atStart=>exact ⟨0,none,0,Nat.zero_le _,rfl,rfl,hide (OwnP.start w p)⟩
  case round =>
    obtain ⟨k,o3,c3,hkm,rfl,rfl,HOr⟩:=hrel
    by_cases hlt:k < n
    · obtain ⟨f,hf⟩:∃ f,p[k]?=some f:=⟨_,List.getElem?_eq_getElem (by rw [un HN]; exact hlt)⟩
      obtain ⟨b,o,cv,rfl,x0,x1,x2,hcv⟩:=(un HI) k f hf
      obtain ⟨_,_,_,_,_,hkw⟩:=un HOr
      have hcl:=(un HC) f (List.mem_of_getElem? hf)
      obtain ⟨oc,cc,rfl,_,_⟩:=id hcv
      have HCV:=hide hcv
      have HF:=hide hf
      have HKW:=hide hkw
      have hk0:(0:Int)≤(k:Int):=by omega
      have hk1:(k:Int) < (n:Int):=by omega
      have HCL:=hide hcl
      generalize hM:f.code.length=M at *
      have HM:=hide hM
      clear hcv hf hkw hcl hM
      go_wp2_with fail
      refine wp_region_held_drew (S:=fun y=>Kept w y) (by kernel_rfl) ((un HKW).drew) (fun hHeld=>?_)
      refine Xa [0,1,2,3,4,5,6,7,8,9,10,12,13,14,15,16] ?_
      repeat
        refine Zz (v:=?_) hHeld (fun u hSu=>?_) ?_
        rotate_left
        · (have y0:=Kept.cell hSu x0; have y1:=Kept.cell hSu x1; have y2:=Kept.cell hSu x2; (try dsimp only at y0 y1 y2); go_simp) <;> with_reducible rfl
        try simp only [PS]
      refine endY ?_
      refine take_oneR (i:=11) rfl (by kernel_rfl) (fun K hK=>?_)
      go_simp
      refine hK.out _ _ (((un HKW).alloc _).drew) (fun hHeld=>?_)
      clear hK K
      try simp only [PS]
      have hE:(wr.alloc (.cells #[] 66)).drew.heap[wr.heap.size]?=some (.cells #[] 66):=(show (wr.alloc (.cells #[] 66)).heap[wr.heap.size]?=_ from Zd rfl)
      have hy1:Kept wr (wr.alloc (.cells #[] 66)).drew:=((Kept.refl wr).alloc _).drew
      generalize (wr.alloc (.cells #[] 66)).drew=y1 at hE hHeld hy1 ⊢
      refine take_oneR (i:=17) rfl (by kernel_rfl) (fun K hK=>?_)
      obtain ⟨o',c',y2,hr,hcb,hk2⟩:=ops_copied wr.heap.size wr y1 (.slice oc M cc) f.code ((un HCV).kept hHeld) (by have:=un HM; have:=un HCL; omega) hE (Nat.le_refl _) hy1
      rw [un HM] at hr hcb
      refine step_appR _ rfl (.tmp 22) (.tmp 27) 68 rfl rfl rfl hr ?_
      simp only [PS]
      refine hK.out _ _ ((un HKW).trans hk2) (fun hHeld=>?_)
      clear hK K hr hE
      refine take_oneR (i:=18) rfl (by kernel_rfl) (fun K hK=>?_)
      go_simp
      refine hK.out _ _ hHeld (fun hHeld=>?_)
      clear hK K
      try simp only [PS]
      refine take_oneR (i:=19) rfl (by kernel_rfl) (fun K hK=>?_)
      go_simp
      refine hK.out _ _ (hHeld.alloc _) (fun hHeld=>?_)
      clear hK K
      try simp only [PS]
      refine take_oneR (i:=20) rfl (by kernel_rfl) (fun K hK=>?_)
      obtain ⟨o4,c4,y4,hr,ho4⟩:=OwnP.more ((un HOr).kept hk2) (un HF) (by omega) hcb
      refine step_appR _ rfl (.tmp 11) (.tmp 30) 22 rfl rfl rfl hr ?_
      simp only [PS]
      obtain ⟨_,_,_,_,_,hk4⟩:=id ho4
      refine hK.out _ _ hk4 (fun hHeld=>?_)
      have HO4:=hide ho4
      clear hK K hr ho4 hcb hk2 HOr x0 x1 x2
      refine Xa [21] ?_
      refine Zz (v:=?_) hHeld (fun u hSu=>?_) ?_
      rotate_left
      · go_simp <;> with_reducible rfl
      try simp only [PS]
      refine endY ?_
      refine wpAnyH_done (by kernel_rfl) ?_ _
      clear hHeld
      go_wp2_with fail
      go_roundw
      case rel=>exact ⟨k + 1,o4,c4,by omega,rfl,by go_num,HO4⟩
      case measure=>simp [intOf]; omega
    · obtain rfl:k=n:=by omega
      go_wp2
      go_ret
      obtain ⟨_,_,_,_,_,hk4⟩:=un HOr
      refine ⟨_,_,_,rfl,?_,hk4⟩
      have h:=un HOr
      rw [← un HN] at h ⊢
      exact h.prog (by rw [un HN]; exact h5) (un HC)
theorem begin_ok {lo:Nat} {w w':World} {e:Ending} (hlo:lo≤1000) (h:BegNew lo w e w'):∃ oa n cap c oo m co,e=.returned (.tuple (#[.agg #[.slice oa n cap,.int .i64 c,.slice oo m co]]++[Value.int .i64 0].toArray))∧StAt w' (.agg #[.slice oa n cap,.int .i64 c,.slice oo m co]) ⟨[⟨[⟨0,0,List.replicate lo 0,[]⟩],-1⟩],0,[]⟩∧FbsOk w' w.heap.size (.slice oa n cap)∧IntsOk w' w.heap.size (.slice oo m co)∧Kept w w':=by
  obtain ⟨b1,b2,b3,rfl,l1,l2,l3,h1,h2,h3,hk⟩:=h
  refine ⟨_,_,_,_,_,_,_,rfl,begin_at h1 h2 h3 hlo,⟨_,_,_,rfl,fun _=>⟨b3,_,rfl,l3,h3,by omega,fun k hk=>?_⟩⟩,IntsOk.nil _ _,hk⟩
  obtain rfl:k=0:=by omega
  refine ⟨_,_,rfl,rfl,_,_,_,rfl,fun _=>⟨b2,_,rfl,l2,h2,by omega,fun j hj=>?_⟩⟩
  obtain rfl:j=0:=by omega
  exact ⟨_,_,_,_,rfl,rfl,rfl,rfl,⟨_,_,_,rfl,fun _=>⟨b1,_,rfl,l1,h1,by simp [ints],by omega⟩⟩,IntsOk.nil _ _⟩
end Go.Proofs.YtblihfpigjiahaaGreatDoor
