/- SaveOnW -/
import Derived.Test.YtblihfpigjiahaaGreatDoorYB11
import Derived.Test.YtblihfpigjiahaaGreatDoorYB38
import Derived.Test.YtblihfpigjiahaaGreatDoorYB48
import Derived.Laws.Strings
import Derived.Deep.DeepCutAuto
set_option maxRecDepth 100000
set_option maxHeartbeats 8000000
namespace Go.Proofs.YtblihfpigjiahaaGreatDoor
open Go.RowKit
theorem Zev {P:Program} {md:Region.Mode} {Q:Exit→Act→World→Prop} {S:World→Prop} {L tl tl':List Oper} {i k:Nat} {oi ok:Oper} {fuel:Nat} {listed:Array Bool} {a:Act} {w:World} (hd:L.drop i=oi :: tl) (hd':L.drop k=ok :: tl')
  (hr:Region.ready md L.toArray listed=[i,k])
  (h:∀ K':Act→World→Prop,Shut (∀ a w,S w→(S w→wpAnyH P md L.toArray Q S fuel (listed.setIfInBounds i true) a w)→K' a w)→if Region.wanted oi (yielded L.toArray a.tmps)=true then Oper.wp P oi a w K' Q else K' (a.put oi.dst undef) w)
  (h':∀ K':Act→World→Prop,Shut (∀ a w,S w→(S w→wpAnyH P md L.toArray Q S fuel (listed.setIfInBounds k true) a w)→K' a w)→if Region.wanted ok (yielded L.toArray a.tmps)=true then Oper.wp P ok a w K' Q else K' (a.put ok.dst undef) w) :
  wpAnyH P md L.toArray Q S (fuel+1) listed a w :=
 wpAnyH_ready hr (by simp) (AllReadyH.cons (Up hd) h (AllReadyH.cons (Up hd') h' AllReadyH.nil))
theorem Zmm (vp:Value) (w:World) (oa oo:Option Addr) (n cap m co:Nat) (c fu er:Int) (l:List UInt8) (hz:er≠0∨8192<l.length)
  (HW:Hid (∀ u,Za w u→Calls Tryz.prog 5 #[vp,.agg #[.slice oa n cap,.int .i64 c,.slice oo m co]] u fun e w'=>e=.returned (.tuple #[.string ⟨l.toArray⟩,.int .i64 er])∧Za u w'))
  (HSB:Hid (∀ u,Za w u→Calls Tryz.prog 6 #[] u fun e w'=>e=.returned (.bool true)∧Za u w')) :
  Calls Tryz.prog 3 #[vp,.agg #[.slice oa n cap,.int .i64 c,.slice oo m co],.int .i64 fu] w fun e w'=>e=.returned (.bool true)∧Za w w':=by
 have hsz:(ByteArray.mk l.toArray).size=l.length:=by simp [ByteArray.size]
 generalize (ByteArray.mk l.toArray)=S at *
 generalize l.length=N at *
 go_enter Tryz.func3,Tryz.ntmps3
 go_wp2_with fail
 obtain ⟨k9,l9⟩:=Zbk (Za.refl w) #[.slice oa n cap,.int .i64 c,.slice oo m co] 26
 generalize w.alloc (.cells #[.slice oa n cap,.int .i64 c,.slice oo m co] 26)=w1 at *
 generalize w.heap.size=B0 at *
 have HK:=Zb k9
 clear k9 l9
 refine ((un HW) _ (un HK)).mono ?_
 rintro _ w2 ⟨rfl,hk⟩
 replace HK:=Zb ((un HK).trans hk)
 clear hk HW
 by_cases he:er=0
 ·subst he
  have h8:(8192:Int)<(N:Int):=by omega
  clear hz
  go_wp2_with fail
  refine ((un HSB) _ (un HK)).mono ?_
  rintro _ w3 ⟨rfl,hk⟩
  replace HK:=Zb ((un HK).trans hk)
  clear hk
  go_wp2_with fail
  go_ret
  exact ⟨rfl,un HK⟩
 ·have hb:(er != 0)=true:=bne_iff_ne.2 he
  clear hz he
  go_wp2_with fail
  refine ((un HSB) _ (un HK)).mono ?_
  rintro _ w3 ⟨rfl,hk⟩
  replace HK:=Zb ((un HK).trans hk)
  clear hk
  go_wp2_with fail
  go_ret
  exact ⟨rfl,un HK⟩
theorem Zuw (vp:Value) (w:World) (oa oo:Option Addr) (n cap m co:Nat) (c fu fl:Int) (l:List UInt8) (hl:l.length≤8192) (s s2:St) (k2:Nat) (e2:Int) (hs:Hid (Xo w (.agg #[.slice oa n cap,.int .i64 c,.slice oo m co]) s))
  (HW:Hid (∀ u,Za w u→Calls Tryz.prog 5 #[vp,.agg #[.slice oa n cap,.int .i64 c,.slice oo m co]] u fun e w'=>e=.returned (.tuple #[.string ⟨l.toArray⟩,.int .i64 0])∧Za u w'))
  (HR:Hid (∀ u,Za w u→Po 7 #[vp,.string ⟨l.toArray⟩] u s [.int .i64 0]))
  (HCH:Hid (∀ u,Calls Tryz.prog 9 #[.int .i64 fu,.int .i64 501] u fun e w'=>e=.returned (.int .i64 fl)∧w'=u))
  (HRN:Hid (∀ u v,Za w u→Xo u v s→Calls Tryz.prog 8 #[vp,v,.int .i64 fl] u fun e w'=>∃ oa n cap c oo m co,e=.returned (.tuple #[.agg #[.slice oa n cap,.int .i64 c,.slice oo m co],.int .i64 k2,.int .i64 e2])∧(∀ x:World,(∀ b,u.heap.size≤b→x.heap[b]?=w'.heap[b]?)→Xo x (.agg #[.slice oa n cap,.int .i64 c,.slice oo m co]) s2)∧Za u w'))
  (HSS:Hid (∀ u v1 v2,Xo u v1 s2→Xo u v2 s2→Calls Tryz.prog 10 #[v1,v2] u fun e w'=>e=.returned (.bool true)∧Za u w'))
  (HSB:Hid (∀ u,Za w u→Calls Tryz.prog 6 #[] u fun e w'=>e=.returned (.bool true)∧Za u w')) :
  Calls Tryz.prog 3 #[vp,.agg #[.slice oa n cap,.int .i64 c,.slice oo m co],.int .i64 fu] w fun e w'=>e=.returned (.bool true)∧Za w w':=by
 have hsz:(ByteArray.mk l.toArray).size=l.length:=by simp [ByteArray.size]
 have h8:¬ (8192:Int)<(l.length:Int):=by omega
 have be:(e2 == e2)=true:=by simp
 have bk:((k2:Int) == (k2:Int))=true:=by simp
 generalize (ByteArray.mk l.toArray)=S at *
 generalize l.length=N at *
 unfold Po at HR
 clear hl
 go_enter Tryz.func3,Tryz.ntmps3
 go_wp2_with fail
 obtain ⟨k9,l9⟩:=Zbk (Za.refl w) #[.slice oa n cap,.int .i64 c,.slice oo m co] 26
 generalize w.alloc (.cells #[.slice oa n cap,.int .i64 c,.slice oo m co] 26)=w1 at *
 generalize w.heap.size=B0 at *
 have HK:=Zb k9
 have HL:=Zb l9
 clear k9 l9
 refine ((un HW) _ (un HK)).mono ?_
 rintro _ w2 ⟨rfl,hk⟩
 replace HK:=Zb ((un HK).trans hk)
 replace HL:=Zb (Zn hk (un HL))
 clear hk HW
 go_wp2_with fail
 refine ((un HR) _ (un HK)).mono ?_
 rintro _ w3 ⟨ob,nb,cb,zb,qb,mb,db,rfl,hb,hk⟩
 replace HK:=Zb ((un HK).trans hk)
 replace HL:=Zb (Zn hk (un HL))
 have HS:=Zb hb
 clear hk hb HR
 go_wp2_with fail
 obtain ⟨k9,l9⟩:=Zbk (Za.refl w3) #[.slice ob nb cb,.int .i64 zb,.slice qb mb db] 26
 generalize w3.alloc (.cells #[.slice ob nb cb,.int .i64 zb,.slice qb mb db] 26)=w4 at *
 generalize w3.heap.size=B3 at *
 replace HK:=Zb ((un HK).trans k9)
 replace HL:=Zb (Zn k9 (un HL))
 replace HS:=Zb ((un HS).kept k9)
 have HB:=Zb l9
 clear k9 l9 hsz h8
 have x0:=Zd (un HL) 0
 have x1:=Zd (un HL) 1
 have x2:=Zd (un HL) 2
 simp only [List.getElem?_toArray,List.getElem?_cons_zero,List.getElem?_cons_succ] at x0 x1 x2
 go_cut [11,12,13] (fun s11 s12 s13 wx=>∃ (B:Nat) (o5:Option Addr) (n5 c5:Nat) (z5:Int) (q5:Option Addr) (m5 d5:Nat),s11=.pointer (some ⟨B,0,none⟩)∧s12=.int .i64 k2∧s13=.int .i64 e2∧Hid (wx.heap[B]?=some (.cells #[.slice o5 n5 c5,.int .i64 z5,.slice q5 m5 d5] 26)∧Xo wx (.agg #[.slice o5 n5 c5,.int .i64 z5,.slice q5 m5 d5]) s2∧Za w4 wx))
 case first =>
  refine wp_region_held_drew (S:=fun y=>Za w4 y) (by kernel_rfl) ((Za.refl w4).drew) (fun hHeld=>?_)
  refine Xf [0,1,2] ?_
  repeat
   refine Xb (v:=?_) hHeld (fun u hSu=>?_) ?_
   rotate_left
   ·(have y0:=Za.cell hSu x0;have y1:=Za.cell hSu x1;have y2:=Za.cell hSu x2;(try dsimp only at y0 y1 y2);go_simp) <;> with_reducible rfl
   try simp only [PS]
  refine Xe ?_
  clear x0 x1 x2
  refine Zev (i:=3) (k:=9) rfl rfl (by kernel_rfl) (fun K hK=>?_) (fun K hK=>?_)
  ·skip
   go_simp
   refine ((un HCH) _).mono ?_
   rintro _ _ ⟨rfl,rfl⟩
   refine hK.out _ _ ((Za.refl w4).drew) (fun hHeld=>?_)
   clear hK K
   try simp only [PS]
   refine Zev (i:=4) (k:=9) rfl rfl (by kernel_rfl) (fun K hK=>?_) (fun K hK=>?_)
   ·skip
    go_simp
    refine ((un HRN) _ _ ((un HK).trans ((Za.refl w4).drew)) (((un hs).kept (un HK)).kept ((Za.refl w4).drew))).mono ?_
    rintro _ w5 ⟨o5,n5,c5,z5,q5,m5,d5,rfl,hf,hk⟩
    have hk5:Za w4 w5:=((Za.refl w4).drew).trans hk
    refine hK.out _ _ hk5 (fun hHeld=>?_)
    clear hK K
    try simp only [PS]
    refine Xf [5,6,7,8] ?_
    repeat
     refine Xb (v:=?_) hHeld (fun u hSu=>?_) ?_
     rotate_left
     ·go_simp <;> with_reducible rfl
     try simp only [PS]
    refine Xe ?_
    refine Ys (i:=9) rfl (by kernel_rfl) (fun K hK=>?_)
    go_simp
    refine hK.out _ _ (hHeld.alloc _) (fun hHeld=>?_)
    clear hK K
    try simp only [PS]
    have hZ5:(w5.alloc (.cells #[.slice none 0 0,.int .i64 0,.slice none 0 0] 26)).heap[w5.heap.size]?=some (.cells #[.slice none 0 0,.int .i64 0,.slice none 0 0] 26):=Zh rfl
    have hkY:Za w4 (w5.alloc (.cells #[.slice none 0 0,.int .i64 0,.slice none 0 0] 26)):=hk5.alloc _
    have hA:=(hf w5 (fun _ _=>rfl)).kept ((((Za.refl w5).alloc (.cells #[.slice none 0 0,.int .i64 0,.slice none 0 0] 26)).setCell (p:=⟨w5.heap.size,0,none⟩) (Nat.le_refl _) (.slice o5 n5 c5)).setCell (p:=⟨w5.heap.size,1,none⟩) (Nat.le_refl _) (.int .i64 z5) |>.setCell (p:=⟨w5.heap.size,2,none⟩) (Nat.le_refl _) (.slice q5 m5 d5))
    have hB0:w4.heap.size≤w5.heap.size:=hk5.size
    generalize w5.alloc (.cells #[.slice none 0 0,.int .i64 0,.slice none 0 0] 26)=y5 at hZ5 hkY hA hHeld ⊢
    generalize w5.heap.size=B at hZ5 hA hB0 ⊢
    have x0:=Zd hZ5 0
    have x1:=Zd hZ5 1
    have x2:=Zd hZ5 2
    simp only [List.getElem?_toArray,List.getElem?_cons_zero,List.getElem?_cons_succ] at x0 x1 x2
    have f0:=Zk hZ5 0
    have f1:=Zk hZ5 1
    have f2:=Zk hZ5 2
    have l3:=Zm (Zm (Zm hZ5 0 (.slice o5 n5 c5)) 1 (.int .i64 z5)) 2 (.slice q5 m5 d5)
    have hkf:=((hkY.setCell (p:=⟨B,0,none⟩) hB0 (.slice o5 n5 c5)).setCell (p:=⟨B,1,none⟩) hB0 (.int .i64 z5)).setCell (p:=⟨B,2,none⟩) hB0 (.slice q5 m5 d5)
    have HF:=Zb (And.intro l3 (And.intro hA hkf))
    clear l3 hkf hA
    refine Ys (i:=10) rfl (by kernel_rfl) (fun K hK=>?_)
    go_simp
    refine hK.out _ _ (un HF).2.2 (fun hHeld=>?_)
    clear hK K x0 x1 x2 f0 f1 f2
    try simp only [PS]
    refine Xf [11,12] ?_
    repeat
     refine Xb (v:=?_) hHeld (fun u hSu=>?_) ?_
     rotate_left
     ·go_simp <;> with_reducible rfl
     try simp only [PS]
    refine Xe ?_
    refine wpAnyH_done (by kernel_rfl) ?_ _
    clear hHeld
    go_wp2_with fail
    go_meet
    exact ⟨B,o5,n5,c5,z5,q5,m5,d5,rfl,rfl,rfl,HF⟩
   ·skip
    go_simp
    refine hK.out _ _ (((Za.refl w4).alloc _).drew) (fun hHeld=>?_)
    clear hK K
    try simp only [PS]
    have hZ:(w4.alloc (.cells #[.slice none 0 0,.int .i64 0,.slice none 0 0] 26)).drew.heap[w4.heap.size]?=some (.cells #[.slice none 0 0,.int .i64 0,.slice none 0 0] 26):=(show (w4.alloc (.cells #[.slice none 0 0,.int .i64 0,.slice none 0 0] 26)).heap[w4.heap.size]?=_ from Zh rfl)
    have hKa:Za w4 (w4.alloc (.cells #[.slice none 0 0,.int .i64 0,.slice none 0 0] 26)).drew:=((Za.refl w4).alloc _).drew
    generalize (w4.alloc (.cells #[.slice none 0 0,.int .i64 0,.slice none 0 0] 26)).drew=ya at hZ hKa hHeld ⊢
    generalize hBB:w4.heap.size=B at hZ ⊢
    have hB0:w4.heap.size≤B:=by omega
    clear hBB
    refine Ys (i:=4) rfl (by kernel_rfl) (fun K hK=>?_)
    go_simp
    refine ((un HRN) _ _ ((un HK).trans hKa) (((un hs).kept (un HK)).kept hKa)).mono ?_
    rintro _ w5 ⟨o5,n5,c5,z5,q5,m5,d5,rfl,hf,hk⟩
    have hk5:Za w4 w5:=hKa.trans hk
    refine hK.out _ _ hk5 (fun hHeld=>?_)
    clear hK K
    try simp only [PS]
    refine Xf [5,6,7,8] ?_
    repeat
     refine Xb (v:=?_) hHeld (fun u hSu=>?_) ?_
     rotate_left
     ·go_simp <;> with_reducible rfl
     try simp only [PS]
    refine Xe ?_
    have hZ5:=Zn hk hZ
    have hBl:B<ya.heap.size:=(Array.getElem?_eq_some_iff.1 hZ).1
    have hA:=hf (((w5.setCell ⟨B,0,none⟩ (.slice o5 n5 c5)).setCell ⟨B,1,none⟩ (.int .i64 z5)).setCell ⟨B,2,none⟩ (.slice q5 m5 d5)) (fun b hb=>by rw [Below.heap_setCell _ _ _ _ (by show b≠B;omega),Below.heap_setCell _ _ _ _ (by show b≠B;omega),Below.heap_setCell _ _ _ _ (by show b≠B;omega)])
    have hkY:=hk5
    have x0:=Zd hZ5 0
    have x1:=Zd hZ5 1
    have x2:=Zd hZ5 2
    simp only [List.getElem?_toArray,List.getElem?_cons_zero,List.getElem?_cons_succ] at x0 x1 x2
    have f0:=Zk hZ5 0
    have f1:=Zk hZ5 1
    have f2:=Zk hZ5 2
    have l3:=Zm (Zm (Zm hZ5 0 (.slice o5 n5 c5)) 1 (.int .i64 z5)) 2 (.slice q5 m5 d5)
    have hkf:=((hkY.setCell (p:=⟨B,0,none⟩) hB0 (.slice o5 n5 c5)).setCell (p:=⟨B,1,none⟩) hB0 (.int .i64 z5)).setCell (p:=⟨B,2,none⟩) hB0 (.slice q5 m5 d5)
    have HF:=Zb (And.intro l3 (And.intro hA hkf))
    clear l3 hkf hA
    refine Ys (i:=10) rfl (by kernel_rfl) (fun K hK=>?_)
    go_simp
    refine hK.out _ _ (un HF).2.2 (fun hHeld=>?_)
    clear hK K x0 x1 x2 f0 f1 f2
    try simp only [PS]
    refine Xf [11,12] ?_
    repeat
     refine Xb (v:=?_) hHeld (fun u hSu=>?_) ?_
     rotate_left
     ·go_simp <;> with_reducible rfl
     try simp only [PS]
    refine Xe ?_
    refine wpAnyH_done (by kernel_rfl) ?_ _
    clear hHeld
    go_wp2_with fail
    go_meet
    exact ⟨B,o5,n5,c5,z5,q5,m5,d5,rfl,rfl,rfl,HF⟩
  ·skip
   go_simp
   refine hK.out _ _ (((Za.refl w4).alloc _).drew) (fun hHeld=>?_)
   clear hK K
   try simp only [PS]
   have hZ:(w4.alloc (.cells #[.slice none 0 0,.int .i64 0,.slice none 0 0] 26)).drew.heap[w4.heap.size]?=some (.cells #[.slice none 0 0,.int .i64 0,.slice none 0 0] 26):=(show (w4.alloc (.cells #[.slice none 0 0,.int .i64 0,.slice none 0 0] 26)).heap[w4.heap.size]?=_ from Zh rfl)
   have hKa:Za w4 (w4.alloc (.cells #[.slice none 0 0,.int .i64 0,.slice none 0 0] 26)).drew:=((Za.refl w4).alloc _).drew
   generalize (w4.alloc (.cells #[.slice none 0 0,.int .i64 0,.slice none 0 0] 26)).drew=ya at hZ hKa hHeld ⊢
   generalize hBB:w4.heap.size=B at hZ ⊢
   have hB0:w4.heap.size≤B:=by omega
   clear hBB
   refine Ys (i:=3) rfl (by kernel_rfl) (fun K hK=>?_)
   go_simp
   refine ((un HCH) _).mono ?_
   rintro _ ya ⟨rfl,rfl⟩
   refine hK.out _ _ hHeld (fun hHeld=>?_)
   clear hK K
   try simp only [PS]
   refine Ys (i:=4) rfl (by kernel_rfl) (fun K hK=>?_)
   go_simp
   refine ((un HRN) _ _ ((un HK).trans hKa) (((un hs).kept (un HK)).kept hKa)).mono ?_
   rintro _ w5 ⟨o5,n5,c5,z5,q5,m5,d5,rfl,hf,hk⟩
   have hk5:Za w4 w5:=hKa.trans hk
   refine hK.out _ _ hk5 (fun hHeld=>?_)
   clear hK K
   try simp only [PS]
   refine Xf [5,6,7,8] ?_
   repeat
    refine Xb (v:=?_) hHeld (fun u hSu=>?_) ?_
    rotate_left
    ·go_simp <;> with_reducible rfl
    try simp only [PS]
   refine Xe ?_
   have hZ5:=Zn hk hZ
   have hBl:B<ya.heap.size:=(Array.getElem?_eq_some_iff.1 hZ).1
   have hA:=hf (((w5.setCell ⟨B,0,none⟩ (.slice o5 n5 c5)).setCell ⟨B,1,none⟩ (.int .i64 z5)).setCell ⟨B,2,none⟩ (.slice q5 m5 d5)) (fun b hb=>by rw [Below.heap_setCell _ _ _ _ (by show b≠B;omega),Below.heap_setCell _ _ _ _ (by show b≠B;omega),Below.heap_setCell _ _ _ _ (by show b≠B;omega)])
   have hkY:=hk5
   have x0:=Zd hZ5 0
   have x1:=Zd hZ5 1
   have x2:=Zd hZ5 2
   simp only [List.getElem?_toArray,List.getElem?_cons_zero,List.getElem?_cons_succ] at x0 x1 x2
   have f0:=Zk hZ5 0
   have f1:=Zk hZ5 1
   have f2:=Zk hZ5 2
   have l3:=Zm (Zm (Zm hZ5 0 (.slice o5 n5 c5)) 1 (.int .i64 z5)) 2 (.slice q5 m5 d5)
   have hkf:=((hkY.setCell (p:=⟨B,0,none⟩) hB0 (.slice o5 n5 c5)).setCell (p:=⟨B,1,none⟩) hB0 (.int .i64 z5)).setCell (p:=⟨B,2,none⟩) hB0 (.slice q5 m5 d5)
   have HF:=Zb (And.intro l3 (And.intro hA hkf))
   clear l3 hkf hA
   refine Ys (i:=10) rfl (by kernel_rfl) (fun K hK=>?_)
   go_simp
   refine hK.out _ _ (un HF).2.2 (fun hHeld=>?_)
   clear hK K x0 x1 x2 f0 f1 f2
   try simp only [PS]
   refine Xf [11,12] ?_
   repeat
    refine Xb (v:=?_) hHeld (fun u hSu=>?_) ?_
    rotate_left
    ·go_simp <;> with_reducible rfl
    try simp only [PS]
   refine Xe ?_
   refine wpAnyH_done (by kernel_rfl) ?_ _
   clear hHeld
   go_wp2_with fail
   go_meet
   exact ⟨B,o5,n5,c5,z5,q5,m5,d5,rfl,rfl,rfl,HF⟩
 case rest =>
  obtain ⟨B5,o5,n5,c5,z5,q5,m5,d5,rfl,rfl,rfl,HX⟩:=hcut
  obtain ⟨g1,g2,g3⟩:=un HX
  replace HK:=Zb ((un HK).trans g3)
  replace HB:=Zb (Zn g3 (un HB))
  replace HS:=Zb ((un HS).kept g3)
  have HL5:=Zb g1
  have HS5:=Zb g2
  clear g1 g2 g3 HX x0 x1 x2 HL
  go_wp2_with fail
  have x0:=Zd (un HB) 0
  have x1:=Zd (un HB) 1
  have x2:=Zd (un HB) 2
  simp only [List.getElem?_toArray,List.getElem?_cons_zero,List.getElem?_cons_succ] at x0 x1 x2
  go_cut [14,15,16] (fun s14 s15 s16 wx=>∃ (B:Nat) (o5:Option Addr) (n5 c5:Nat) (z5:Int) (q5:Option Addr) (m5 d5:Nat),s14=.pointer (some ⟨B,0,none⟩)∧s15=.int .i64 k2∧s16=.int .i64 e2∧Hid (wx.heap[B]?=some (.cells #[.slice o5 n5 c5,.int .i64 z5,.slice q5 m5 d5] 26)∧Xo wx (.agg #[.slice o5 n5 c5,.int .i64 z5,.slice q5 m5 d5]) s2∧Za wc wx))
  case first =>
   refine wp_region_held_drew (S:=fun y=>Za wc y) (by kernel_rfl) ((Za.refl wc).drew) (fun hHeld=>?_)
   refine Xf [0,1,2] ?_
   repeat
    refine Xb (v:=?_) hHeld (fun u hSu=>?_) ?_
    rotate_left
    ·(have y0:=Za.cell hSu x0;have y1:=Za.cell hSu x1;have y2:=Za.cell hSu x2;(try dsimp only at y0 y1 y2);go_simp) <;> with_reducible rfl
    try simp only [PS]
   refine Xe ?_
   clear x0 x1 x2
   refine Zev (i:=3) (k:=9) rfl rfl (by kernel_rfl) (fun K hK=>?_) (fun K hK=>?_)
   ·skip
    go_simp
    refine ((un HCH) _).mono ?_
    rintro _ _ ⟨rfl,rfl⟩
    refine hK.out _ _ ((Za.refl wc).drew) (fun hHeld=>?_)
    clear hK K
    try simp only [PS]
    refine Zev (i:=4) (k:=9) rfl rfl (by kernel_rfl) (fun K hK=>?_) (fun K hK=>?_)
    ·skip
     go_simp
     refine ((un HRN) _ _ ((un HK).trans ((Za.refl wc).drew)) ((un HS).kept ((Za.refl wc).drew))).mono ?_
     rintro _ w5 ⟨o5,n5,c5,z5,q5,m5,d5,rfl,hf,hk⟩
     have hk5:Za wc w5:=((Za.refl wc).drew).trans hk
     refine hK.out _ _ hk5 (fun hHeld=>?_)
     clear hK K
     try simp only [PS]
     refine Xf [5,6,7,8] ?_
     repeat
      refine Xb (v:=?_) hHeld (fun u hSu=>?_) ?_
      rotate_left
      ·go_simp <;> with_reducible rfl
      try simp only [PS]
     refine Xe ?_
     refine Ys (i:=9) rfl (by kernel_rfl) (fun K hK=>?_)
     go_simp
     refine hK.out _ _ (hHeld.alloc _) (fun hHeld=>?_)
     clear hK K
     try simp only [PS]
     have hZ5:(w5.alloc (.cells #[.slice none 0 0,.int .i64 0,.slice none 0 0] 26)).heap[w5.heap.size]?=some (.cells #[.slice none 0 0,.int .i64 0,.slice none 0 0] 26):=Zh rfl
     have hkY:Za wc (w5.alloc (.cells #[.slice none 0 0,.int .i64 0,.slice none 0 0] 26)):=hk5.alloc _
     have hA:=(hf w5 (fun _ _=>rfl)).kept ((((Za.refl w5).alloc (.cells #[.slice none 0 0,.int .i64 0,.slice none 0 0] 26)).setCell (p:=⟨w5.heap.size,0,none⟩) (Nat.le_refl _) (.slice o5 n5 c5)).setCell (p:=⟨w5.heap.size,1,none⟩) (Nat.le_refl _) (.int .i64 z5) |>.setCell (p:=⟨w5.heap.size,2,none⟩) (Nat.le_refl _) (.slice q5 m5 d5))
     have hB0:wc.heap.size≤w5.heap.size:=hk5.size
     generalize w5.alloc (.cells #[.slice none 0 0,.int .i64 0,.slice none 0 0] 26)=y5 at hZ5 hkY hA hHeld ⊢
     generalize w5.heap.size=B at hZ5 hA hB0 ⊢
     have x0:=Zd hZ5 0
     have x1:=Zd hZ5 1
     have x2:=Zd hZ5 2
     simp only [List.getElem?_toArray,List.getElem?_cons_zero,List.getElem?_cons_succ] at x0 x1 x2
     have f0:=Zk hZ5 0
     have f1:=Zk hZ5 1
     have f2:=Zk hZ5 2
     have l3:=Zm (Zm (Zm hZ5 0 (.slice o5 n5 c5)) 1 (.int .i64 z5)) 2 (.slice q5 m5 d5)
     have hkf:=((hkY.setCell (p:=⟨B,0,none⟩) hB0 (.slice o5 n5 c5)).setCell (p:=⟨B,1,none⟩) hB0 (.int .i64 z5)).setCell (p:=⟨B,2,none⟩) hB0 (.slice q5 m5 d5)
     have HF:=Zb (And.intro l3 (And.intro hA hkf))
     clear l3 hkf hA
     refine Ys (i:=10) rfl (by kernel_rfl) (fun K hK=>?_)
     go_simp
     refine hK.out _ _ (un HF).2.2 (fun hHeld=>?_)
     clear hK K x0 x1 x2 f0 f1 f2
     try simp only [PS]
     refine Xf [11,12] ?_
     repeat
      refine Xb (v:=?_) hHeld (fun u hSu=>?_) ?_
      rotate_left
      ·go_simp <;> with_reducible rfl
      try simp only [PS]
     refine Xe ?_
     refine wpAnyH_done (by kernel_rfl) ?_ _
     clear hHeld
     go_wp2_with fail
     go_meet
     exact ⟨B,o5,n5,c5,z5,q5,m5,d5,rfl,rfl,rfl,HF⟩
    ·skip
     go_simp
     refine hK.out _ _ (((Za.refl wc).alloc _).drew) (fun hHeld=>?_)
     clear hK K
     try simp only [PS]
     have hZ:(wc.alloc (.cells #[.slice none 0 0,.int .i64 0,.slice none 0 0] 26)).drew.heap[wc.heap.size]?=some (.cells #[.slice none 0 0,.int .i64 0,.slice none 0 0] 26):=(show (wc.alloc (.cells #[.slice none 0 0,.int .i64 0,.slice none 0 0] 26)).heap[wc.heap.size]?=_ from Zh rfl)
     have hKa:Za wc (wc.alloc (.cells #[.slice none 0 0,.int .i64 0,.slice none 0 0] 26)).drew:=((Za.refl wc).alloc _).drew
     generalize (wc.alloc (.cells #[.slice none 0 0,.int .i64 0,.slice none 0 0] 26)).drew=ya at hZ hKa hHeld ⊢
     generalize hBB:wc.heap.size=B at hZ ⊢
     have hB0:wc.heap.size≤B:=by omega
     clear hBB
     refine Ys (i:=4) rfl (by kernel_rfl) (fun K hK=>?_)
     go_simp
     refine ((un HRN) _ _ ((un HK).trans hKa) ((un HS).kept hKa)).mono ?_
     rintro _ w5 ⟨o5,n5,c5,z5,q5,m5,d5,rfl,hf,hk⟩
     have hk5:Za wc w5:=hKa.trans hk
     refine hK.out _ _ hk5 (fun hHeld=>?_)
     clear hK K
     try simp only [PS]
     refine Xf [5,6,7,8] ?_
     repeat
      refine Xb (v:=?_) hHeld (fun u hSu=>?_) ?_
      rotate_left
      ·go_simp <;> with_reducible rfl
      try simp only [PS]
     refine Xe ?_
     have hZ5:=Zn hk hZ
     have hBl:B<ya.heap.size:=(Array.getElem?_eq_some_iff.1 hZ).1
     have hA:=hf (((w5.setCell ⟨B,0,none⟩ (.slice o5 n5 c5)).setCell ⟨B,1,none⟩ (.int .i64 z5)).setCell ⟨B,2,none⟩ (.slice q5 m5 d5)) (fun b hb=>by rw [Below.heap_setCell _ _ _ _ (by show b≠B;omega),Below.heap_setCell _ _ _ _ (by show b≠B;omega),Below.heap_setCell _ _ _ _ (by show b≠B;omega)])
     have hkY:=hk5
     have x0:=Zd hZ5 0
     have x1:=Zd hZ5 1
     have x2:=Zd hZ5 2
     simp only [List.getElem?_toArray,List.getElem?_cons_zero,List.getElem?_cons_succ] at x0 x1 x2
     have f0:=Zk hZ5 0
     have f1:=Zk hZ5 1
     have f2:=Zk hZ5 2
     have l3:=Zm (Zm (Zm hZ5 0 (.slice o5 n5 c5)) 1 (.int .i64 z5)) 2 (.slice q5 m5 d5)
     have hkf:=((hkY.setCell (p:=⟨B,0,none⟩) hB0 (.slice o5 n5 c5)).setCell (p:=⟨B,1,none⟩) hB0 (.int .i64 z5)).setCell (p:=⟨B,2,none⟩) hB0 (.slice q5 m5 d5)
     have HF:=Zb (And.intro l3 (And.intro hA hkf))
     clear l3 hkf hA
     refine Ys (i:=10) rfl (by kernel_rfl) (fun K hK=>?_)
     go_simp
     refine hK.out _ _ (un HF).2.2 (fun hHeld=>?_)
     clear hK K x0 x1 x2 f0 f1 f2
     try simp only [PS]
     refine Xf [11,12] ?_
     repeat
      refine Xb (v:=?_) hHeld (fun u hSu=>?_) ?_
      rotate_left
      ·go_simp <;> with_reducible rfl
      try simp only [PS]
     refine Xe ?_
     refine wpAnyH_done (by kernel_rfl) ?_ _
     clear hHeld
     go_wp2_with fail
     go_meet
     exact ⟨B,o5,n5,c5,z5,q5,m5,d5,rfl,rfl,rfl,HF⟩
   ·skip
    go_simp
    refine hK.out _ _ (((Za.refl wc).alloc _).drew) (fun hHeld=>?_)
    clear hK K
    try simp only [PS]
    have hZ:(wc.alloc (.cells #[.slice none 0 0,.int .i64 0,.slice none 0 0] 26)).drew.heap[wc.heap.size]?=some (.cells #[.slice none 0 0,.int .i64 0,.slice none 0 0] 26):=(show (wc.alloc (.cells #[.slice none 0 0,.int .i64 0,.slice none 0 0] 26)).heap[wc.heap.size]?=_ from Zh rfl)
    have hKa:Za wc (wc.alloc (.cells #[.slice none 0 0,.int .i64 0,.slice none 0 0] 26)).drew:=((Za.refl wc).alloc _).drew
    generalize (wc.alloc (.cells #[.slice none 0 0,.int .i64 0,.slice none 0 0] 26)).drew=ya at hZ hKa hHeld ⊢
    generalize hBB:wc.heap.size=B at hZ ⊢
    have hB0:wc.heap.size≤B:=by omega
    clear hBB
    refine Ys (i:=3) rfl (by kernel_rfl) (fun K hK=>?_)
    go_simp
    refine ((un HCH) _).mono ?_
    rintro _ ya ⟨rfl,rfl⟩
    refine hK.out _ _ hHeld (fun hHeld=>?_)
    clear hK K
    try simp only [PS]
    refine Ys (i:=4) rfl (by kernel_rfl) (fun K hK=>?_)
    go_simp
    refine ((un HRN) _ _ ((un HK).trans hKa) ((un HS).kept hKa)).mono ?_
    rintro _ w5 ⟨o5,n5,c5,z5,q5,m5,d5,rfl,hf,hk⟩
    have hk5:Za wc w5:=hKa.trans hk
    refine hK.out _ _ hk5 (fun hHeld=>?_)
    clear hK K
    try simp only [PS]
    refine Xf [5,6,7,8] ?_
    repeat
     refine Xb (v:=?_) hHeld (fun u hSu=>?_) ?_
     rotate_left
     ·go_simp <;> with_reducible rfl
     try simp only [PS]
    refine Xe ?_
    have hZ5:=Zn hk hZ
    have hBl:B<ya.heap.size:=(Array.getElem?_eq_some_iff.1 hZ).1
    have hA:=hf (((w5.setCell ⟨B,0,none⟩ (.slice o5 n5 c5)).setCell ⟨B,1,none⟩ (.int .i64 z5)).setCell ⟨B,2,none⟩ (.slice q5 m5 d5)) (fun b hb=>by rw [Below.heap_setCell _ _ _ _ (by show b≠B;omega),Below.heap_setCell _ _ _ _ (by show b≠B;omega),Below.heap_setCell _ _ _ _ (by show b≠B;omega)])
    have hkY:=hk5
    have x0:=Zd hZ5 0
    have x1:=Zd hZ5 1
    have x2:=Zd hZ5 2
    simp only [List.getElem?_toArray,List.getElem?_cons_zero,List.getElem?_cons_succ] at x0 x1 x2
    have f0:=Zk hZ5 0
    have f1:=Zk hZ5 1
    have f2:=Zk hZ5 2
    have l3:=Zm (Zm (Zm hZ5 0 (.slice o5 n5 c5)) 1 (.int .i64 z5)) 2 (.slice q5 m5 d5)
    have hkf:=((hkY.setCell (p:=⟨B,0,none⟩) hB0 (.slice o5 n5 c5)).setCell (p:=⟨B,1,none⟩) hB0 (.int .i64 z5)).setCell (p:=⟨B,2,none⟩) hB0 (.slice q5 m5 d5)
    have HF:=Zb (And.intro l3 (And.intro hA hkf))
    clear l3 hkf hA
    refine Ys (i:=10) rfl (by kernel_rfl) (fun K hK=>?_)
    go_simp
    refine hK.out _ _ (un HF).2.2 (fun hHeld=>?_)
    clear hK K x0 x1 x2 f0 f1 f2
    try simp only [PS]
    refine Xf [11,12] ?_
    repeat
     refine Xb (v:=?_) hHeld (fun u hSu=>?_) ?_
     rotate_left
     ·go_simp <;> with_reducible rfl
     try simp only [PS]
    refine Xe ?_
    refine wpAnyH_done (by kernel_rfl) ?_ _
    clear hHeld
    go_wp2_with fail
    go_meet
    exact ⟨B,o5,n5,c5,z5,q5,m5,d5,rfl,rfl,rfl,HF⟩
  case rest =>
   obtain ⟨B6,o6,n6,c6,z6,q6,m6,d6,rfl,rfl,rfl,HX⟩:=hcut
   obtain ⟨g1,g2,g3⟩:=un HX
   replace HK:=Zb ((un HK).trans g3)
   replace HL5:=Zb (Zn g3 (un HL5))
   replace HS5:=Zb ((un HS5).kept g3)
   have HL6:=Zb g1
   have HS6:=Zb g2
   clear g1 g2 g3 HX x0 x1 x2 HB HS
   go_wp2_with fail
   refine ((un HSB) _ (un HK)).mono ?_
   rintro _ w7 ⟨rfl,hk⟩
   replace HK:=Zb ((un HK).trans hk)
   replace HL5:=Zb (Zn hk (un HL5))
   replace HS5:=Zb ((un HS5).kept hk)
   replace HL6:=Zb (Zn hk (un HL6))
   replace HS6:=Zb ((un HS6).kept hk)
   clear hk
   have a0:=Zd (un HL5) 0
   have a1:=Zd (un HL5) 1
   have a2:=Zd (un HL5) 2
   have b0:=Zd (un HL6) 0
   have b1:=Zd (un HL6) 1
   have b2:=Zd (un HL6) 2
   go_wp2_with fail
   refine ((un HSS) _ _ _ (un HS5) (un HS6)).mono ?_
   rintro _ w8 ⟨rfl,hk⟩
   replace HK:=Zb ((un HK).trans hk)
   clear hk
   go_wp2_with fail
   go_ret
   exact ⟨rfl,un HK⟩
end Go.Proofs.YtblihfpigjiahaaGreatDoor
