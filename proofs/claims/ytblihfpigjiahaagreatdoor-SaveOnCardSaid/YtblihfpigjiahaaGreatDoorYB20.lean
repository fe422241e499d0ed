/- EngP, EngQ, EngR, StateQ -/
import Derived.Test.YtblihfpigjiahaaGreatDoorYB19
import Derived.Test.YtblihfpigjiahaaGreatDoorYB17
import Derived.Deep.RegionHeld3
import Derived.Deep.DeepCutAuto
set_option maxRecDepth 100000
set_option maxHeartbeats 8000000
namespace Go.Proofs.YtblihfpigjiahaaGreatDoor
open Go.RowKit
theorem Zkn {base bs:Nat} {V:Key→Value} {s:St} {w:World} (h:Zg base w bs V s) {i:Nat} (hn:s.now=i) (hr:Zu s i) (oa:Option Addr) (n cp:Nat) :
  ∃ g,(∀ g' cap',V (.frames i)=.slice (some ⟨g',0,none⟩) (Zc s i).frames.length cap'→g=g')∧(∀ u,Zg base u bs V s→Calls Tryz.prog 89 #[eng bs (.slice oa n cp)] u fun e w'=>e=.returned (.pointer (some ⟨g,((Zc s i).frames.length - 1)*4,none⟩))∧Za u w') ∧
   ∀ u,Zg base u bs V s→(∃ y,u.cell? ⟨g,((Zc s i).frames.length - 1)*4+1,none⟩=some y)∧u.frozen? ⟨g,((Zc s i).frames.length - 1)*4+1,none⟩=false∧u.cell? ⟨g,((Zc s i).frames.length - 1)*4+2,none⟩=some (V (.locals i ((Zc s i).frames.length - 1))) ∧
    ∀ a:Int,Zt base bs V s u V (Jk s a) (u.setCell ⟨g,((Zc s i).frames.length - 1)*4+1,none⟩ (.int .i64 a)):=by
 obtain ⟨g,cap,eg,ht⟩:=Zej h hn hr oa n cp
 refine ⟨g,fun g' cap' e=>by rw [eg] at e;exact (by simpa using e:(g=g')∧True∧cap=cap').1,ht,fun u hu=>?_⟩
 have hj:(Zc s i).frames.length - 1<(Zc s i).frames.length:=by have:=hr.fr;omega
 obtain ⟨g',cap',eg',_,f0,f1,f2,f3,ffz,_⟩:=hu.own.fr hr.lt hj
 rw [eg] at eg'
 obtain ⟨⟨rfl⟩,-,rfl⟩:=(by simpa using eg':(g=g')∧True∧cap=cap')
 refine ⟨⟨_,f1⟩,ffz _,f2,fun a=>?_⟩
 rw [Zgk hn]
 exact Zt.setAt hu hr.lt hj eg a
theorem Zjt {base bs:Nat} {V:Key→Value} {s:St} {w:World} (h:Zg base w bs V s) {i:Nat} (hn:s.now=i) (hr:Zu s i) (oa:Option Addr) (n cp:Nat) :
  ∃ g,(∀ u,Zg base u bs V s→Calls Tryz.prog 89 #[eng bs (.slice oa n cp)] u fun e w'=>e=.returned (.pointer (some ⟨g,((Zc s i).frames.length - 1)*4,none⟩))∧Za u w') ∧
   ∀ u,Zg base u bs V s→(∃ y,u.cell? ⟨g,((Zc s i).frames.length - 1)*4+1,none⟩=some y)∧u.frozen? ⟨g,((Zc s i).frames.length - 1)*4+1,none⟩=false∧u.cell? ⟨g,((Zc s i).frames.length - 1)*4+2,none⟩=some (V (.locals i ((Zc s i).frames.length - 1))) ∧
    ∀ a:Int,Zt base bs V s u V (Jk s a) (u.setCell ⟨g,((Zc s i).frames.length - 1)*4+1,none⟩ (.int .i64 a)) :=
 let ⟨g,_,h1,h2⟩:=Zkn h hn hr oa n cp
 ⟨g,h1,h2⟩
theorem Ztf (base bs:Nat) (V:Key→Value) (s:St) (i n cp bp op:Nat) (a:Int) (w:World) (h:Zg base w bs V s) (hn:s.now=i) (hr:Zu s i) :
  Calls Tryz.prog 59 #[eng bs (.slice (some ⟨bp,op,none⟩) n cp),.agg #[.int .i64 9,.int .i64 a]] w (Qj base bs V s (Jk s a,0) w):=by
 obtain ⟨g,ht,hc⟩:=Zjt h hn hr (some ⟨bp,op,none⟩) n cp
 have HTOP:=Zb ht
 have HCEL:=Zb hc
 have HO:=Zb h
 generalize (Zc s i).frames.length - 1=j at *
 clear h hr ht hc
 go_enter Tryz.func59,Tryz.ntmps59
 go_upto_region 21 with fail
 generalize hwb:(w.alloc (.cells #[.pointer (some ⟨bs,0,none⟩),.slice (some ⟨bp,op,none⟩) n cp] 93)).alloc (.cells #[.int .i64 9,.int .i64 a] 66)=wb
 have hkb:Za w wb:=by rw [← hwb];exact ((Za.refl w).alloc _).alloc _
 have lB:wb.heap[w.heap.size]?=some (.cells #[.pointer (some ⟨bs,0,none⟩),.slice (some ⟨bp,op,none⟩) n cp] 93):=by rw [← hwb];exact Zo (Zh rfl) _
 have lX:wb.heap[w.heap.size+1]?=some (.cells #[.int .i64 9,.int .i64 a] 66):=by rw [← hwb];exact Zh (by simp)
 have b0:wb.cell? ⟨w.heap.size,0,none⟩=some (.pointer (some ⟨bs,0,none⟩)):=Zd lB 0
 have b1:wb.cell? ⟨w.heap.size,1,none⟩=some (.slice (some ⟨bp,op,none⟩) n cp):=Zd lB 1
 have b2:wb.cell? ⟨w.heap.size+1,1,none⟩=some (.int .i64 a):=Zd lX 1
 have HKB:=Zb hkb
 have HLB:=Zb lB
 have HLX:=Zb lX
 clear hwb hkb lB lX
 have HD:=Zb ((Zt.of_kept (un HO) (un HKB)).drew)
 refine Wt 6 [0,2,3] (fun u=>u.cell? ⟨w.heap.size,0,none⟩=some (.pointer (some ⟨bs,0,none⟩))∧u.cell? ⟨w.heap.size,1,none⟩=some (.slice (some ⟨bp,op,none⟩) n cp)∧u.cell? ⟨w.heap.size+1,1,none⟩=some (.int .i64 a)) (by kernel_rfl) ?_
 have hHeld:=And.intro b0 (And.intro b1 b2)
 repeat
  refine Yp (v:=?_) hHeld (fun u hSu=>?_) ?_
  rotate_left
  ·((try dsimp only at hSu);go_simp) <;> with_reducible rfl
  try simp only [PS]
 refine Yx ?_
 refine Zq (i:=1) rfl (by kernel_rfl) (fun K hK=>?_)
 go_simp
 refine ((un HTOP) _ (un HD).own).mono ?_
 rintro e w3 ⟨rfl,hk3⟩
 have hm3:=(un HD).kept hk3
 obtain ⟨⟨y,hy⟩,hz,_,hset⟩:=(un HCEL) w3 hm3.own
 have l3:=Zn hk3 (Xc (un HLB))
 have x3:=Zn hk3 (Xc (un HLX))
 have hS3:=And.intro (show w3.cell? ⟨w.heap.size,0,none⟩=some (.pointer (some ⟨bs,0,none⟩)) from Zd l3 0) (And.intro (show w3.cell? ⟨w.heap.size,1,none⟩=some (.slice (some ⟨bp,op,none⟩) n cp) from Zd l3 1) (show w3.cell? ⟨w.heap.size+1,1,none⟩=some (.int .i64 a) from Zd x3 1))
 have HM4:=Zb (hm3.trans (hset a))
 refine hK.out _ _ (fun _=>hS3) ?_
 clear hK K hm3 hset l3 x3 hk3
 try simp only [PS]
 refine Zq (i:=4) rfl (by kernel_rfl) (fun K hK=>?_)
 go_simp
 refine hK.out _ _ (fun _=>hS3) ?_
 clear hK K
 try simp only [PS]
 refine Zq (i:=5) rfl (by kernel_rfl) (fun K hK=>?_)
 go_simp
 refine hK.out _ _ (fun _=>hS3) ?_
 clear hK K
 try simp only [PS]
 refine Zq (i:=6) rfl (by kernel_rfl) (fun K hK=>?_)
 go_simp
 refine hK.out _ _ (fun h=>absurd rfl h) ?_
 clear hK K
 refine Qz (by kernel_rfl) ?_ _
 go_wp2
 go_end0
 exact Or.inl ⟨rfl,rfl,V,un HM4⟩
theorem Xcx (base bs:Nat) (V:Key→Value) (s:St) (i n cp bp op:Nat) (a:Int) (w:World) (h:Zg base w bs V s) (hn:s.now=i) (hr:Zu s i) (hst:0<(Ze s i ((Zc s i).frames.length - 1)).stack.length) :
  Calls Tryz.prog 59 #[eng bs (.slice (some ⟨bp,op,none⟩) n cp),.agg #[.int .i64 10,.int .i64 a]] w (Qj base bs V s ((if Zl s=0 then Jk (Zf s) a else Zf s),0) w):=by
 obtain ⟨hn1,hr1,_⟩:=Zbi hn hr
 have HT:Hid (∀ u V',Zg base u bs V' s→Calls Tryz.prog 88 #[eng bs (.slice (some ⟨bp,op,none⟩) n cp)] u (Jq base bs V' s (Zf s) (.int .i64 (Zl s)) u)):=Zb (fun u V' hu=>Zan base bs V' s i n cp (some ⟨bp,op,none⟩) u hu hn hr hst)
 have HTC:=Zb (fun u V' (hu:Zg base u bs V' (Zf s))=>Zjt hu hn1 hr1 (some ⟨bp,op,none⟩) n cp)
 have HO:=Zb h
 generalize hs1:Zf s=s1 at *
 generalize hz:Zl s=z at *
 generalize hR:(if z=0 then Jk s1 a else s1)=R
 have HR:Hid ((z=0→R=Jk s1 a)∧(z≠0→R=s1)):=Zb ⟨fun h=>by rw [← hR,if_pos h],fun h=>by rw [← hR,if_neg h]⟩
 clear h hr hs1 hz hR hr1 hn1
 go_enter Tryz.func59,Tryz.ntmps59
 go_upto_region 23 with fail
 generalize hwb:(w.alloc (.cells #[.pointer (some ⟨bs,0,none⟩),.slice (some ⟨bp,op,none⟩) n cp] 93)).alloc (.cells #[.int .i64 10,.int .i64 a] 66)=wb
 have hkb:Za w wb:=by rw [← hwb];exact ((Za.refl w).alloc _).alloc _
 have lB:wb.heap[w.heap.size]?=some (.cells #[.pointer (some ⟨bs,0,none⟩),.slice (some ⟨bp,op,none⟩) n cp] 93):=by rw [← hwb];exact Zo (Zh rfl) _
 have lX:wb.heap[w.heap.size+1]?=some (.cells #[.int .i64 10,.int .i64 a] 66):=by rw [← hwb];exact Zh (by simp)
 have b0:wb.cell? ⟨w.heap.size,0,none⟩=some (.pointer (some ⟨bs,0,none⟩)):=Zd lB 0
 have b1:wb.cell? ⟨w.heap.size,1,none⟩=some (.slice (some ⟨bp,op,none⟩) n cp):=Zd lB 1
 have b2:wb.cell? ⟨w.heap.size+1,1,none⟩=some (.int .i64 a):=Zd lX 1
 have HKB:=Zb hkb
 have HLB:=Zb lB
 have HLX:=Zb lX
 clear hwb hkb lB lX
 obtain ⟨hBn,hBo⟩:=(un HO).new (b:=w.heap.size) (by omega)
 obtain ⟨hXn,hXo⟩:=(un HO).new (b:=w.heap.size+1) (by omega)
 have HD:=Zb (Zt.of_kept (un HO) (un HKB))
 go_wp2_with fail
 refine ((un HT) _ V (un HD).own).mono ?_
 rintro e w0 ⟨rfl,V0,hm⟩
 have l0:=hm.lays (un HLB) hBn hBo
 have x0:=hm.lays (un HLX) hXn hXo
 have HL0:=Zb l0
 have HX0:=Zb x0
 have c0:w0.cell? ⟨w.heap.size,0,none⟩=some (.pointer (some ⟨bs,0,none⟩)):=Zd l0 0
 have c1:w0.cell? ⟨w.heap.size,1,none⟩=some (.slice (some ⟨bp,op,none⟩) n cp):=Zd l0 1
 have c2:w0.cell? ⟨w.heap.size+1,1,none⟩=some (.int .i64 a):=Zd x0 1
 obtain ⟨g,ht,hc⟩:=(un HTC) w0 V0 hm.own
 have HTOP:=Zb ht
 have HCEL:=Zb hc
 have HM0:=Zb ((un HD).trans hm)
 clear hm l0 x0 b0 b1 b2 ht hc
 by_cases hz0:z=0
 ·have HRR:=Zb ((un HR).1 hz0)
  subst hz0
  generalize (Zc s1 i).frames.length - 1=j at *
  go_upto_region 24 with fail
  have HMD:=Zb (un HM0).drew
  refine Wt 6 [0,2,3] (fun u=>u.cell? ⟨w.heap.size,0,none⟩=some (.pointer (some ⟨bs,0,none⟩))∧u.cell? ⟨w.heap.size,1,none⟩=some (.slice (some ⟨bp,op,none⟩) n cp)∧u.cell? ⟨w.heap.size+1,1,none⟩=some (.int .i64 a)) (by kernel_rfl) ?_
  have hHeld:=And.intro c0 (And.intro c1 c2)
  repeat
   refine Yp (v:=?_) hHeld (fun u hSu=>?_) ?_
   rotate_left
   ·((try dsimp only at hSu);go_simp) <;> with_reducible rfl
   try simp only [PS]
  refine Yx ?_
  refine Zq (i:=1) rfl (by kernel_rfl) (fun K hK=>?_)
  go_simp
  refine ((un HTOP) _ (un HMD).own).mono ?_
  rintro e w3 ⟨rfl,hk3⟩
  have hm3:=(un HMD).kept hk3
  obtain ⟨⟨y,hy⟩,hz,_,hset⟩:=(un HCEL) w3 hm3.own
  have l3:=Zn hk3 (Xc (un HL0))
  have x3:=Zn hk3 (Xc (un HX0))
  have hS3:=And.intro (show w3.cell? ⟨w.heap.size,0,none⟩=some (.pointer (some ⟨bs,0,none⟩)) from Zd l3 0) (And.intro (show w3.cell? ⟨w.heap.size,1,none⟩=some (.slice (some ⟨bp,op,none⟩) n cp) from Zd l3 1) (show w3.cell? ⟨w.heap.size+1,1,none⟩=some (.int .i64 a) from Zd x3 1))
  have HM4:=Zb (hm3.trans (hset a))
  refine hK.out _ _ (fun _=>hS3) ?_
  clear hK K hm3 hset l3 x3 hk3
  try simp only [PS]
  refine Zq (i:=4) rfl (by kernel_rfl) (fun K hK=>?_)
  go_simp
  refine hK.out _ _ (fun _=>hS3) ?_
  clear hK K
  try simp only [PS]
  refine Zq (i:=5) rfl (by kernel_rfl) (fun K hK=>?_)
  go_simp
  refine hK.out _ _ (fun _=>hS3) ?_
  clear hK K
  try simp only [PS]
  refine Zq (i:=6) rfl (by kernel_rfl) (fun K hK=>?_)
  go_simp
  refine hK.out _ _ (fun h=>absurd rfl h) ?_
  clear hK K
  refine Qz (by kernel_rfl) ?_ _
  go_wp2
  go_end0
  rw [un HRR]
  exact Or.inl ⟨rfl,rfl,V0,un HM4⟩
 ·have HRR:=Zb ((un HR).2 hz0)
  have hbz:(z == 0)=false:=by rw [beq_eq_false_iff_ne];exact hz0
  clear hz0
  go_wp2
  go_end0
  rw [un HRR]
  exact Or.inl ⟨rfl,rfl,V0,un HM0⟩
theorem Xaa (base bs:Nat) (V:Key→Value) (s:St) (i n cp bp op:Nat) (a:Int) (w:World) (h:Zg base w bs V s) (hn:s.now=i) (hr:Zu s i) (q:Nat) (haq:a=q) (hq:q<(Ze s i ((Zc s i).frames.length - 1)).locals.length) :
  Calls Tryz.prog 59 #[eng bs (.slice (some ⟨bp,op,none⟩) n cp),.agg #[.int .i64 2,.int .i64 a]] w (Qj base bs V s (Zy s i ((Ze s i ((Zc s i).frames.length - 1)).locals.getD q 0),0) w):=by
 obtain ⟨g,ht,hc⟩:=Zjt h hn hr (some ⟨bp,op,none⟩) n cp
 have hj:(Zc s i).frames.length - 1<(Zc s i).frames.length:=by have:=hr.fr;omega
 have HP:Hid (∀ u V',Zg base u bs V' s→Calls Tryz.prog 87 #[eng bs (.slice (some ⟨bp,op,none⟩) n cp),.slice (some ⟨u.heap.size,0,none⟩) 1 1] (u.alloc (.cells #[.int .i64 ((Ze s i ((Zc s i).frames.length - 1)).locals.getD q 0)] 3)) (Jq base bs V' s (Zy s i ((Ze s i ((Zc s i).frames.length - 1)).locals.getD q 0)) (.tuple #[]) (u.alloc (.cells #[.int .i64 ((Ze s i ((Zc s i).frames.length - 1)).locals.getD q 0)] 3)))):=Zb (fun u V' hu=>Zbg base bs V' s i n cp u.heap.size (some ⟨bp,op,none⟩) _ _ (hu.alloc _) hn hr (Zd (Zh rfl) 0))
 obtain ⟨gl,cl,el,_⟩:=Us (h.own.loc hr.lt hj) (by omega)
 have HLC:Hid (∀ u,Zg base u bs V s→u.cell? ⟨gl,q,none⟩=some (.int .i64 ((Ze s i ((Zc s i).frames.length - 1)).locals.getD q 0))∧u.cell? ⟨g,((Zc s i).frames.length - 1)*4+2,none⟩=some (.slice (some ⟨gl,0,none⟩) (Ze s i ((Zc s i).frames.length - 1)).locals.length cl)):=Zb (fun u hu=>by
  obtain ⟨gl',cl',el',_,hx,_⟩:=Us (hu.own.loc hr.lt hj) (by omega)
  rw [el] at el'
  obtain ⟨⟨rfl⟩,-,rfl⟩:=(by simpa using el':(gl=gl')∧True∧cl=cl')
  exact ⟨hx q _ (Zaa (Zs _ q 0 hq)),by rw [← el];exact (hc u hu).2.2.1⟩)
 have HTOP:=Zb ht
 have HO:=Zb h
 have hq0:(0:Int)≤(q:Int):=by omega
 have hq1:(q:Int)<((Ze s i ((Zc s i).frames.length - 1)).locals.length:Int):=by omega
 generalize (Ze s i ((Zc s i).frames.length - 1)).locals.getD q 0=z at *
 generalize (Ze s i ((Zc s i).frames.length - 1)).locals.length=lo at *
 generalize (Zc s i).frames.length - 1=j at *
 subst haq
 clear h hr ht hc hj el
 go_enter Tryz.func59,Tryz.ntmps59
 go_upto_region 7 with fail
 generalize hwb:(w.alloc (.cells #[.pointer (some ⟨bs,0,none⟩),.slice (some ⟨bp,op,none⟩) n cp] 93)).alloc (.cells #[.int .i64 2,.int .i64 q] 66)=wb
 have hkb:Za w wb:=by rw [← hwb];exact ((Za.refl w).alloc _).alloc _
 have lB:wb.heap[w.heap.size]?=some (.cells #[.pointer (some ⟨bs,0,none⟩),.slice (some ⟨bp,op,none⟩) n cp] 93):=by rw [← hwb];exact Zo (Zh rfl) _
 have lX:wb.heap[w.heap.size+1]?=some (.cells #[.int .i64 2,.int .i64 q] 66):=by rw [← hwb];exact Zh (by simp)
 have b0:wb.cell? ⟨w.heap.size,0,none⟩=some (.pointer (some ⟨bs,0,none⟩)):=Zd lB 0
 have b1:wb.cell? ⟨w.heap.size,1,none⟩=some (.slice (some ⟨bp,op,none⟩) n cp):=Zd lB 1
 have b2:wb.cell? ⟨w.heap.size+1,1,none⟩=some (.int .i64 q):=Zd lX 1
 have HKB:=Zb hkb
 have HLB:=Zb lB
 have HLX:=Zb lX
 clear hwb hkb lB lX
 have HD:=Zb ((Zt.of_kept (un HO) (un HKB)).drew)
 refine Wt 11 [0,1,6,7] (fun u=>u.cell? ⟨w.heap.size,0,none⟩=some (.pointer (some ⟨bs,0,none⟩))∧u.cell? ⟨w.heap.size,1,none⟩=some (.slice (some ⟨bp,op,none⟩) n cp)∧u.cell? ⟨w.heap.size+1,1,none⟩=some (.int .i64 q)∧u.cell? ⟨g,j*4+2,none⟩=some (.slice (some ⟨gl,0,none⟩) lo cl)∧u.cell? ⟨gl,q,none⟩=some (.int .i64 z)) (by kernel_rfl) ?_
 obtain ⟨y0,y1⟩:=(un HLC) _ (un HD).own
 have hHeld:=And.intro b0 (And.intro b1 (And.intro b2 (And.intro y1 y0)))
 repeat
  refine Yp (v:=?_) hHeld (fun u hSu=>?_) ?_
  rotate_left
  ·((try dsimp only at hSu);go_simp) <;> with_reducible rfl
  try simp only [PS]
 refine Yx ?_
 refine Zq (i:=2) rfl (by kernel_rfl) (fun K hK=>?_)
 go_simp
 refine ((un HTOP) _ (un HD).own).mono ?_
 rintro e w3 ⟨rfl,hk3⟩
 have HM3:=Zb ((un HD).kept hk3)
 have hHeld3:=And.intro (hk3.cell hHeld.1) (And.intro (hk3.cell hHeld.2.1) (And.intro (hk3.cell hHeld.2.2.1) (And.intro (hk3.cell hHeld.2.2.2.1) (hk3.cell hHeld.2.2.2.2))))
 refine hK.out _ _ (fun _=>hHeld3) ?_
 clear hK K hHeld hk3 b0 b1 b2 y0 y1
 try simp only [PS]
 refine AnyP.out (plan:=[3,4,5,8,9]) ?_
 repeat
  refine Yp (v:=?_) hHeld3 (fun u hSu=>?_) ?_
  rotate_left
  ·((try dsimp only at hSu);go_simp) <;> with_reducible rfl
  try simp only [PS]
 refine Yx ?_
 refine Zq (i:=10) rfl (by kernel_rfl) (fun K hK=>?_)
 go_simp
 refine hK.out _ _ (fun _=>⟨((Za.refl w3).alloc _).cell hHeld3.1,((Za.refl w3).alloc _).cell hHeld3.2.1,((Za.refl w3).alloc _).cell hHeld3.2.2.1,((Za.refl w3).alloc _).cell hHeld3.2.2.2.1,((Za.refl w3).alloc _).cell hHeld3.2.2.2.2⟩) ?_
 clear hK K
 try simp only [PS]
 refine Zq (i:=11) rfl (by kernel_rfl) (fun K hK=>?_)
 go_simp
 refine ((un HP) _ V (un HM3).own).mono ?_
 rintro e w4 ⟨rfl,V4,hm⟩
 have HM4:=Zb ((un HM3).trans (hm.pre (un HM3).own ((Za.refl _).alloc _)))
 refine hK.out _ _ (fun h=>absurd rfl h) ?_
 clear hK K hm
 refine Qz (by kernel_rfl) ?_ _
 go_wp2
 go_end0
 exact Or.inl ⟨rfl,rfl,V4,un HM4⟩
theorem Zut (base bs:Nat) (V:Key→Value) (s:St) (i n cp bp op:Nat) (a:Int) (w:World) (h:Zg base w bs V s) (hn:s.now=i) (hr:Zu s i) (hst:0<(Ze s i ((Zc s i).frames.length - 1)).stack.length) (q:Nat) (haq:a=q) (hq:q<(Ze s i ((Zc s i).frames.length - 1)).locals.length) :
  Calls Tryz.prog 59 #[eng bs (.slice (some ⟨bp,op,none⟩) n cp),.agg #[.int .i64 3,.int .i64 a]] w (Qj base bs V s ((Zf s).turnTop i fun f=>{ f with locals:=f.locals.set q (Zl s) },0) w):=by
 obtain ⟨hn1,hr1,_⟩:=Zbi hn hr
 obtain ⟨g,hgg,ht,hc⟩:=Zkn h hn hr (some ⟨bp,op,none⟩) n cp
 have hj:(Zc s i).frames.length - 1<(Zc s i).frames.length:=by have:=hr.fr;omega
 obtain ⟨gl,cl,el,_⟩:=Us (h.own.loc hr.lt hj) (by omega)
 have hlf:(Zc (Zf s) i).frames.length=(Zc s i).frames.length:=by rw [Yj hn];exact Ua _ hr.lt i
 have hfl:(Ze (Zf s) i ((Zc s i).frames.length - 1)).locals=(Ze s i ((Zc s i).frames.length - 1)).locals:=by rw [Yj hn,Wd _ hr.lt hj]
 obtain ⟨g0,cap0,eg0,_,k00,_⟩:=h.own.fr hr.lt hj
 have HGG:Hid (g=g0):=Zb (hgg g0 cap0 eg0)
 have HTK:Hid (∀ u,Zg base u bs V s→Calls Tryz.prog 88 #[eng bs (.slice (some ⟨bp,op,none⟩) n cp)] u (fun e w'=>e=.returned (.int .i64 (Zl s))∧∃ V1,Zt base bs V s u V1 (Zf s) w'∧w'.cell? ⟨g,((Zc s i).frames.length - 1)*4+2,none⟩=some (.slice (some ⟨gl,0,none⟩) (Ze s i ((Zc s i).frames.length - 1)).locals.length cl)∧(∃ y,w'.cell? ⟨gl,q,none⟩=some y)∧w'.frozen? ⟨gl,q,none⟩=false∧Zt base bs V1 (Zf s) w' V1 ((Zf s).turnTop i fun f=>{ f with locals:=f.locals.set q (Zl s) }) (w'.setCell ⟨gl,q,none⟩ (.int .i64 (Zl s))))):=Zb (fun u hu=>(Znd base bs V s i n cp (some ⟨bp,op,none⟩) u hu hn hr hst).mono (by
  rintro e w' ⟨rfl,V1,hm,hV⟩
  have hlc:=hm.own.own.loc hr1.lt (j:=(Zc s i).frames.length - 1) (by rw [hlf];exact hj)
  rw [hfl] at hlc
  obtain ⟨gl',cl',el',_,hx,hz,_⟩:=Us hlc (by omega)
  have hV1:=hV (.locals i ((Zc s i).frames.length - 1)) (by simp)
  rw [hV1,el] at el'
  obtain ⟨⟨rfl⟩,-,rfl⟩:=(by simpa using el':(gl=gl')∧True∧cl=cl')
  obtain ⟨g1,cap1,eg1,_,f10,f11,f12,_⟩:=hm.own.own.fr hr1.lt (j:=(Zc s i).frames.length - 1) (by rw [hlf];exact hj)
  have hVf:=hV (.frames i) (by simp)
  refine ⟨rfl,V1,hm,?_,⟨_,hx q _ (Zaa (Zs _ q 0 hq))⟩,hz q,?_⟩
  ·rw [hV1,el] at f12
   rw [hVf,eg0,hlf] at eg1
   obtain ⟨⟨rfl⟩,-,rfl⟩:=(by simpa using eg1:(g0=g1)∧True∧cap0=cap1)
   rw [un HGG]
   exact f12
  ·rw [Uj,hlf]
   have:=Zt.setLocal hm.own hr1.lt (j:=(Zc s i).frames.length - 1) (by rw [hlf];exact hj) (q:=q) (by rw [hV1,hfl];exact el) (Zl s)
   exact this))
 have HC2:Hid (∀ u,Zg base u bs V s→u.cell? ⟨g,((Zc s i).frames.length - 1)*4+2,none⟩=some (.slice (some ⟨gl,0,none⟩) (Ze s i ((Zc s i).frames.length - 1)).locals.length cl)):=Zb (fun u hu=>by rw [← el];exact (hc u hu).2.2.1)
 have HTOP:=Zb ht
 have HO:=Zb h
 have hq0:(0:Int)≤(q:Int):=by omega
 have hq1:(q:Int)<((Ze s i ((Zc s i).frames.length - 1)).locals.length:Int):=by omega
 generalize (Zf s).turnTop i (fun f=>{ f with locals:=f.locals.set q (Zl s) })=s2 at *
 generalize Zf s=s1 at *
 generalize Zl s=z at *
 generalize (Ze s i ((Zc s i).frames.length - 1)).locals.length=lo at *
 generalize (Zc s i).frames.length - 1=j at *
 subst haq
 clear h hr ht hc hj el hn1 hr1 hlf hfl
 go_enter Tryz.func59,Tryz.ntmps59
 go_upto_region 9 with fail
 generalize hwb:(w.alloc (.cells #[.pointer (some ⟨bs,0,none⟩),.slice (some ⟨bp,op,none⟩) n cp] 93)).alloc (.cells #[.int .i64 3,.int .i64 q] 66)=wb
 have hkb:Za w wb:=by rw [← hwb];exact ((Za.refl w).alloc _).alloc _
 have lB:wb.heap[w.heap.size]?=some (.cells #[.pointer (some ⟨bs,0,none⟩),.slice (some ⟨bp,op,none⟩) n cp] 93):=by rw [← hwb];exact Zo (Zh rfl) _
 have lX:wb.heap[w.heap.size+1]?=some (.cells #[.int .i64 3,.int .i64 q] 66):=by rw [← hwb];exact Zh (by simp)
 have b0:wb.cell? ⟨w.heap.size,0,none⟩=some (.pointer (some ⟨bs,0,none⟩)):=Zd lB 0
 have b1:wb.cell? ⟨w.heap.size,1,none⟩=some (.slice (some ⟨bp,op,none⟩) n cp):=Zd lB 1
 have b2:wb.cell? ⟨w.heap.size+1,1,none⟩=some (.int .i64 q):=Zd lX 1
 have HKB:=Zb hkb
 have HLB:=Zb lB
 have HLX:=Zb lX
 clear hwb hkb lB lX
 obtain ⟨hBn,hBo⟩:=(un HO).new (b:=w.heap.size) (by omega)
 obtain ⟨hXn,hXo⟩:=(un HO).new (b:=w.heap.size+1) (by omega)
 have HD:=Zb ((Zt.of_kept (un HO) (un HKB)).drew)
 refine Wt 10 [0,5,6,7] (fun u=>u.cell? ⟨w.heap.size,0,none⟩=some (.pointer (some ⟨bs,0,none⟩))∧u.cell? ⟨w.heap.size,1,none⟩=some (.slice (some ⟨bp,op,none⟩) n cp)∧u.cell? ⟨w.heap.size+1,1,none⟩=some (.int .i64 q)∧u.cell? ⟨g,j*4+2,none⟩=some (.slice (some ⟨gl,0,none⟩) lo cl)) (by kernel_rfl) ?_
 have hHeld:=And.intro b0 (And.intro b1 (And.intro b2 ((un HC2) _ (un HD).own)))
 repeat
  refine Yp (v:=?_) hHeld (fun u hSu=>?_) ?_
  rotate_left
  ·((try dsimp only at hSu);go_simp) <;> with_reducible rfl
  try simp only [PS]
 refine Yx ?_
 refine Zq (i:=1) rfl (by kernel_rfl) (fun K hK=>?_)
 go_simp
 refine ((un HTOP) _ (un HD).own).mono ?_
 rintro e w3 ⟨rfl,hk3⟩
 have HM3:=Zb ((un HD).kept hk3)
 have HL3:=Zb (Zn hk3 (Xc (un HLB)))
 have HX3:=Zb (Zn hk3 (Xc (un HLX)))
 have hHeld3:=And.intro (hk3.cell hHeld.1) (And.intro (hk3.cell hHeld.2.1) (And.intro (hk3.cell hHeld.2.2.1) (hk3.cell hHeld.2.2.2)))
 refine hK.out _ _ (fun _=>hHeld3) ?_
 clear hK K hHeld hk3 b0 b1 b2
 try simp only [PS]
 refine AnyP.out (plan:=[2,3,4]) ?_
 repeat
  refine Yp (v:=?_) hHeld3 (fun u hSu=>?_) ?_
  rotate_left
  ·((try dsimp only at hSu);go_simp) <;> with_reducible rfl
  try simp only [PS]
 refine Yx ?_
 refine Zq (i:=8) rfl (by kernel_rfl) (fun K hK=>?_)
 go_simp
 refine ((un HTK) _ (un HM3).own).mono ?_
 rintro e w4 ⟨rfl,V4,hm,hc4,⟨y,hy⟩,hz4,hset⟩
 have l4:=hm.lays (un HL3) hBn hBo
 have x4:=hm.lays (un HX3) hXn hXo
 have hS4:=And.intro (show w4.cell? ⟨w.heap.size,0,none⟩=some (.pointer (some ⟨bs,0,none⟩)) from Zd l4 0) (And.intro (show w4.cell? ⟨w.heap.size,1,none⟩=some (.slice (some ⟨bp,op,none⟩) n cp) from Zd l4 1) (And.intro (show w4.cell? ⟨w.heap.size+1,1,none⟩=some (.int .i64 q) from Zd x4 1) hc4))
 have HM4:=Zb (((un HM3).trans hm).trans hset)
 refine hK.out _ _ (fun _=>hS4) ?_
 clear hK K hm hset l4 x4
 try simp only [PS]
 refine Zq (i:=9) rfl (by kernel_rfl) (fun K hK=>?_)
 go_simp
 refine hK.out _ _ (fun _=>hS4) ?_
 clear hK K
 try simp only [PS]
 refine Zq (i:=10) rfl (by kernel_rfl) (fun K hK=>?_)
 go_simp
 refine hK.out _ _ (fun h=>absurd rfl h) ?_
 clear hK K
 refine Qz (by kernel_rfl) ?_ _
 go_wp2
 go_end0
 exact Or.inl ⟨rfl,rfl,V4,un HM4⟩
theorem Zfq {s:St} {i:Nat} (hr:Zu s i) (ai k:Nat):(Zc (Zi s i ai) k).caller=(Zc s k).caller:=Zad _ hr.lt k
theorem Xcv {s:St} {i:Nat} (hn:s.now=i) (hr:Zu s i):∀ k z acc,Xr (Zf (Zf s)).fibers k z acc=Xr s.fibers k z acc:=fun k z acc=>Zct (fun y=>by
 obtain ⟨hn1,hr1,_⟩:=Zbi hn hr
 show (Zc (Zf (Zf s)) y.toNat).caller=(Zc s y.toNat).caller
 rw [Zcp hn1 hr1,Zcp hn hr]) k z acc
theorem Zve {s:St} {i:Nat} (hr:Zu s i) (hq:(Zc s i).frames.length≠1) (hst:∀ j,j<(Zc s i).frames.length→(Ze s i j).stack.length≤1000):Zu (dropped s i) i:=by
 have hd:=Zit hr.lt
 have hdl:(Zc (dropped s i) i).frames.length=(Zc s i).frames.length - 1:=by rw [hd];simp
 have hpos:=hr.fr
 have h6:=hr.frs
 refine ⟨by rw [Zel];exact hr.lt,by rw [hdl];omega,by rw [hdl];omega,?_⟩
 rw [hdl]
 have e1:Ze (dropped s i) i ((Zc s i).frames.length - 1 - 1)=Ze s i ((Zc s i).frames.length - 1 - 1):=by
  unfold Ze
  rw [hd]
  simp only [List.getD,List.getElem?_dropLast]
  rw [if_pos (by omega)]
 rw [e1]
 exact hst _ (by omega)
theorem Zrj {s:St} {i:Nat} (hn:s.now=i) (hr:Zu s i) (j:Nat):(Ze (Zf s) i j).stack.length≤(Ze s i j).stack.length:=by
 have hj:(Zc s i).frames.length - 1<(Zc s i).frames.length:=by have:=hr.fr;omega
 rw [Yj hn]
 by_cases e:(Zc s i).frames.length - 1=j
 ·subst e
  rw [Wd _ hr.lt hj]
  simp
 ·rw [Pj _ hr.lt (fun h=>e h.2)]
  exact Nat.le_refl _
theorem do_any (base bs:Nat) (V:Key→Value) (p:List Fn) (s:St) (i ai bp op cp:Nat) (kd a:Int) (w:World) (hright:Xg p s=0) (hn:s.now=i) (hat:(Ze s i ((Zc s i).frames.length - 1)).at_=ai) (hop:Jd p (Ze s i ((Zc s i).frames.length - 1))=(kd,a)) (h:Zg base w bs V (Zi s i ai))
  (hp:∀ f,f<p.length→∀ u,Below base w u→u.cell? ⟨bp,op+f*3,none⟩=some (.int .i64 (p.getD f Fn.zero).args)∧u.cell? ⟨bp,op+f*3+1,none⟩=some (.int .i64 (p.getD f Fn.zero).locals)) :
  Calls Tryz.prog 59 #[eng bs (.slice (some ⟨bp,op,none⟩) p.length cp),.agg #[.int .i64 kd,.int .i64 a]] w (Qj base bs V (Zi s i ai) (Zz p s) w):=by
 obtain ⟨⟨h0,hi,h5,h30⟩,hall,hfr,hcal,_,hloc,⟨g1,g2,g3,g4,g5⟩,hneed⟩:=Zih hright (by omega)
 obtain ⟨l,hl,hg⟩:=Zhu hright
 have hin:∀ {m:Nat},m<s.fibers.length→((m:Int)∈l↔m=0∨(Zc s m).caller≠-1):=fun hm=>hg.goes (by omega) hm
 rw [hn,Int.toNat_natCast] at hi hfr hcal
 have htop:=Zak hn
 rw [htop] at g1 g2 g3 g4 g5 hneed
 have hj:(Zc s i).frames.length - 1<(Zc s i).frames.length:=by omega
 have hfrs:∀ k,k<s.fibers.length→(Zc s k).frames.length≤6:=fun k hk=>(hall _ (Zbs k hk)).1.1
 have hstk:∀ k j,k<s.fibers.length→j<(Zc s k).frames.length→(Ze s k j).locals.length≤1000∧(Ze s k j).stack.length≤1000:=fun k j hk hj=>(hall _ (Zbs k hk)).2 _ (Zho k j hj)
 have hruns:∀ k,k<s.fibers.length→0<(Zc s k).frames.length→Zu s k:=fun k hk hf=>⟨hk,hf,by have:=hfrs k hk;omega,(hstk k _ hk (by omega)).2⟩
 have hr:Zu s i:=hruns i hi hfr
 obtain ⟨n1,n2,n3,n4,n5,n6,n7,n8⟩:=Yr hn hr ai
 have nst:(Ze (Zi s i ai) i ((Zc (Zi s i ai) i).frames.length - 1)).stack=(Ze s i ((Zc s i).frames.length - 1)).stack:=by rw [n5];exact (Zcn hr ai _ _).1
 have nlo:(Ze (Zi s i ai) i ((Zc (Zi s i ai) i).frames.length - 1)).locals=(Ze s i ((Zc s i).frames.length - 1)).locals:=by rw [n5];exact (Zcn hr ai _ _).2.1
 obtain ⟨fi,hfn⟩:∃ fi:Nat,(Ze s i ((Zc s i).frames.length - 1)).fn=fi:=⟨(Ze s i ((Zc s i).frames.length - 1)).fn.toNat,by omega⟩
 have hx:(Xd p fi).getD ai (0,0)=(kd,a):=by rw [← hop];unfold Jd;rw [hfn,hat,Int.toNat_natCast,Int.toNat_natCast]
 unfold Zey at hneed
 rw [hop] at hneed
 simp only at hneed
 obtain ⟨hst,hlo,hca,hma⟩:=hneed
 rw [← nst] at hst
 rw [← nlo] at hlo
 rw [Znm hn hfn hat hx]
 have hruns1:∀ k,k≠i→Zu s k→Zu (Zf (Zi s i ai)) k:=fun k hk hrk=>(Zgw ai k hk hrk).other (Zhj n1) (Zie n1 hk)
 have hcc:(Zc (Zf (Zi s i ai)) i).caller≠-1→∃ m:Nat,(Zc (Zf (Zi s i ai)) i).caller=m∧m≠i∧Zu (Zf (Zi s i ai)) m:=fun hne=>by
  rw [Zcp n1 n8,Zfq hr] at hne ⊢
  have hrg:=hg.caller hi
  obtain ⟨h1,h2⟩:=hcal (by omega)
  refine ⟨(Zc s i).caller.toNat,by omega,by omega,hruns1 _ (by omega) (hruns _ (by omega) h2)⟩
 have hci:-1≤(Zc (Zf (Zi s i ai)) i).caller:=by rw [Zcp n1 n8,Zfq hr];exact (hg.caller hi).1
 obtain ⟨pn1,pr1,ps1⟩:=Zbi n1 n8
 have hout:(Zi s i ai).out.length≤30:=by rw [n3];exact h30
 by_cases k0:kd=0
 ·subst k0;rw [if_pos rfl];exact Zqy base bs V _ i _ cp bp op a w h n1 n8
 rw [if_neg k0]
 by_cases k1:kd=1
 ·subst k1;rw [if_pos rfl];exact do_pop base bs V _ i _ cp bp op a w h n1 n8 (Nat.lt_of_lt_of_le (by decide) hst)
 rw [if_neg k1]
 by_cases k2:kd=2
 ·subst k2
  rw [if_pos rfl]
  obtain ⟨l1,l2⟩:=hlo (.inl rfl)
  have:=Xaa base bs V _ i p.length cp bp op a w h n1 n8 a.toNat (by omega) l2
  rw [Zak n1]
  exact this
 rw [if_neg k2]
 by_cases k3:kd=3
 ·subst k3
  rw [if_pos rfl]
  obtain ⟨l1,l2⟩:=hlo (.inr rfl)
  exact Zut base bs V _ i _ cp bp op a w h n1 n8 (Nat.lt_of_lt_of_le (by decide) hst) a.toNat (by omega) l2
 rw [if_neg k3]
 by_cases k9:kd=9
 ·subst k9;rw [if_pos rfl];exact Ztf base bs V _ i _ cp bp op a w h n1 n8
 rw [if_neg k9]
 by_cases k10:kd=10
 ·subst k10;rw [if_pos rfl];exact Xcx base bs V _ i _ cp bp op a w h n1 n8 (Nat.lt_of_lt_of_le (by decide) hst)
 rw [if_neg k10]
 by_cases k11:kd=11
 ·subst k11
  rw [if_pos rfl]
  obtain ⟨l1,l2,l3,l4,l5,l6⟩:=hca rfl
  obtain ⟨f2,rfl⟩:∃ f2:Nat,a=f2:=⟨a.toNat,by omega⟩
  rw [Int.toNat_natCast] at l2 l3 l4 l5 l6
  obtain ⟨a2,ha2⟩:∃ a2:Nat,(p.getD f2 Fn.zero).args=a2:=⟨(p.getD f2 Fn.zero).args.toNat,by omega⟩
  obtain ⟨lo2,hlo2⟩:∃ lo2:Nat,(p.getD f2 Fn.zero).locals=lo2:=⟨(p.getD f2 Fn.zero).locals.toNat,by omega⟩
  have hpf:=hp f2 l2
  rw [ha2,hlo2] at hpf
  rw [Zmb n1 n8 ha2 hlo2]
  exact Zpf base bs V _ i _ cp bp op _ w h n1 n8 f2 a2 lo2 rfl (by rw [n5];exact hfrs i hi) l2 (by omega) (by omega) (by rw [nst];omega) hpf
 rw [if_neg k11]
 by_cases k12:kd=12
 ·subst k12
  rw [if_pos rfl,Zyu n1 pr1 hci]
  exact Zwx base bs V _ i _ cp bp op a w h n1 n8 (Nat.lt_of_lt_of_le (by decide) hst) hout pr1 (fun _=>hcc) (fun hq=>Zve pr1 hq (fun j hj=>Nat.le_trans (Zrj n1 n8 j) (by rw [(Zcn hr ai _ _).1];rw [Zvk n1 n8,n5] at hj;exact (hstk i j hi hj).2)))
 rw [if_neg k12]
 by_cases k13:kd=13
 ·subst k13
  rw [if_pos rfl]
  obtain ⟨l1,l2,l3,l4⟩:=hma rfl
  obtain ⟨f2,rfl⟩:∃ f2:Nat,a=f2:=⟨a.toNat,by omega⟩
  rw [Int.toNat_natCast] at l2 l3 l4
  obtain ⟨lo2,hlo2⟩:∃ lo2:Nat,(p.getD f2 Fn.zero).locals=lo2:=⟨(p.getD f2 Fn.zero).locals.toNat,by omega⟩
  have hpf:=hp f2 l2
  rw [hlo2] at hpf
  rw [Zxr n1 n8.lt hlo2]
  exact Zqs base bs V _ i _ cp bp op _ w h n1 n8 f2 lo2 rfl (by rw [n2];exact h5) l2 (by omega) (fun u hu=>(hpf u hu).2)
 rw [if_neg k13]
 by_cases k14:kd=14
 ·subst k14
  rw [if_pos rfl]
  obtain ⟨pn2,pr2,_⟩:=Zbi pn1 pr1
  have hlen2:(Zf (Zf (Zi s i ai))).fibers.length=s.fibers.length:=by rw [Zhj pn1,Zhj n1,n2]
  have hcal2:∀ m,(Zc (Zf (Zf (Zi s i ai))) m).caller=(Zc s m).caller:=fun m=>by rw [Zcp pn1 pr1,Zcp n1 n8,Zfq hr]
  have hoth2:∀ m,m≠i→Zc (Zf (Zf (Zi s i ai))) m=Zc s m:=fun m hm=>by rw [Zie pn1 hm,Zie n1 hm,n7 m hm]
  have hline:(Xr (Zf (Zf (Zi s i ai))).fibers ((Zf (Zf (Zi s i ai))).fibers.length+1) (Zf (Zf (Zi s i ai))).now []).getD []=l:=by
   rw [Xcv n1 n8,hlen2,pn2,← n1]
   rw [Zct (fs:=(Zi s i ai).fibers) (fs':=s.fibers) (fun n=>Zfq hr ai n.toNat),n1,← hn,hg.line.1]
   rfl
  rw [Zrl rfl rfl rfl pn2 (fun m hm=>by rw [hline,hcal2];exact hin (by omega))]
  refine Zwf base bs V _ i _ cp bp op a w h n1 n8 (Nat.le_trans (by decide) hst) (fun u V' hu=>?_)
  generalize hs2:Zf (Zf (Zi s i ai))=s2 at *
  generalize Zl (Zf (Zi s i ai))=x at *
  by_cases hb:x<0∨(s2.fibers.length:Int)≤x
  ·exact Zzy base bs V' s2 i _ cp _ x _ u hu (by omega) hb
  ·obtain ⟨m,rfl⟩:∃ m:Nat,x=m:=⟨x.toNat,by omega⟩
   have hm:m<s2.fibers.length:=by omega
   by_cases hb2:m=0∨(Zc s2 m).caller≠-1∨(Zc s2 m).frames.length=0
   ·exact Xcc base bs V' s2 i _ cp m _ _ u hu hm hb2
   ·have hnin:(m:Int) ∉ l:=fun hml=>by
     rcases (hin (m:=m) (by omega)).1 hml with e | e
     ·exact hb2 (.inl e)
     ·exact hb2 (.inr (.inl (by rw [hcal2];exact e)))
    have hmi:m≠i:=fun e=>hnin (by rw [e,← hn];exact hg.now_mem (by omega))
    have hfm:=hoth2 m hmi
    have hfrm:∀ j,Ze s2 m j=Ze s m j:=fun j=>by unfold Ze;rw [hfm]
    have hpos:0<(Zc s m).frames.length:=by
     rcases Nat.eq_zero_or_pos (Zc s m).frames.length with e | e
     ·exact absurd (.inr (.inr (by rw [hfm];exact e))) hb2
     ·exact e
    refine Xdf base bs V' s2 i _ cp m _ _ u hu pn2 ((hruns m (by omega) hpos).other hlen2 hfm) hb2 (fun ha=>?_)
    rw [hfm,hfrm] at ha ⊢
    exact hloc m (by omega) (by rw [hl];exact hnin) hpos ha
 rw [if_neg k14]
 by_cases k15:kd=15
 ·subst k15
  rw [if_pos rfl,Zxm n1 hci]
  exact Zrx base bs V _ i _ cp bp op a w h n1 n8 (Nat.lt_of_lt_of_le (by decide) hst) pr1.lt hcc
 rw [if_neg k15]
 by_cases k16:kd=16
 ·subst k16
  rw [if_pos rfl]
  exact do_put base bs V _ i _ cp bp op a w h n1 n8 (Nat.lt_of_lt_of_le (by decide) hst) hout
 rw [if_neg k16]
 have h2:2≤(Ze (Zi s i ai) i ((Zc (Zi s i ai) i).frames.length - 1)).stack.length:=by
  have:Zdb kd=2:=by unfold Zdb;rw [if_neg (by omega),if_neg (by omega)]
  omega
 have hkd:kd=4∨kd=5∨kd=6∨kd=7∨kd=8:=by
  obtain ⟨n',fs',t',c',kd',a',ta',lb',hrun⟩:=hg.runner (by omega)
  have hnn:n'=i:=by have:=hrun.op.now;omega
  have ht':t'=Ze s i ((Zc s i).frames.length - 1):=by rw [← htop,Zba hrun.op.tops hrun.op.now]
  have hop':=hrun.op.op
  rw [ht'] at hop'
  have:(kd',a')=(kd,a):=by rw [← hop',← hop];rfl
  have hk:=hrun.kind
  have e:kd'=kd:=congrArg Prod.fst this
  omega
 rcases hkd with rfl | rfl | rfl | rfl | rfl
 ·exact Zts base bs V _ i _ cp bp op a w h n1 n8 h2
 ·exact Zro base bs V _ i _ cp bp op a w h n1 n8 h2
 ·exact Xdx base bs V _ i _ cp bp op a w h n1 n8 h2
 ·exact Xbm base bs V _ i _ cp bp op a w h n1 n8 h2
 ·exact Zzt base bs V _ i _ cp bp op a w h n1 n8 h2
theorem Xbh (b o bf off cf n cap i ns cs cl nf:Nat) (ol os:Option Addr) (at_ ar now:Int) (vF vO vh:Value) (l:List Int) (w:World) (hi:i<n) (hnf:0<nf)
  (c0:w.cell? ⟨b,o+i*3,none⟩=some (.int .i64 ar)) (k0:w.cell? ⟨bf,off,none⟩=some (.int .i64 i)) (k1:w.cell? ⟨bf,off+1,none⟩=some (.int .i64 at_))
  (k2:w.cell? ⟨bf,off+2,none⟩=some (.slice ol l.length cl)) (k3:w.cell? ⟨bf,off+3,none⟩=some (.slice os ns cs)) (hl:Xj w (.slice ol l.length cl) l) (r:Bool)
  (hr:(decide (nf=1) && ((decide (at_=0) && (decide (ar=1) && decide (ns=0))) && Ui l))=r) :
  Calls Tryz.prog 116 #[.agg #[vF,.int .i64 now,vO,.slice (some ⟨b,o,none⟩) n cap,vh],.slice (some ⟨bf,off,none⟩) nf cf] w fun e w'=>e=.returned (.bool r)∧Za w w':=by
 have HR:=Zb hr
 have HL:=Zb hl
 clear hr hl
 have hi1:(i:Int)<(n:Int):=by omega
 have hi0:(0:Int)≤(i:Int):=by omega
 have hf1:(0:Int)<(nf:Int):=by omega
 have lb:=Xm c0
 have lf:=Xm k0
 simp only at lb lf
 have C0:=Zb c0
 have lb1:b<w.heap.size+1:=by omega
 clear c0
 go_enter Tryz.func116,Tryz.ntmps116
 go_wp2
 generalize hw0:(w.alloc (.cells #[vF,.int .i64 now,vO,.slice (some ⟨b,o,none⟩) n cap,vh] 99)).alloc (.cells #[.int .i64 i,.int .i64 at_,.slice ol l.length cl,.slice os ns cs] 48)=w0 at *
 have hk0:Za w w0:=by rw [← hw0];exact ((Za.refl w).alloc _).alloc _
 have x3:w0.cell? ⟨w.heap.size,3,none⟩=some (.slice (some ⟨b,o,none⟩) n cap):=by rw [← hw0];simp
 have y0:w0.cell? ⟨w.heap.size+1,0,none⟩=some (.int .i64 i):=by rw [← hw0];simp
 have y1:w0.cell? ⟨w.heap.size+1,1,none⟩=some (.int .i64 at_):=by rw [← hw0];simp
 have y3:w0.cell? ⟨w.heap.size+1,3,none⟩=some (.slice os ns cs):=by rw [← hw0];simp
 have d0:=hk0.cell (un C0)
 have HK0:=Zb hk0
 clear hw0 hk0 k0 k1 k2 k3 lb lf lb1
 go_loopw [14] (fun s14 wr=>∃ k:Nat,k≤l.length∧s14=.int .i64 k∧Hid (∀ i,i<k→l.getD i 0=0)∧Hid (w0=wr)) (fun s14 _=>l.length - (intOf s14).toNat)
 case atStart=>exact ⟨0,Nat.zero_le _,rfl,(fun i hi=>by omega),rfl⟩
 case round =>
  obtain ⟨k,hkm,rfl,HA,HW⟩:=hrel
  have hw:=un HW
  subst hw
  clear HW
  by_cases hlt:k<l.length
  ·obtain ⟨oa,ca',e1,_,hcell⟩:=un HL
   obtain ⟨b1,o1,e2,c1⟩:=hcell k _ (Zs l k 0 hlt)
   obtain ⟨rfl,-,-⟩:=(by simpa using e1:ol=oa∧l.length=l.length∧cl=ca')
   have d1:=(un HK0).cell c1
   subst e2
   clear c1 hcell e1
   have HZI:=Zb (Zs l k 0 hlt)
   generalize hz1:l.getD k 0=z at *
   have Z1:=Zb hz1
   clear hz1
   by_cases hz:z=0
   ·subst hz
    go_wp2
    go_roundw
    case rel =>
     refine ⟨k+1,by omega,by go_num,?_,trivial⟩
     intro i hi
     by_cases e:i=k
     ·subst e;exact un Z1
     ·exact (un HA) i (by omega)
    case measure=>simp [intOf];omega
   ·have hzb:(z != 0)=true:=by rw [bne_iff_ne];exact hz
    have HZ:=Zb hz
    clear hz
    go_wp2
    go_ret
    refine ⟨?_,un HK0⟩
    have hf:Ui l=false:=by
     unfold Ui
     rw [Bool.eq_false_iff]
     intro h
     rw [List.all_eq_true] at h
     have:=h z (List.mem_of_getElem? (un HZI))
     exact (un HZ) (by simpa using this)
    have hr:=un HR
    rw [hf,Bool.and_false,Bool.and_false] at hr
    rw [← hr];rfl
  ·have hf:Ui l=true:=by
    unfold Ui
    rw [List.all_eq_true]
    intro z hz
    obtain ⟨i,hi,rfl⟩:=List.getElem_of_mem hz
    have:=(un HA) i (by omega)
    simpa [List.getD,hi] using this
   have hr:=un HR
   rw [hf,Bool.and_true] at hr
   have HR2:=Zb hr
   clear hr hf HR HA
   by_cases h1:nf=1
   ·subst h1
    by_cases h2:at_=0
    ·subst h2
     by_cases h3:ar=1
     ·subst h3
      by_cases h4:ns=0
      ·subst h4
       go_wp2
       go_ret
       exact ⟨by rw [← un HR2];rfl,un HK0⟩
      ·have hb:((ns:Int) == 0)=false:=by rw [beq_eq_false_iff_ne];omega
       have H4:=Zb h4
       clear h4
       go_wp2
       go_ret
       exact ⟨by rw [← un HR2,decide_eq_false (un H4)];rfl,un HK0⟩
     ·have hb:(ar == 1)=false:=by rw [beq_eq_false_iff_ne];exact h3
      have H3:=Zb h3
      clear h3
      go_wp2
      go_ret
      exact ⟨by rw [← un HR2,decide_eq_false (un H3)];rfl,un HK0⟩
    ·have hb:(at_ == 0)=false:=by rw [beq_eq_false_iff_ne];exact h2
     have H2:=Zb h2
     clear h2
     go_wp2
     go_ret
     exact ⟨by rw [← un HR2,decide_eq_false (un H2)];rfl,un HK0⟩
   ·have hb:((nf:Int) == 1)=false:=by rw [beq_eq_false_iff_ne];omega
    have H1:=Zb h1
    clear h1
    go_wp2
    go_ret
    exact ⟨by rw [← un HR2,decide_eq_false (un H1)];rfl,un HK0⟩
theorem Zmg (p:List Fn) (s:St) (v vf:Value) (b:Fb) (w:World) (hj:Wf w v p s) (hf:Js w vf b.frames) (hn:0<b.frames.length) (hin:∀ x,x∈b.frames→0≤x.fn∧x.fn<p.length) :
  Calls Tryz.prog 116 #[v,vf] w fun e w'=>e=.returned (.bool (Jt p b))∧Za w w':=by
 obtain ⟨vF,vO,vp,vh,rfl,_,_,h3,_⟩:=hj
 obtain ⟨of,cf,rfl,hfl,hcell⟩:=id hf
 obtain ⟨bf,off,vl,vs,rfl,k0,k1,k2,k3,k4,k5⟩:=hcell 0 _ (Zs b.frames 0 Fr.zero hn)
 have hm:b.frames.getD 0 Fr.zero∈b.frames:=List.mem_of_getElem? (Zs b.frames 0 Fr.zero hn)
 have hxm:=hin _ hm
 generalize hX:b.frames.getD 0 Fr.zero=x at *
 obtain ⟨oa,cap,rfl,hpl,hpc⟩:=id h3
 obtain ⟨i,hi⟩:∃ i:Nat,x.fn=i:=⟨x.fn.toNat,by omega⟩
 obtain ⟨b',o,cv,rfl,c0,_,_,_⟩:=hpc i _ (Zs p i Fn.zero (by omega))
 obtain ⟨ol,cl,rfl,_,_⟩:=id k4
 obtain ⟨os,cs,rfl,_,_⟩:=id k5
 rw [hi] at k0
 refine Xbh b' o bf off cf _ cap i _ cs cl _ ol os x.at_ _ _ vF vO vh x.locals w (by omega) hn c0 (by simpa using k0) (by simpa using k1) (by simpa using k2) (by simpa using k3) k4 _ ?_
 unfold Jt
 split
 ·rename_i x' e
  rw [e] at hX
  simp at hX
  subst hX
  simp [e,hi]
 ·rename_i hno
  have:¬ b.frames.length=1:=by
   intro h
   obtain ⟨y,hy⟩:=List.length_eq_one_iff.1 h
   exact hno y hy
  simp [this]
end Go.Proofs.YtblihfpigjiahaaGreatDoor
