/- EngM, EngN, EngO -/
import Derived.Test.YtblihfpigjiahaaGreatDoorYB18
set_option maxRecDepth 100000
set_option maxHeartbeats 8000000
namespace Go.Proofs.YtblihfpigjiahaaGreatDoor
open Go.RowKit
theorem Xcc (base bs:Nat) (V:Key→Value) (s:St) (i n cp m:Nat) (oa:Option Addr) (z:Int) (w:World) (h:Zg base w bs V s) (hm:m<s.fibers.length)
  (hb:m=0∨(Zc s m).caller≠-1∨(Zc s m).frames.length=0) :
  Calls Tryz.prog 100 #[eng bs (.slice oa n cp),.int .i64 m,.int .i64 z] w (Qj base bs V s (Wn s i m z) w):=by
 have hR:Wn s i m z=(St.zero,6):=by unfold Wn;rw [if_neg (by omega),Int.toNat_natCast,if_pos hb]
 rw [hR]
 obtain ⟨gF,capF,eF,_,k0,k1,_,_⟩:=h.own.fib hm
 obtain ⟨c0,_,_,_⟩:=h.cells
 rw [eF] at c0
 obtain ⟨ys,hrow,_⟩:=h.own.piece (.frames m) hm
 obtain ⟨of,cf,ef,_⟩:=Zw hrow
 rw [ef] at k0
 have hm0:¬ (m:Int)<0:=by omega
 have hm1:(0:Int)≤(m:Int):=by omega
 have hm2:(m:Int)<(s.fibers.length:Int):=by omega
 have hm3:¬ (s.fibers.length:Int)≤(m:Int):=by omega
 have hk1:∀ o,Za w (w.alloc o):=fun o=>(Za.refl w).alloc o
 have HG:=Zb (fun o=>Zlq bs s.fibers.length capF gF m n cp oa (Zc s m).caller (w.alloc o) hm ((hk1 o).cell c0) ((hk1 o).cell k1))
 have d0:∀ o,(w.alloc o).cell? ⟨bs,0,none⟩=some (.slice (some ⟨gF,0,none⟩) s.fibers.length capF):=fun o=>(hk1 o).cell c0
 have HK:=Zb hk1
 have hbase:base≤w.heap.size:=by have:=h.low;have:=lt_of_block h.var;omega
 have HO:=Zb h
 generalize hon:(decide (m=0) || !decide ((Zc s m).caller=-1))=on at *
 generalize hq:(Zc s m).frames.length=q at *
 have hcase:on=true∨q=0:=by
  rcases hb with h1 | h1 | h1
  ·left;rw [← hon,decide_eq_true h1];rfl
  ·left;rw [← hon,decide_eq_false h1];simp
  ·exact .inr h1
 generalize s.fibers.length=N at *
 clear hR eF hrow ef hon hq hb hk1 h
 go_enter Tryz.func100,Tryz.ntmps100
 go_wp2_with fail
 refine ((un HG) _).mono ?_
 rintro e w1 ⟨rfl,hk2⟩
 have hk02:=((un HK) _).trans hk2
 have l1:w1.heap[w.heap.size]?=some (.cells #[.pointer (some ⟨bs,0,none⟩),.slice oa n cp] 93):=Zn hk2 (Zh rfl)
 have b0:w1.cell? ⟨w.heap.size,0,none⟩=some (.pointer (some ⟨bs,0,none⟩)):=Zd l1 0
 have e0:=hk02.cell c0
 have e1:=hk02.cell k0
 have HB:Hid (Yh bs V s w w1):=Zb (Yh.of_kept hk02)
 clear hk2 hk02 l1 k1
 cases on with
 | true =>
  go_wp2
  exact ⟨rfl,Or.inr ⟨by decide,rfl,un HB⟩⟩
 | false =>
  obtain rfl:q=0:=by simpa using hcase
  go_wp2
  exact ⟨rfl,Or.inr ⟨by decide,rfl,un HB⟩⟩
theorem Xdf (base bs:Nat) (V:Key→Value) (s:St) (i n cp m:Nat) (oa:Option Addr) (z:Int) (w:World) (h:Zg base w bs V s) (hn:s.now=i) (hr:Zu s m)
  (hb:¬ (m=0∨(Zc s m).caller≠-1∨(Zc s m).frames.length=0)) (hloc:(Ze s m ((Zc s m).frames.length - 1)).at_=0→0<(Ze s m ((Zc s m).frames.length - 1)).locals.length) :
  Calls Tryz.prog 100 #[eng bs (.slice oa n cp),.int .i64 m,.int .i64 z] w (Qj base bs V s (Wn s i m z) w):=by
 have hm:=hr.lt
 have hfr:=hr.fr
 have hfrs:=hr.frs
 have hcm:(Zc s m).caller=-1:=by
  rcases Decidable.em ((Zc s m).caller=-1) with h1 | h1
  ·exact h1
  ·exact absurd (.inr (.inl h1)) hb
 have hmz:m≠0:=fun e=>hb (.inl e)
 obtain ⟨gF,capF,eF,_,k0,k1,kz,_⟩:=h.own.fib hm
 obtain ⟨g,cap,eg,_,_⟩:=h.own.fr hm (j:=0) hr.fr
 obtain ⟨c0,c1,_,cz⟩:=h.cells
 rw [eF] at c0
 rw [eg] at k0
 rw [hn] at c1
 rw [hcm] at k1
 have hm0:¬ (m:Int)<0:=by omega
 have hm1:(0:Int)≤(m:Int):=by omega
 have hm2:(m:Int)<(s.fibers.length:Int):=by omega
 have hm3:¬ (s.fibers.length:Int)≤(m:Int):=by omega
 have hk1:∀ o,Za w (w.alloc o):=fun o=>(Za.refl w).alloc o
 have hgo:(decide (m=0) || !decide ((-1:Int)=-1))=false:=by rw [decide_eq_false hmz];rfl
 have HG:Hid (∀ o,Calls Tryz.prog 132 #[eng bs (.slice oa n cp),.int .i64 m] (w.alloc o) fun e w'=>e=.returned (.bool false)∧Za (w.alloc o) w'):=Zb (fun o=>by
  have:=Zlq bs s.fibers.length capF gF m n cp oa (-1) (w.alloc o) hm ((hk1 o).cell c0) ((hk1 o).cell k1)
  rw [hgo] at this
  exact this)
 have d0:∀ o,(w.alloc o).cell? ⟨bs,0,none⟩=some (.slice (some ⟨gF,0,none⟩) s.fibers.length capF):=fun o=>(hk1 o).cell c0
 have hq0:(((Zc s m).frames.length:Int) == 0)=false:=by rw [beq_eq_false_iff_ne];omega
 have hne:bs≠gF:=fun e=>h.off .fibers trivial (by rw [eF,e];rfl)
 have HK:=Zb hk1
 have HO:=Zb h
 have HEF:=Zb eF
 have HEG:=Zb eg
 have HR0:=Zb hr
 generalize hs1:Zj s m { Zc s m with caller:=(i:Int) }=s1
 generalize hs2:({ s1 with now:=(m:Int) }:St)=s2
 have hf2:Zc s2 m={ Zc s m with caller:=(i:Int) }:=by rw [← hs2,← hs1];exact Xu _ hm
 have hfr2:∀ j,Ze s2 m j=Ze s m j:=fun j=>by unfold Ze;rw [hf2]
 have hl2:s2.fibers.length=s.fibers.length:=by rw [← hs2,← hs1];exact Xh _ _ _
 have hr2:Zu s2 m:=⟨by rw [hl2];exact hm,by rw [hf2];exact hfr,by rw [hf2];exact hfrs,by rw [hfr2,hf2];exact hr.st⟩
 have hn2:s2.now=m:=by rw [← hs2]
 have HMS:Hid (∀ u,Zg base u bs V s→Zt base bs V s u V s2 ((u.setCell ⟨gF,m*2+1,none⟩ (.int .i64 i)).setCell ⟨bs,1,none⟩ (.int .i64 m))):=Zb (fun u hu=>by
  have h1:=Zt.setCaller hu hm eF (i:Int)
  rw [hs1] at h1
  have h2:=Zt.setNow h1.own (m:Int)
  rw [hs2] at h2
  exact h1.trans h2)
 have HTP:Hid (∀ u,Zg base u bs V s2→Calls Tryz.prog 89 #[eng bs (.slice oa n cp)] u fun e w'=>e=.returned (.pointer (some ⟨g,((Zc s m).frames.length - 1)*4,none⟩))∧Za u w'):=Zb (fun u hu=>by
  obtain ⟨g',cap',eg',ht⟩:=Zej hu hn2 hr2 oa n cp
  rw [eg,hf2] at eg'
  obtain ⟨rfl,-⟩:=(by simpa using eg':(g=g')∧True∧cap=cap')
  have:=ht u hu
  rw [hf2] at this
  exact this)
 have hR:Wn s i m z=if (Ze s m ((Zc s m).frames.length - 1)).at_=0 then (Qc s2 m ((Zc s m).frames.length - 1) { Ze s m ((Zc s m).frames.length - 1) with locals:=(Ze s m ((Zc s m).frames.length - 1)).locals.set 0 z },0) else (Zy s2 m z,0):=by
  unfold Wn;rw [if_neg (by omega),Int.toNat_natCast,if_neg hb,← hs2,← hs1]
 generalize Wn s i m z=R at hR ⊢
 have HPUT:Hid (∀ V2 u,Zg base u bs V2 s2→Calls Tryz.prog 87 #[eng bs (.slice oa n cp),.slice (some ⟨u.heap.size,0,none⟩) 1 1] (u.alloc (.cells #[.int .i64 z] 3)) (Jq base bs V2 s2 (Zy s2 m z) (.tuple #[]) (u.alloc (.cells #[.int .i64 z] 3)))):=Zb (fun V2 u hu =>
  Zbg base bs V2 s2 m n cp u.heap.size oa z _ (hu.alloc _) hn2 hr2 (Zd (Zh rfl) 0))
 have HFR:Hid (∀ u,Zg base u bs V s2→u.cell? ⟨g,((Zc s m).frames.length - 1)*4+1,none⟩=some (.int .i64 (Ze s m ((Zc s m).frames.length - 1)).at_)∧u.cell? ⟨g,((Zc s m).frames.length - 1)*4+2,none⟩=some (V (.locals m ((Zc s m).frames.length - 1)))):=Zb (fun u hu=>by
  obtain ⟨g',cap',eg',_,f0,f1,f2,f3,ffz,_⟩:=hu.own.fr hr2.lt (j:=(Zc s m).frames.length - 1) (by rw [hf2];show _<(Zc s m).frames.length;omega)
  rw [eg,hf2] at eg'
  obtain ⟨rfl,-⟩:=(by simpa using eg':(g=g')∧True∧cap=cap')
  rw [hfr2] at f1
  exact ⟨f1,f2⟩)
 have HLOC:Hid ((Ze s m ((Zc s m).frames.length - 1)).at_=0→∃ gl cl,0<(Ze s m ((Zc s m).frames.length - 1)).locals.length∧V (.locals m ((Zc s m).frames.length - 1))=.slice (some ⟨gl,0,none⟩) (Ze s m ((Zc s m).frames.length - 1)).locals.length cl∧∀ u,Zg base u bs V s2→(∃ y,u.cell? ⟨gl,0,none⟩=some y)∧u.frozen? ⟨gl,0,none⟩=false∧Zt base bs V s2 u V (Qc s2 m ((Zc s m).frames.length - 1) { Ze s m ((Zc s m).frames.length - 1) with locals:=(Ze s m ((Zc s m).frames.length - 1)).locals.set 0 z }) (u.setCell ⟨gl,0,none⟩ (.int .i64 z))):=Zb (fun hat=>by
  have hl:=hloc hat
  have hj2:(Zc s m).frames.length - 1<(Zc s2 m).frames.length:=by rw [hf2];show _<(Zc s m).frames.length;omega
  obtain ⟨gl,cl,el,_,_⟩:=Us (h.own.loc hm (j:=(Zc s m).frames.length - 1) (by omega)) hl
  refine ⟨gl,cl,hl,el,fun u hu=>?_⟩
  have hlc:=hu.own.loc hr2.lt hj2
  rw [hfr2] at hlc
  obtain ⟨gl',cl',el',_,hx,hz,_⟩:=Us hlc hl
  rw [el] at el'
  obtain ⟨rfl,-⟩:=(by simpa using el':(gl=gl')∧True∧cl=cl')
  refine ⟨⟨_,hx 0 _ (Zaa (Zs _ 0 0 hl))⟩,hz 0,?_⟩
  have:=Zt.setLocal hu hr2.lt hj2 (q:=0) (by rw [hfr2];exact el) z
  rw [hfr2] at this
  exact this)
 generalize hjj:(Zc s m).frames.length - 1=j at *
 generalize hq:(Zc s m).frames.length=q at *
 generalize hat:(Ze s m j).at_=at_ at *
 generalize (Ze s m j).locals.length=lo at *
 generalize Qc s2 m j { Ze s m j with locals:=(Ze s m j).locals.set 0 z }=s3 at *
 generalize V (.locals m j)=vl at *
 have HR:Hid ((at_=0→R=(s3,0))∧(at_≠0→R=(Zy s2 m z,0))):=Zb ⟨fun h=>by rw [hR,if_pos h],fun h=>by rw [hR,if_neg h]⟩
 clear hs1 hs2 hf2 hfr2 hl2 hr2 hn2 hR eF eg hb hloc hgo hcm hr
 go_enter Tryz.func100,Tryz.ntmps100
 go_wp2_with fail
 refine ((un HG) _).mono ?_
 rintro e w1 ⟨rfl,hk2⟩
 have hk02:=((un HK) _).trans hk2
 have l1:w1.heap[w.heap.size]?=some (.cells #[.pointer (some ⟨bs,0,none⟩),.slice oa n cp] 93):=Zn hk2 (Zh rfl)
 have b0:w1.cell? ⟨w.heap.size,0,none⟩=some (.pointer (some ⟨bs,0,none⟩)):=Zd l1 0
 have e0:=hk02.cell c0
 have e1:=hk02.cell k0
 have e2:=hk02.cell c1
 have e3:=hk02.cell k1
 have ho1:=(un HO).kept hk02
 have z1:w1.frozen? ⟨gF,m*2+1,none⟩=false:=by
  obtain ⟨gF',capF',eF',_,_,_,kz',_⟩:=ho1.own.fib hm
  rw [un HEF] at eF'
  obtain ⟨⟨rfl⟩,-,rfl⟩:=(by simpa using eF':(gF=gF')∧True∧capF=capF')
  exact kz' _
 have z2:=ho1.cells.2.2.2 1
 have hBn:=(un HO).new (b:=w.heap.size) (by omega)
 have hms:=(un HMS) w1 ho1
 have HM2:=Zb ((Zt.of_kept (un HO) hk02).trans hms)
 have HL2:=Zb (hms.lays l1 hBn.1 hBn.2)
 have HB2:=Zb (hms.off _ (Array.getElem?_eq_some_iff.1 l1).1 hBn.2)
 have hBg:gF≠w.heap.size:=fun e=>hBn.2 .fibers trivial (by rw [un HEF,e];rfl)
 have hBs:bs≠w.heap.size:=fun e=>hBn.1 e.symm
 clear hk2 hk02 l1 ho1 hms kz cz
 go_upto_region 5 with fail
 go_region
 go_upto_region 7 with fail
 generalize hw2:((w1.setCell ⟨gF,m*2+1,none⟩ (.int .i64 i)).setCell ⟨bs,1,none⟩ (.int .i64 m)).drew=w2
 have hm2':Zt base bs V s w V s2 w2:=by rw [← hw2];exact (un HM2).drew
 have l2:w2.heap[w.heap.size]?=some (.cells #[.pointer (some ⟨bs,0,none⟩),.slice oa n cp] 93):=by rw [← hw2];exact Xc (un HL2)
 have q0:w2.cell? ⟨w.heap.size,0,none⟩=some (.pointer (some ⟨bs,0,none⟩)):=Zd l2 0
 have q1:w2.cell? ⟨w.heap.size,1,none⟩=some (.slice oa n cp):=Zd l2 1
 have HM3:=Zb hm2'
 have HL3:=Zb l2
 clear hw2 hm2' l2 b0 e0 e1 e2 e3 z1 z2
 go_wp2_with fail
 refine ((un HTP) w2 (un HM3).own).mono ?_
 rintro e w3 ⟨rfl,hk3⟩
 have l3:=Zn hk3 (un HL3)
 have r0:w3.cell? ⟨w.heap.size,0,none⟩=some (.pointer (some ⟨bs,0,none⟩)):=Zd l3 0
 have r1:w3.cell? ⟨w.heap.size,1,none⟩=some (.slice oa n cp):=Zd l3 1
 have hm3:=(un HM3).kept hk3
 obtain ⟨f1,f2⟩:=(un HFR) w3 hm3.own
 have HM4:=Zb hm3
 clear hk3 l3 hm3 q0 q1
 by_cases ha:at_=0
 ·have hRR:=Zb ((un HR).1 ha)
  obtain ⟨gl,cl,hlo,rfl,hall⟩:=(un HLOC) ha
  obtain ⟨⟨y,hy⟩,hz,hm5⟩:=hall w3 (un HM4).own
  have HM5:=Zb ((un HM4).trans hm5)
  subst ha
  have hl0:(0:Int)<(lo:Int):=by omega
  clear hall hm5
  go_wp2
  go_end0
  rw [un hRR]
  exact Or.inl ⟨rfl,rfl,V,un HM5⟩
 ·have hRR:=Zb ((un HR).2 ha)
  have hba:(at_ == 0)=false:=by rw [beq_eq_false_iff_ne];exact ha
  clear ha
  go_wp2_with fail
  refine ((un HPUT) V w3 (un HM4).own).mono ?_
  rintro e w4 ⟨rfl,V4,hm4⟩
  have HM5:=Zb ((un HM4).trans (hm4.pre (un HM4).own ((Za.refl _).alloc _)))
  clear hm4
  go_wp2
  go_end0
  rw [un hRR]
  exact Or.inl ⟨rfl,rfl,V4,un HM5⟩
theorem Zqy (base bs:Nat) (V:Key→Value) (s:St) (i n cp bp op:Nat) (a:Int) (w:World) (h:Zg base w bs V s) (hn:s.now=i) (hr:Zu s i) :
  Calls Tryz.prog 59 #[eng bs (.slice (some ⟨bp,op,none⟩) n cp),.agg #[.int .i64 0,.int .i64 a]] w (Qj base bs V s (Zy s i a,0) w):=by
 have HP:Hid (∀ u V',Zg base u bs V' s→Calls Tryz.prog 87 #[eng bs (.slice (some ⟨bp,op,none⟩) n cp),.slice (some ⟨u.heap.size,0,none⟩) 1 1] (u.alloc (.cells #[.int .i64 a] 3)) (Jq base bs V' s (Zy s i a) (.tuple #[]) (u.alloc (.cells #[.int .i64 a] 3)))):=Zb (fun u V' hu=>Zbg base bs V' s i n cp u.heap.size (some ⟨bp,op,none⟩) a _ (hu.alloc _) hn hr (Zd (Zh rfl) 0))
 have HO:=Zb h
 clear h hr
 go_enter Tryz.func59,Tryz.ntmps59
 go_upto_region 3 with fail
 generalize hwb:(w.alloc (.cells #[.pointer (some ⟨bs,0,none⟩),.slice (some ⟨bp,op,none⟩) n cp] 93)).alloc (.cells #[.int .i64 0,.int .i64 a] 66)=wb
 have hkb:Za w wb:=by rw [← hwb];exact ((Za.refl w).alloc _).alloc _
 have lB:wb.heap[w.heap.size]?=some (.cells #[.pointer (some ⟨bs,0,none⟩),.slice (some ⟨bp,op,none⟩) n cp] 93):=by rw [← hwb];exact Zo (Zh rfl) _
 have lX:wb.heap[w.heap.size+1]?=some (.cells #[.int .i64 0,.int .i64 a] 66):=by rw [← hwb];exact Zh (by simp)
 have b0:wb.cell? ⟨w.heap.size,0,none⟩=some (.pointer (some ⟨bs,0,none⟩)):=Zd lB 0
 have b1:wb.cell? ⟨w.heap.size,1,none⟩=some (.slice (some ⟨bp,op,none⟩) n cp):=Zd lB 1
 have b2:wb.cell? ⟨w.heap.size+1,1,none⟩=some (.int .i64 a):=Zd lX 1
 have HKB:=Zb hkb
 have HLB:=Zb lB
 have HLX:=Zb lX
 clear hwb hkb lB lX
 go_wp2_with fail
 refine ((un HP) _ V ((un HO).kept (un HKB))).mono ?_
 rintro e w1 ⟨rfl,V1,hm⟩
 have HM:=Zb (hm.pre (un HO) ((un HKB).alloc _))
 clear hm
 go_wp2
 go_end0
 exact Or.inl ⟨rfl,rfl,V1,un HM⟩
theorem do_pop (base bs:Nat) (V:Key→Value) (s:St) (i n cp bp op:Nat) (a:Int) (w:World) (h:Zg base w bs V s) (hn:s.now=i) (hr:Zu s i) (hst:0<(Ze s i ((Zc s i).frames.length - 1)).stack.length) :
  Calls Tryz.prog 59 #[eng bs (.slice (some ⟨bp,op,none⟩) n cp),.agg #[.int .i64 1,.int .i64 a]] w (Qj base bs V s (Zf s,0) w):=by
 have HT:Hid (∀ u V',Zg base u bs V' s→Calls Tryz.prog 88 #[eng bs (.slice (some ⟨bp,op,none⟩) n cp)] u (Jq base bs V' s (Zf s) (.int .i64 (Zl s)) u)):=Zb (fun u V' hu=>Zan base bs V' s i n cp (some ⟨bp,op,none⟩) u hu hn hr hst)
 have HO:=Zb h
 clear h hr
 go_enter Tryz.func59,Tryz.ntmps59
 go_upto_region 5 with fail
 generalize hwb:(w.alloc (.cells #[.pointer (some ⟨bs,0,none⟩),.slice (some ⟨bp,op,none⟩) n cp] 93)).alloc (.cells #[.int .i64 1,.int .i64 a] 66)=wb
 have hkb:Za w wb:=by rw [← hwb];exact ((Za.refl w).alloc _).alloc _
 have lB:wb.heap[w.heap.size]?=some (.cells #[.pointer (some ⟨bs,0,none⟩),.slice (some ⟨bp,op,none⟩) n cp] 93):=by rw [← hwb];exact Zo (Zh rfl) _
 have lX:wb.heap[w.heap.size+1]?=some (.cells #[.int .i64 1,.int .i64 a] 66):=by rw [← hwb];exact Zh (by simp)
 have b0:wb.cell? ⟨w.heap.size,0,none⟩=some (.pointer (some ⟨bs,0,none⟩)):=Zd lB 0
 have b1:wb.cell? ⟨w.heap.size,1,none⟩=some (.slice (some ⟨bp,op,none⟩) n cp):=Zd lB 1
 have b2:wb.cell? ⟨w.heap.size+1,1,none⟩=some (.int .i64 a):=Zd lX 1
 have HKB:=Zb hkb
 have HLB:=Zb lB
 have HLX:=Zb lX
 clear hwb hkb lB lX
 go_wp2_with fail
 refine ((un HT) _ V ((un HO).kept (un HKB))).mono ?_
 rintro e w1 ⟨rfl,V1,hm⟩
 have HM:=Zb (hm.pre (un HO) (un HKB))
 clear hm
 go_wp2
 go_end0
 exact Or.inl ⟨rfl,rfl,V1,un HM⟩
theorem Zts (base bs:Nat) (V:Key→Value) (s:St) (i n cp bp op:Nat) (a:Int) (w:World) (h:Zg base w bs V s) (hn:s.now=i) (hr:Zu s i) (hst:2≤(Ze s i ((Zc s i).frames.length - 1)).stack.length) :
  Calls Tryz.prog 59 #[eng bs (.slice (some ⟨bp,op,none⟩) n cp),.agg #[.int .i64 4,.int .i64 a]] w (Qj base bs V s (Zy (Zf (Zf s)) i (Jl 4 (Zl (Zf s)) (Zl s)),0) w):=by
 have HT:=Zb (fun u V' (hu:Zg base u bs V' s)=>Zeh 91 4 (by decide) Zzz base bs V' s i n cp (some ⟨bp,op,none⟩) u hu hn hr hst)
 have HO:=Zb h
 generalize Zy (Zf (Zf s)) i (Jl 4 (Zl (Zf s)) (Zl s))=s1 at *
 clear h hr
 go_enter Tryz.func59,Tryz.ntmps59
 go_upto_region 11 with fail
 generalize hwb:(w.alloc (.cells #[.pointer (some ⟨bs,0,none⟩),.slice (some ⟨bp,op,none⟩) n cp] 93)).alloc (.cells #[.int .i64 4,.int .i64 a] 66)=wb
 have hkb:Za w wb:=by rw [← hwb];exact ((Za.refl w).alloc _).alloc _
 have lB:wb.heap[w.heap.size]?=some (.cells #[.pointer (some ⟨bs,0,none⟩),.slice (some ⟨bp,op,none⟩) n cp] 93):=by rw [← hwb];exact Zo (Zh rfl) _
 have lX:wb.heap[w.heap.size+1]?=some (.cells #[.int .i64 4,.int .i64 a] 66):=by rw [← hwb];exact Zh (by simp)
 have b0:wb.cell? ⟨w.heap.size,0,none⟩=some (.pointer (some ⟨bs,0,none⟩)):=Zd lB 0
 have b1:wb.cell? ⟨w.heap.size,1,none⟩=some (.slice (some ⟨bp,op,none⟩) n cp):=Zd lB 1
 have b2:wb.cell? ⟨w.heap.size+1,1,none⟩=some (.int .i64 a):=Zd lX 1
 have HKB:=Zb hkb
 have HLB:=Zb lB
 have HLX:=Zb lX
 clear hwb hkb lB lX
 go_wp2_with fail
 refine ((un HT) _ V ((un HO).kept (un HKB))).mono ?_
 rintro e w1 ⟨rfl,V1,hm⟩
 have HM:=Zb (hm.pre (un HO) (un HKB))
 clear hm
 go_wp2
 go_end0
 exact Or.inl ⟨rfl,rfl,V1,un HM⟩
theorem Zro (base bs:Nat) (V:Key→Value) (s:St) (i n cp bp op:Nat) (a:Int) (w:World) (h:Zg base w bs V s) (hn:s.now=i) (hr:Zu s i) (hst:2≤(Ze s i ((Zc s i).frames.length - 1)).stack.length) :
  Calls Tryz.prog 59 #[eng bs (.slice (some ⟨bp,op,none⟩) n cp),.agg #[.int .i64 5,.int .i64 a]] w (Qj base bs V s (Zy (Zf (Zf s)) i (Jl 5 (Zl (Zf s)) (Zl s)),0) w):=by
 have HT:=Zb (fun u V' (hu:Zg base u bs V' s)=>Zeh 92 5 (by decide) Zph base bs V' s i n cp (some ⟨bp,op,none⟩) u hu hn hr hst)
 have HO:=Zb h
 generalize Zy (Zf (Zf s)) i (Jl 5 (Zl (Zf s)) (Zl s))=s1 at *
 clear h hr
 go_enter Tryz.func59,Tryz.ntmps59
 go_upto_region 13 with fail
 generalize hwb:(w.alloc (.cells #[.pointer (some ⟨bs,0,none⟩),.slice (some ⟨bp,op,none⟩) n cp] 93)).alloc (.cells #[.int .i64 5,.int .i64 a] 66)=wb
 have hkb:Za w wb:=by rw [← hwb];exact ((Za.refl w).alloc _).alloc _
 have lB:wb.heap[w.heap.size]?=some (.cells #[.pointer (some ⟨bs,0,none⟩),.slice (some ⟨bp,op,none⟩) n cp] 93):=by rw [← hwb];exact Zo (Zh rfl) _
 have lX:wb.heap[w.heap.size+1]?=some (.cells #[.int .i64 5,.int .i64 a] 66):=by rw [← hwb];exact Zh (by simp)
 have b0:wb.cell? ⟨w.heap.size,0,none⟩=some (.pointer (some ⟨bs,0,none⟩)):=Zd lB 0
 have b1:wb.cell? ⟨w.heap.size,1,none⟩=some (.slice (some ⟨bp,op,none⟩) n cp):=Zd lB 1
 have b2:wb.cell? ⟨w.heap.size+1,1,none⟩=some (.int .i64 a):=Zd lX 1
 have HKB:=Zb hkb
 have HLB:=Zb lB
 have HLX:=Zb lX
 clear hwb hkb lB lX
 go_wp2_with fail
 refine ((un HT) _ V ((un HO).kept (un HKB))).mono ?_
 rintro e w1 ⟨rfl,V1,hm⟩
 have HM:=Zb (hm.pre (un HO) (un HKB))
 clear hm
 go_wp2
 go_end0
 exact Or.inl ⟨rfl,rfl,V1,un HM⟩
theorem Xdx (base bs:Nat) (V:Key→Value) (s:St) (i n cp bp op:Nat) (a:Int) (w:World) (h:Zg base w bs V s) (hn:s.now=i) (hr:Zu s i) (hst:2≤(Ze s i ((Zc s i).frames.length - 1)).stack.length) :
  Calls Tryz.prog 59 #[eng bs (.slice (some ⟨bp,op,none⟩) n cp),.agg #[.int .i64 6,.int .i64 a]] w (Qj base bs V s (Zy (Zf (Zf s)) i (Jl 6 (Zl (Zf s)) (Zl s)),0) w):=by
 have HT:=Zb (fun u V' (hu:Zg base u bs V' s)=>Zeh 93 6 (by decide) Zyv base bs V' s i n cp (some ⟨bp,op,none⟩) u hu hn hr hst)
 have HO:=Zb h
 generalize Zy (Zf (Zf s)) i (Jl 6 (Zl (Zf s)) (Zl s))=s1 at *
 clear h hr
 go_enter Tryz.func59,Tryz.ntmps59
 go_upto_region 15 with fail
 generalize hwb:(w.alloc (.cells #[.pointer (some ⟨bs,0,none⟩),.slice (some ⟨bp,op,none⟩) n cp] 93)).alloc (.cells #[.int .i64 6,.int .i64 a] 66)=wb
 have hkb:Za w wb:=by rw [← hwb];exact ((Za.refl w).alloc _).alloc _
 have lB:wb.heap[w.heap.size]?=some (.cells #[.pointer (some ⟨bs,0,none⟩),.slice (some ⟨bp,op,none⟩) n cp] 93):=by rw [← hwb];exact Zo (Zh rfl) _
 have lX:wb.heap[w.heap.size+1]?=some (.cells #[.int .i64 6,.int .i64 a] 66):=by rw [← hwb];exact Zh (by simp)
 have b0:wb.cell? ⟨w.heap.size,0,none⟩=some (.pointer (some ⟨bs,0,none⟩)):=Zd lB 0
 have b1:wb.cell? ⟨w.heap.size,1,none⟩=some (.slice (some ⟨bp,op,none⟩) n cp):=Zd lB 1
 have b2:wb.cell? ⟨w.heap.size+1,1,none⟩=some (.int .i64 a):=Zd lX 1
 have HKB:=Zb hkb
 have HLB:=Zb lB
 have HLX:=Zb lX
 clear hwb hkb lB lX
 go_wp2_with fail
 refine ((un HT) _ V ((un HO).kept (un HKB))).mono ?_
 rintro e w1 ⟨rfl,V1,hm⟩
 have HM:=Zb (hm.pre (un HO) (un HKB))
 clear hm
 go_wp2
 go_end0
 exact Or.inl ⟨rfl,rfl,V1,un HM⟩
theorem Xbm (base bs:Nat) (V:Key→Value) (s:St) (i n cp bp op:Nat) (a:Int) (w:World) (h:Zg base w bs V s) (hn:s.now=i) (hr:Zu s i) (hst:2≤(Ze s i ((Zc s i).frames.length - 1)).stack.length) :
  Calls Tryz.prog 59 #[eng bs (.slice (some ⟨bp,op,none⟩) n cp),.agg #[.int .i64 7,.int .i64 a]] w (Qj base bs V s (Zy (Zf (Zf s)) i (Jl 7 (Zl (Zf s)) (Zl s)),0) w):=by
 have HT:=Zb (fun u V' (hu:Zg base u bs V' s)=>Zeh 94 7 (by decide) Zqw base bs V' s i n cp (some ⟨bp,op,none⟩) u hu hn hr hst)
 have HO:=Zb h
 generalize Zy (Zf (Zf s)) i (Jl 7 (Zl (Zf s)) (Zl s))=s1 at *
 clear h hr
 go_enter Tryz.func59,Tryz.ntmps59
 go_upto_region 17 with fail
 generalize hwb:(w.alloc (.cells #[.pointer (some ⟨bs,0,none⟩),.slice (some ⟨bp,op,none⟩) n cp] 93)).alloc (.cells #[.int .i64 7,.int .i64 a] 66)=wb
 have hkb:Za w wb:=by rw [← hwb];exact ((Za.refl w).alloc _).alloc _
 have lB:wb.heap[w.heap.size]?=some (.cells #[.pointer (some ⟨bs,0,none⟩),.slice (some ⟨bp,op,none⟩) n cp] 93):=by rw [← hwb];exact Zo (Zh rfl) _
 have lX:wb.heap[w.heap.size+1]?=some (.cells #[.int .i64 7,.int .i64 a] 66):=by rw [← hwb];exact Zh (by simp)
 have b0:wb.cell? ⟨w.heap.size,0,none⟩=some (.pointer (some ⟨bs,0,none⟩)):=Zd lB 0
 have b1:wb.cell? ⟨w.heap.size,1,none⟩=some (.slice (some ⟨bp,op,none⟩) n cp):=Zd lB 1
 have b2:wb.cell? ⟨w.heap.size+1,1,none⟩=some (.int .i64 a):=Zd lX 1
 have HKB:=Zb hkb
 have HLB:=Zb lB
 have HLX:=Zb lX
 clear hwb hkb lB lX
 go_wp2_with fail
 refine ((un HT) _ V ((un HO).kept (un HKB))).mono ?_
 rintro e w1 ⟨rfl,V1,hm⟩
 have HM:=Zb (hm.pre (un HO) (un HKB))
 clear hm
 go_wp2
 go_end0
 exact Or.inl ⟨rfl,rfl,V1,un HM⟩
theorem Zzt (base bs:Nat) (V:Key→Value) (s:St) (i n cp bp op:Nat) (a:Int) (w:World) (h:Zg base w bs V s) (hn:s.now=i) (hr:Zu s i) (hst:2≤(Ze s i ((Zc s i).frames.length - 1)).stack.length) :
  Calls Tryz.prog 59 #[eng bs (.slice (some ⟨bp,op,none⟩) n cp),.agg #[.int .i64 8,.int .i64 a]] w (Qj base bs V s (Zy (Zf (Zf s)) i (Jl 8 (Zl (Zf s)) (Zl s)),0) w):=by
 have HT:=Zb (fun u V' (hu:Zg base u bs V' s)=>Zeh 96 8 (by decide) Zsa base bs V' s i n cp (some ⟨bp,op,none⟩) u hu hn hr hst)
 have HO:=Zb h
 generalize Zy (Zf (Zf s)) i (Jl 8 (Zl (Zf s)) (Zl s))=s1 at *
 clear h hr
 go_enter Tryz.func59,Tryz.ntmps59
 go_upto_region 19 with fail
 generalize hwb:(w.alloc (.cells #[.pointer (some ⟨bs,0,none⟩),.slice (some ⟨bp,op,none⟩) n cp] 93)).alloc (.cells #[.int .i64 8,.int .i64 a] 66)=wb
 have hkb:Za w wb:=by rw [← hwb];exact ((Za.refl w).alloc _).alloc _
 have lB:wb.heap[w.heap.size]?=some (.cells #[.pointer (some ⟨bs,0,none⟩),.slice (some ⟨bp,op,none⟩) n cp] 93):=by rw [← hwb];exact Zo (Zh rfl) _
 have lX:wb.heap[w.heap.size+1]?=some (.cells #[.int .i64 8,.int .i64 a] 66):=by rw [← hwb];exact Zh (by simp)
 have b0:wb.cell? ⟨w.heap.size,0,none⟩=some (.pointer (some ⟨bs,0,none⟩)):=Zd lB 0
 have b1:wb.cell? ⟨w.heap.size,1,none⟩=some (.slice (some ⟨bp,op,none⟩) n cp):=Zd lB 1
 have b2:wb.cell? ⟨w.heap.size+1,1,none⟩=some (.int .i64 a):=Zd lX 1
 have HKB:=Zb hkb
 have HLB:=Zb lB
 have HLX:=Zb lX
 clear hwb hkb lB lX
 go_wp2_with fail
 refine ((un HT) _ V ((un HO).kept (un HKB))).mono ?_
 rintro e w1 ⟨rfl,V1,hm⟩
 have HM:=Zb (hm.pre (un HO) (un HKB))
 clear hm
 go_wp2
 go_end0
 exact Or.inl ⟨rfl,rfl,V1,un HM⟩
theorem Zpf (base bs:Nat) (V:Key→Value) (s:St) (i n cp bp op:Nat) (a:Int) (w:World) (h:Zg base w bs V s) (hn:s.now=i) (hr:Zu s i) (f a2 lo:Nat) (haf:a=f) (h6:(Zc s i).frames.length≤6) (hf:f<n) (hlo:lo≤1000) (hal:a2≤lo) (ha:a2≤(Ze s i ((Zc s i).frames.length - 1)).stack.length)
  (hp:∀ u,Below base w u→u.cell? ⟨bp,op+f*3,none⟩=some (.int .i64 a2)∧u.cell? ⟨bp,op+f*3+1,none⟩=some (.int .i64 lo)) :
  Calls Tryz.prog 59 #[eng bs (.slice (some ⟨bp,op,none⟩) n cp),.agg #[.int .i64 11,.int .i64 a]] w (Qj base bs V s (Zce s i f a2 lo) w):=by
 have HT:=Zb (fun u (hu:Za w u)=>Ztl base bs V s i n cp bp op f a2 lo u (h.kept hu) hn hr h6 hf hlo hal ha (fun u' hb=>hp u' (Below.trans (h.below hu) hb)))
 have HO:=Zb h
 generalize Zce s i f a2 lo=R at *
 subst haf
 clear h hr hp
 go_enter Tryz.func59,Tryz.ntmps59
 go_upto_region 26 with fail
 generalize hwb:(w.alloc (.cells #[.pointer (some ⟨bs,0,none⟩),.slice (some ⟨bp,op,none⟩) n cp] 93)).alloc (.cells #[.int .i64 11,.int .i64 f] 66)=wb
 have hkb:Za w wb:=by rw [← hwb];exact ((Za.refl w).alloc _).alloc _
 have lB:wb.heap[w.heap.size]?=some (.cells #[.pointer (some ⟨bs,0,none⟩),.slice (some ⟨bp,op,none⟩) n cp] 93):=by rw [← hwb];exact Zo (Zh rfl) _
 have lX:wb.heap[w.heap.size+1]?=some (.cells #[.int .i64 11,.int .i64 f] 66):=by rw [← hwb];exact Zh (by simp)
 have b0:wb.cell? ⟨w.heap.size,0,none⟩=some (.pointer (some ⟨bs,0,none⟩)):=Zd lB 0
 have b1:wb.cell? ⟨w.heap.size,1,none⟩=some (.slice (some ⟨bp,op,none⟩) n cp):=Zd lB 1
 have b2:wb.cell? ⟨w.heap.size+1,1,none⟩=some (.int .i64 f):=Zd lX 1
 have HKB:=Zb hkb
 have HLB:=Zb lB
 have HLX:=Zb lX
 clear hwb hkb lB lX
 go_wp2_with fail
 refine ((un HT) _ (un HKB)).mono ?_
 intro e w1 hp
 have hp':=hp.pre (un HO) (Zt.of_kept (un HO) (un HKB))
 have HP:=Zb hp'
 rcases hp with ⟨_,rfl,_⟩ | ⟨_,rfl,_⟩
 ·clear hp'
  go_wp2
  go_end0
  exact un HP
 ·clear hp'
  dsimp only [left]
  go_wp2
  exact ⟨rfl,un HP⟩
theorem Zqs (base bs:Nat) (V:Key→Value) (s:St) (i n cp bp op:Nat) (a:Int) (w:World) (h:Zg base w bs V s) (hn:s.now=i) (hr:Zu s i) (f lo:Nat) (haf:a=f) (h5:s.fibers.length≤5) (hf:f<n) (hlo:lo≤1000) (hp:∀ u,Below base w u→u.cell? ⟨bp,op+f*3+1,none⟩=some (.int .i64 lo)) :
  Calls Tryz.prog 59 #[eng bs (.slice (some ⟨bp,op,none⟩) n cp),.agg #[.int .i64 13,.int .i64 a]] w (Qj base bs V s (Zaf s i f lo) w):=by
 have HT:=Zb (fun u (hu:Za w u)=>Xdt base bs V s i n cp bp op f lo u (h.kept hu) hn hr h5 hf hlo (fun u' hb=>hp u' (Below.trans (h.below hu) hb)))
 have HO:=Zb h
 generalize Zaf s i f lo=R at *
 subst haf
 clear h hr hp
 go_enter Tryz.func59,Tryz.ntmps59
 go_upto_region 30 with fail
 generalize hwb:(w.alloc (.cells #[.pointer (some ⟨bs,0,none⟩),.slice (some ⟨bp,op,none⟩) n cp] 93)).alloc (.cells #[.int .i64 13,.int .i64 f] 66)=wb
 have hkb:Za w wb:=by rw [← hwb];exact ((Za.refl w).alloc _).alloc _
 have lB:wb.heap[w.heap.size]?=some (.cells #[.pointer (some ⟨bs,0,none⟩),.slice (some ⟨bp,op,none⟩) n cp] 93):=by rw [← hwb];exact Zo (Zh rfl) _
 have lX:wb.heap[w.heap.size+1]?=some (.cells #[.int .i64 13,.int .i64 f] 66):=by rw [← hwb];exact Zh (by simp)
 have b0:wb.cell? ⟨w.heap.size,0,none⟩=some (.pointer (some ⟨bs,0,none⟩)):=Zd lB 0
 have b1:wb.cell? ⟨w.heap.size,1,none⟩=some (.slice (some ⟨bp,op,none⟩) n cp):=Zd lB 1
 have b2:wb.cell? ⟨w.heap.size+1,1,none⟩=some (.int .i64 f):=Zd lX 1
 have HKB:=Zb hkb
 have HLB:=Zb lB
 have HLX:=Zb lX
 clear hwb hkb lB lX
 go_wp2_with fail
 refine ((un HT) _ (un HKB)).mono ?_
 intro e w1 hp
 have hp':=hp.pre (un HO) (Zt.of_kept (un HO) (un HKB))
 have HP:=Zb hp'
 rcases hp with ⟨_,rfl,_⟩ | ⟨_,rfl,_⟩
 ·clear hp'
  go_wp2
  go_end0
  exact un HP
 ·clear hp'
  dsimp only [left]
  go_wp2
  exact ⟨rfl,un HP⟩
theorem Zwx (base bs:Nat) (V:Key→Value) (s:St) (i n cp bp op:Nat) (a:Int) (w:World) (h:Zg base w bs V s) (hn:s.now=i) (hr:Zu s i) (hst:0<(Ze s i ((Zc s i).frames.length - 1)).stack.length) (hout:s.out.length≤30) (hr1:Zu (Zf s) i) (hc1:(Zc (Zf s) i).frames.length=1→(Zc (Zf s) i).caller≠-1→∃ m:Nat,(Zc (Zf s) i).caller=m∧m≠i∧Zu (Zf s) m) (hc2:(Zc (Zf s) i).frames.length≠1→Zu (dropped (Zf s) i) i) :
  Calls Tryz.prog 59 #[eng bs (.slice (some ⟨bp,op,none⟩) n cp),.agg #[.int .i64 12,.int .i64 a]] w (Qj base bs V s (Ut (Zf s) i (Zl s)) w):=by
 have HT:Hid (∀ u V',Zg base u bs V' s→Calls Tryz.prog 88 #[eng bs (.slice (some ⟨bp,op,none⟩) n cp)] u (Jq base bs V' s (Zf s) (.int .i64 (Zl s)) u)):=Zb (fun u V' hu=>Zan base bs V' s i n cp (some ⟨bp,op,none⟩) u hu hn hr hst)
 have HC:Hid (∀ u V',Zg base u bs V' (Zf s)→Calls Tryz.prog 98 #[eng bs (.slice (some ⟨bp,op,none⟩) n cp),.int .i64 (Zl s)] u (Qj base bs V' (Zf s) (Ut (Zf s) i (Zl s)) u)):=Zb (fun u V' hu=>Xdi base bs V' (Zf s) i n cp (some ⟨bp,op,none⟩) (Zl s) u hu hn hr1 hout hc1 hc2)
 have HO:=Zb h
 generalize Ut (Zf s) i (Zl s)=R at *
 generalize Zf s=s1 at *
 generalize Zl s=z at *
 clear h hr
 go_enter Tryz.func59,Tryz.ntmps59
 go_upto_region 28 with fail
 generalize hwb:(w.alloc (.cells #[.pointer (some ⟨bs,0,none⟩),.slice (some ⟨bp,op,none⟩) n cp] 93)).alloc (.cells #[.int .i64 12,.int .i64 a] 66)=wb
 have hkb:Za w wb:=by rw [← hwb];exact ((Za.refl w).alloc _).alloc _
 have lB:wb.heap[w.heap.size]?=some (.cells #[.pointer (some ⟨bs,0,none⟩),.slice (some ⟨bp,op,none⟩) n cp] 93):=by rw [← hwb];exact Zo (Zh rfl) _
 have lX:wb.heap[w.heap.size+1]?=some (.cells #[.int .i64 12,.int .i64 a] 66):=by rw [← hwb];exact Zh (by simp)
 have b0:wb.cell? ⟨w.heap.size,0,none⟩=some (.pointer (some ⟨bs,0,none⟩)):=Zd lB 0
 have b1:wb.cell? ⟨w.heap.size,1,none⟩=some (.slice (some ⟨bp,op,none⟩) n cp):=Zd lB 1
 have b2:wb.cell? ⟨w.heap.size+1,1,none⟩=some (.int .i64 a):=Zd lX 1
 have HKB:=Zb hkb
 have HLB:=Zb lB
 have HLX:=Zb lX
 clear hwb hkb lB lX
 obtain ⟨hBn,hBo⟩:=(un HO).new (b:=w.heap.size) (by omega)
 have HD:=Zb ((Zt.of_kept (un HO) (un HKB)).drew)
 refine Wt 3 [0,1] (fun u=>u.cell? ⟨w.heap.size,0,none⟩=some (.pointer (some ⟨bs,0,none⟩))∧u.cell? ⟨w.heap.size,1,none⟩=some (.slice (some ⟨bp,op,none⟩) n cp)) (by kernel_rfl) ?_
 have hHeld:=And.intro b0 b1
 repeat
  refine Yp (v:=?_) hHeld (fun u hSu=>?_) ?_
  rotate_left
  ·((try dsimp only at hSu);go_simp) <;> with_reducible rfl
  try simp only [PS]
 refine Yx ?_
 refine Zq (i:=2) rfl (by kernel_rfl) (fun K hK=>?_)
 go_simp
 refine ((un HT) _ V (un HD).own).mono ?_
 rintro e w1 ⟨rfl,V1,hm⟩
 have l1:=hm.lays (Xc (un HLB)) hBn hBo
 have HM1:=Zb ((un HD).trans hm)
 refine hK.out _ _ (fun _=>⟨Zd l1 0,Zd l1 1⟩) ?_
 clear hK K hm l1
 try simp only [PS]
 refine Zq (i:=3) rfl (by kernel_rfl) (fun K hK=>?_)
 go_simp
 refine ((un HC) _ V1 (un HM1).own).mono ?_
 intro e w2 hp
 have hp':=hp.pre (un HO) (un HM1)
 have HP:=Zb hp'
 rcases hp with ⟨_,rfl,_⟩ | ⟨_,rfl,_⟩
 ·refine hK.out _ _ (fun h=>absurd rfl h) ?_
  clear hK K hp'
  refine Qz (by kernel_rfl) ?_ _
  go_wp2
  go_end0
  exact un HP
 ·clear hp'
  dsimp only [left]
  exact ⟨rfl,un HP⟩
theorem Zrx (base bs:Nat) (V:Key→Value) (s:St) (i n cp bp op:Nat) (a:Int) (w:World) (h:Zg base w bs V s) (hn:s.now=i) (hr:Zu s i) (hst:0<(Ze s i ((Zc s i).frames.length - 1)).stack.length) (hi1:i<(Zf s).fibers.length) (hc:(Zc (Zf s) i).caller≠-1→∃ m:Nat,(Zc (Zf s) i).caller=m∧m≠i∧Zu (Zf s) m) :
  Calls Tryz.prog 59 #[eng bs (.slice (some ⟨bp,op,none⟩) n cp),.agg #[.int .i64 15,.int .i64 a]] w (Qj base bs V s (Pz (Zf s) i (Zl s)) w):=by
 have HT:Hid (∀ u V',Zg base u bs V' s→Calls Tryz.prog 88 #[eng bs (.slice (some ⟨bp,op,none⟩) n cp)] u (Jq base bs V' s (Zf s) (.int .i64 (Zl s)) u)):=Zb (fun u V' hu=>Zan base bs V' s i n cp (some ⟨bp,op,none⟩) u hu hn hr hst)
 have HC:Hid (∀ u V',Zg base u bs V' (Zf s)→Calls Tryz.prog 101 #[eng bs (.slice (some ⟨bp,op,none⟩) n cp),.int .i64 (Zl s)] u (Qj base bs V' (Zf s) (Pz (Zf s) i (Zl s)) u)):=Zb (fun u V' hu=>Zpl base bs V' (Zf s) i n cp (some ⟨bp,op,none⟩) (Zl s) u hu hn hi1 hc)
 have HO:=Zb h
 generalize Pz (Zf s) i (Zl s)=R at *
 generalize Zf s=s1 at *
 generalize Zl s=z at *
 clear h hr
 go_enter Tryz.func59,Tryz.ntmps59
 go_upto_region 35 with fail
 generalize hwb:(w.alloc (.cells #[.pointer (some ⟨bs,0,none⟩),.slice (some ⟨bp,op,none⟩) n cp] 93)).alloc (.cells #[.int .i64 15,.int .i64 a] 66)=wb
 have hkb:Za w wb:=by rw [← hwb];exact ((Za.refl w).alloc _).alloc _
 have lB:wb.heap[w.heap.size]?=some (.cells #[.pointer (some ⟨bs,0,none⟩),.slice (some ⟨bp,op,none⟩) n cp] 93):=by rw [← hwb];exact Zo (Zh rfl) _
 have lX:wb.heap[w.heap.size+1]?=some (.cells #[.int .i64 15,.int .i64 a] 66):=by rw [← hwb];exact Zh (by simp)
 have b0:wb.cell? ⟨w.heap.size,0,none⟩=some (.pointer (some ⟨bs,0,none⟩)):=Zd lB 0
 have b1:wb.cell? ⟨w.heap.size,1,none⟩=some (.slice (some ⟨bp,op,none⟩) n cp):=Zd lB 1
 have b2:wb.cell? ⟨w.heap.size+1,1,none⟩=some (.int .i64 a):=Zd lX 1
 have HKB:=Zb hkb
 have HLB:=Zb lB
 have HLX:=Zb lX
 clear hwb hkb lB lX
 obtain ⟨hBn,hBo⟩:=(un HO).new (b:=w.heap.size) (by omega)
 have HD:=Zb ((Zt.of_kept (un HO) (un HKB)).drew)
 refine Wt 3 [0,1] (fun u=>u.cell? ⟨w.heap.size,0,none⟩=some (.pointer (some ⟨bs,0,none⟩))∧u.cell? ⟨w.heap.size,1,none⟩=some (.slice (some ⟨bp,op,none⟩) n cp)) (by kernel_rfl) ?_
 have hHeld:=And.intro b0 b1
 repeat
  refine Yp (v:=?_) hHeld (fun u hSu=>?_) ?_
  rotate_left
  ·((try dsimp only at hSu);go_simp) <;> with_reducible rfl
  try simp only [PS]
 refine Yx ?_
 refine Zq (i:=2) rfl (by kernel_rfl) (fun K hK=>?_)
 go_simp
 refine ((un HT) _ V (un HD).own).mono ?_
 rintro e w1 ⟨rfl,V1,hm⟩
 have l1:=hm.lays (Xc (un HLB)) hBn hBo
 have HM1:=Zb ((un HD).trans hm)
 refine hK.out _ _ (fun _=>⟨Zd l1 0,Zd l1 1⟩) ?_
 clear hK K hm l1
 try simp only [PS]
 refine Zq (i:=3) rfl (by kernel_rfl) (fun K hK=>?_)
 go_simp
 refine ((un HC) _ V1 (un HM1).own).mono ?_
 intro e w2 hp
 have hp':=hp.pre (un HO) (un HM1)
 have HP:=Zb hp'
 rcases hp with ⟨_,rfl,_⟩ | ⟨_,rfl,_⟩
 ·refine hK.out _ _ (fun h=>absurd rfl h) ?_
  clear hK K hp'
  refine Qz (by kernel_rfl) ?_ _
  go_wp2
  go_end0
  exact un HP
 ·clear hp'
  dsimp only [left]
  exact ⟨rfl,un HP⟩
theorem do_put (base bs:Nat) (V:Key→Value) (s:St) (i n cp bp op:Nat) (a:Int) (w:World) (h:Zg base w bs V s) (hn:s.now=i) (hr:Zu s i) (hst:0<(Ze s i ((Zc s i).frames.length - 1)).stack.length) (hout:s.out.length≤30) :
  Calls Tryz.prog 59 #[eng bs (.slice (some ⟨bp,op,none⟩) n cp),.agg #[.int .i64 16,.int .i64 a]] w (Qj base bs V s (Qq (Zf s) (Zl s)) w):=by
 have HT:Hid (∀ u V',Zg base u bs V' s→Calls Tryz.prog 88 #[eng bs (.slice (some ⟨bp,op,none⟩) n cp)] u (Jq base bs V' s (Zf s) (.int .i64 (Zl s)) u)):=Zb (fun u V' hu=>Zan base bs V' s i n cp (some ⟨bp,op,none⟩) u hu hn hr hst)
 have HC:Hid (∀ u V',Zg base u bs V' (Zf s)→Calls Tryz.prog 102 #[eng bs (.slice (some ⟨bp,op,none⟩) n cp),.int .i64 (Zl s)] u (Qj base bs V' (Zf s) (Qq (Zf s) (Zl s)) u)):=Zb (fun u V' hu=>Zng base bs V' (Zf s) n cp (some ⟨bp,op,none⟩) (Zl s) u hu hout)
 have HO:=Zb h
 generalize Qq (Zf s) (Zl s)=R at *
 generalize Zf s=s1 at *
 generalize Zl s=z at *
 clear h hr
 go_enter Tryz.func59,Tryz.ntmps59
 go_upto_region 37 with fail
 generalize hwb:(w.alloc (.cells #[.pointer (some ⟨bs,0,none⟩),.slice (some ⟨bp,op,none⟩) n cp] 93)).alloc (.cells #[.int .i64 16,.int .i64 a] 66)=wb
 have hkb:Za w wb:=by rw [← hwb];exact ((Za.refl w).alloc _).alloc _
 have lB:wb.heap[w.heap.size]?=some (.cells #[.pointer (some ⟨bs,0,none⟩),.slice (some ⟨bp,op,none⟩) n cp] 93):=by rw [← hwb];exact Zo (Zh rfl) _
 have lX:wb.heap[w.heap.size+1]?=some (.cells #[.int .i64 16,.int .i64 a] 66):=by rw [← hwb];exact Zh (by simp)
 have b0:wb.cell? ⟨w.heap.size,0,none⟩=some (.pointer (some ⟨bs,0,none⟩)):=Zd lB 0
 have b1:wb.cell? ⟨w.heap.size,1,none⟩=some (.slice (some ⟨bp,op,none⟩) n cp):=Zd lB 1
 have b2:wb.cell? ⟨w.heap.size+1,1,none⟩=some (.int .i64 a):=Zd lX 1
 have HKB:=Zb hkb
 have HLB:=Zb lB
 have HLX:=Zb lX
 clear hwb hkb lB lX
 obtain ⟨hBn,hBo⟩:=(un HO).new (b:=w.heap.size) (by omega)
 have HD:=Zb ((Zt.of_kept (un HO) (un HKB)).drew)
 refine Wt 3 [0,1] (fun u=>u.cell? ⟨w.heap.size,0,none⟩=some (.pointer (some ⟨bs,0,none⟩))∧u.cell? ⟨w.heap.size,1,none⟩=some (.slice (some ⟨bp,op,none⟩) n cp)) (by kernel_rfl) ?_
 have hHeld:=And.intro b0 b1
 repeat
  refine Yp (v:=?_) hHeld (fun u hSu=>?_) ?_
  rotate_left
  ·((try dsimp only at hSu);go_simp) <;> with_reducible rfl
  try simp only [PS]
 refine Yx ?_
 refine Zq (i:=2) rfl (by kernel_rfl) (fun K hK=>?_)
 go_simp
 refine ((un HT) _ V (un HD).own).mono ?_
 rintro e w1 ⟨rfl,V1,hm⟩
 have l1:=hm.lays (Xc (un HLB)) hBn hBo
 have HM1:=Zb ((un HD).trans hm)
 refine hK.out _ _ (fun _=>⟨Zd l1 0,Zd l1 1⟩) ?_
 clear hK K hm l1
 try simp only [PS]
 refine Zq (i:=3) rfl (by kernel_rfl) (fun K hK=>?_)
 go_simp
 refine ((un HC) _ V1 (un HM1).own).mono ?_
 intro e w2 hp
 have hp':=hp.pre (un HO) (un HM1)
 have HP:=Zb hp'
 rcases hp with ⟨_,rfl,_⟩ | ⟨_,rfl,_⟩
 ·refine hK.out _ _ (fun h=>absurd rfl h) ?_
  clear hK K hp'
  refine Qz (by kernel_rfl) ?_ _
  go_wp2
  go_end0
  exact un HP
 ·clear hp'
  dsimp only [left]
  exact ⟨rfl,un HP⟩
theorem Zwf (base bs:Nat) (V:Key→Value) (s:St) (i n cp bp op:Nat) (a:Int) (w:World) (h:Zg base w bs V s) (hn:s.now=i) (hr:Zu s i) (hst:2≤(Ze s i ((Zc s i).frames.length - 1)).stack.length) (hall:∀ u V',Zg base u bs V' (Zf (Zf s))→Calls Tryz.prog 100 #[eng bs (.slice (some ⟨bp,op,none⟩) n cp),.int .i64 (Zl (Zf s)),.int .i64 (Zl s)] u (Qj base bs V' (Zf (Zf s)) (Wn (Zf (Zf s)) i (Zl (Zf s)) (Zl s)) u)) :
  Calls Tryz.prog 59 #[eng bs (.slice (some ⟨bp,op,none⟩) n cp),.agg #[.int .i64 14,.int .i64 a]] w (Qj base bs V s (Wn (Zf (Zf s)) i (Zl (Zf s)) (Zl s)) w):=by
 obtain ⟨hn1,hr1,hs1⟩:=Zbi hn hr
 have HT:Hid (∀ u V',Zg base u bs V' s→Calls Tryz.prog 88 #[eng bs (.slice (some ⟨bp,op,none⟩) n cp)] u (Jq base bs V' s (Zf s) (.int .i64 (Zl s)) u)):=Zb (fun u V' hu=>Zan base bs V' s i n cp (some ⟨bp,op,none⟩) u hu hn hr (by omega))
 have HT2:Hid (∀ u V',Zg base u bs V' (Zf s)→Calls Tryz.prog 88 #[eng bs (.slice (some ⟨bp,op,none⟩) n cp)] u (Jq base bs V' (Zf s) (Zf (Zf s)) (.int .i64 (Zl (Zf s))) u)):=Zb (fun u V' hu=>Zan base bs V' (Zf s) i n cp (some ⟨bp,op,none⟩) u hu hn1 hr1 (by rw [hs1];simp;omega))
 have HC:=Zb hall
 have HO:=Zb h
 generalize Wn (Zf (Zf s)) i (Zl (Zf s)) (Zl s)=R at *
 generalize Zl s=z at *
 generalize hs1':Zf s=s1 at *
 generalize Zf s1=s2 at *
 generalize Zl s1=x at *
 clear h hr hr1 hs1 hn1 hall hs1'
 go_enter Tryz.func59,Tryz.ntmps59
 go_upto_region 32 with fail
 generalize hwb:(w.alloc (.cells #[.pointer (some ⟨bs,0,none⟩),.slice (some ⟨bp,op,none⟩) n cp] 93)).alloc (.cells #[.int .i64 14,.int .i64 a] 66)=wb
 have hkb:Za w wb:=by rw [← hwb];exact ((Za.refl w).alloc _).alloc _
 have lB:wb.heap[w.heap.size]?=some (.cells #[.pointer (some ⟨bs,0,none⟩),.slice (some ⟨bp,op,none⟩) n cp] 93):=by rw [← hwb];exact Zo (Zh rfl) _
 have lX:wb.heap[w.heap.size+1]?=some (.cells #[.int .i64 14,.int .i64 a] 66):=by rw [← hwb];exact Zh (by simp)
 have b0:wb.cell? ⟨w.heap.size,0,none⟩=some (.pointer (some ⟨bs,0,none⟩)):=Zd lB 0
 have b1:wb.cell? ⟨w.heap.size,1,none⟩=some (.slice (some ⟨bp,op,none⟩) n cp):=Zd lB 1
 have b2:wb.cell? ⟨w.heap.size+1,1,none⟩=some (.int .i64 a):=Zd lX 1
 have HKB:=Zb hkb
 have HLB:=Zb lB
 have HLX:=Zb lX
 clear hwb hkb lB lX
 obtain ⟨hBn,hBo⟩:=(un HO).new (b:=w.heap.size) (by omega)
 have HD:=Zb (Zt.of_kept (un HO) (un HKB))
 go_wp2_with fail
 refine ((un HT) _ V (un HD).own).mono ?_
 rintro e w0 ⟨rfl,V0,hm⟩
 have l0:=hm.lays (un HLB) hBn hBo
 have HL0:=Zb l0
 have HB0:=Zb (hm.off _ (Array.getElem?_eq_some_iff.1 (un HLB)).1 hBo)
 have c0:w0.cell? ⟨w.heap.size,0,none⟩=some (.pointer (some ⟨bs,0,none⟩)):=Zd l0 0
 have c1:w0.cell? ⟨w.heap.size,1,none⟩=some (.slice (some ⟨bp,op,none⟩) n cp):=Zd l0 1
 have HM0:=Zb (((un HD).trans hm).drew)
 clear hm l0 b0 b1 b2
 go_upto_region 33 with fail
 refine Wt 4 [0,1,3] (fun u=>u.cell? ⟨w.heap.size,0,none⟩=some (.pointer (some ⟨bs,0,none⟩))∧u.cell? ⟨w.heap.size,1,none⟩=some (.slice (some ⟨bp,op,none⟩) n cp)) (by kernel_rfl) ?_
 have hHeld:=And.intro c0 c1
 repeat
  refine Yp (v:=?_) hHeld (fun u hSu=>?_) ?_
  rotate_left
  ·((try dsimp only at hSu);go_simp) <;> with_reducible rfl
  try simp only [PS]
 refine Yx ?_
 refine Zq (i:=2) rfl (by kernel_rfl) (fun K hK=>?_)
 go_simp
 refine ((un HT2) _ V0 (un HM0).own).mono ?_
 rintro e w1 ⟨rfl,V1,hm⟩
 have l1:=hm.lays (Xc (un HL0)) hBn (un HB0)
 have HM1:=Zb ((un HM0).trans hm)
 refine hK.out _ _ (fun _=>⟨Zd l1 0,Zd l1 1⟩) ?_
 clear hK K hm l1
 try simp only [PS]
 refine Zq (i:=4) rfl (by kernel_rfl) (fun K hK=>?_)
 go_simp
 refine ((un HC) _ V1 (un HM1).own).mono ?_
 intro e w2 hp
 have hp':=hp.pre (un HO) (un HM1)
 have HP:=Zb hp'
 rcases hp with ⟨_,rfl,_⟩ | ⟨_,rfl,_⟩
 ·refine hK.out _ _ (fun h=>absurd rfl h) ?_
  clear hK K hp'
  refine Qz (by kernel_rfl) ?_ _
  go_wp2
  go_end0
  exact un HP
 ·clear hp'
  dsimp only [left]
  exact ⟨rfl,un HP⟩
end Go.Proofs.YtblihfpigjiahaaGreatDoor
