/- EngN, EngO -/
import Derived.Test.YtblihfpigjiahaaGreatDoorZB19
set_option maxRecDepth 100000
set_option maxHeartbeats 8000000
namespace Go.Proofs.YtblihfpigjiahaaGreatDoor
open Go.RowKit
theorem do_push (base bs:Nat) (V:Key→Value) (s:St) (i n cp bp op:Nat) (a:Int) (w:World) (h:OwnVar base w bs V s) (hn:s.now=i) (hr:Runs s i) :
  Calls Tryz.prog 59 #[eng bs (.slice (some ⟨bp,op,none⟩) n cp),.agg #[.int .i64 0,.int .i64 a]] w (EngPost base bs V s (Zp s i a,0) w):=by
 have HP:Hid (∀ u V',OwnVar base u bs V' s→Calls Tryz.prog 87 #[eng bs (.slice (some ⟨bp,op,none⟩) n cp),.slice (some ⟨u.heap.size,0,none⟩) 1 1] (u.alloc (.cells #[.int .i64 a] 3)) (Qh base bs V' s (Zp s i a) (.tuple #[]) (u.alloc (.cells #[.int .i64 a] 3)))):=hide (fun u V' hu=>Kl base bs V' s i n cp u.heap.size (some ⟨bp,op,none⟩) a _ (hu.alloc _) hn hr (Zb (Zd rfl) 0))
 have HO:=hide h
 clear h hr
 go_enter Tryz.func59,Tryz.ntmps59
 go_upto_region 3 with fail
 generalize hwb:(w.alloc (.cells #[.pointer (some ⟨bs,0,none⟩),.slice (some ⟨bp,op,none⟩) n cp] 93)).alloc (.cells #[.int .i64 0,.int .i64 a] 66)=wb
 have hkb:Kept w wb:=by rw [← hwb]; exact ((Kept.refl w).alloc _).alloc _
 have lB:wb.heap[w.heap.size]?=some (.cells #[.pointer (some ⟨bs,0,none⟩),.slice (some ⟨bp,op,none⟩) n cp] 93):=by rw [← hwb]; exact Zg (Zd rfl) _
 have lX:wb.heap[w.heap.size + 1]?=some (.cells #[.int .i64 0,.int .i64 a] 66):=by rw [← hwb]; exact Zd (by simp)
 have b0:wb.cell? ⟨w.heap.size,0,none⟩=some (.pointer (some ⟨bs,0,none⟩)):=Zb lB 0
 have b1:wb.cell? ⟨w.heap.size,1,none⟩=some (.slice (some ⟨bp,op,none⟩) n cp):=Zb lB 1
 have b2:wb.cell? ⟨w.heap.size + 1,1,none⟩=some (.int .i64 a):=Zb lX 1
 have HKB:=hide hkb
 have HLB:=hide lB
 have HLX:=hide lX
 clear hwb hkb lB lX
 go_wp2_with fail
 refine ((un HP) _ V ((un HO).kept (un HKB))).mono ?_
 rintro e w1 ⟨rfl,V1,hm⟩
 have HM:=hide (hm.pre (un HO) ((un HKB).alloc _))
 clear hm
 go_wp2
 go_end0
 exact Or.inl ⟨rfl,rfl,V1,un HM⟩
theorem do_pop (base bs:Nat) (V:Key→Value) (s:St) (i n cp bp op:Nat) (a:Int) (w:World) (h:OwnVar base w bs V s) (hn:s.now=i) (hr:Runs s i) (hst:0 < (frAt s i ((Za s i).frames.length - 1)).stack.length) :
  Calls Tryz.prog 59 #[eng bs (.slice (some ⟨bp,op,none⟩) n cp),.agg #[.int .i64 1,.int .i64 a]] w (EngPost base bs V s (Zc s,0) w):=by
 have HT:Hid (∀ u V',OwnVar base u bs V' s→Calls Tryz.prog 88 #[eng bs (.slice (some ⟨bp,op,none⟩) n cp)] u (Qh base bs V' s (Zc s) (.int .i64 (Zh s)) u)):=hide (fun u V' hu=>take_any base bs V' s i n cp (some ⟨bp,op,none⟩) u hu hn hr hst)
 have HO:=hide h
 clear h hr
 go_enter Tryz.func59,Tryz.ntmps59
 go_upto_region 5 with fail
 generalize hwb:(w.alloc (.cells #[.pointer (some ⟨bs,0,none⟩),.slice (some ⟨bp,op,none⟩) n cp] 93)).alloc (.cells #[.int .i64 1,.int .i64 a] 66)=wb
 have hkb:Kept w wb:=by rw [← hwb]; exact ((Kept.refl w).alloc _).alloc _
 have lB:wb.heap[w.heap.size]?=some (.cells #[.pointer (some ⟨bs,0,none⟩),.slice (some ⟨bp,op,none⟩) n cp] 93):=by rw [← hwb]; exact Zg (Zd rfl) _
 have lX:wb.heap[w.heap.size + 1]?=some (.cells #[.int .i64 1,.int .i64 a] 66):=by rw [← hwb]; exact Zd (by simp)
 have b0:wb.cell? ⟨w.heap.size,0,none⟩=some (.pointer (some ⟨bs,0,none⟩)):=Zb lB 0
 have b1:wb.cell? ⟨w.heap.size,1,none⟩=some (.slice (some ⟨bp,op,none⟩) n cp):=Zb lB 1
 have b2:wb.cell? ⟨w.heap.size + 1,1,none⟩=some (.int .i64 a):=Zb lX 1
 have HKB:=hide hkb
 have HLB:=hide lB
 have HLX:=hide lX
 clear hwb hkb lB lX
 go_wp2_with fail
 refine ((un HT) _ V ((un HO).kept (un HKB))).mono ?_
 rintro e w1 ⟨rfl,V1,hm⟩
 have HM:=hide (hm.pre (un HO) (un HKB))
 clear hm
 go_wp2
 go_end0
 exact Or.inl ⟨rfl,rfl,V1,un HM⟩
theorem do_two4 (base bs:Nat) (V:Key→Value) (s:St) (i n cp bp op:Nat) (a:Int) (w:World) (h:OwnVar base w bs V s) (hn:s.now=i) (hr:Runs s i) (hst:2≤(frAt s i ((Za s i).frames.length - 1)).stack.length) :
  Calls Tryz.prog 59 #[eng bs (.slice (some ⟨bp,op,none⟩) n cp),.agg #[.int .i64 4,.int .i64 a]] w (EngPost base bs V s (Zp (Zc (Zc s)) i (Qd 4 (Zh (Zc s)) (Zh s)),0) w):=by
 have HT:=hide (fun u V' (hu:OwnVar base u bs V' s)=>reckon_any 91 4 (by decide) reckons4 base bs V' s i n cp (some ⟨bp,op,none⟩) u hu hn hr hst)
 have HO:=hide h
 generalize Zp (Zc (Zc s)) i (Qd 4 (Zh (Zc s)) (Zh s))=s1 at *
 clear h hr
 go_enter Tryz.func59,Tryz.ntmps59
 go_upto_region 11 with fail
 generalize hwb:(w.alloc (.cells #[.pointer (some ⟨bs,0,none⟩),.slice (some ⟨bp,op,none⟩) n cp] 93)).alloc (.cells #[.int .i64 4,.int .i64 a] 66)=wb
 have hkb:Kept w wb:=by rw [← hwb]; exact ((Kept.refl w).alloc _).alloc _
 have lB:wb.heap[w.heap.size]?=some (.cells #[.pointer (some ⟨bs,0,none⟩),.slice (some ⟨bp,op,none⟩) n cp] 93):=by rw [← hwb]; exact Zg (Zd rfl) _
 have lX:wb.heap[w.heap.size + 1]?=some (.cells #[.int .i64 4,.int .i64 a] 66):=by rw [← hwb]; exact Zd (by simp)
 have b0:wb.cell? ⟨w.heap.size,0,none⟩=some (.pointer (some ⟨bs,0,none⟩)):=Zb lB 0
 have b1:wb.cell? ⟨w.heap.size,1,none⟩=some (.slice (some ⟨bp,op,none⟩) n cp):=Zb lB 1
 have b2:wb.cell? ⟨w.heap.size + 1,1,none⟩=some (.int .i64 a):=Zb lX 1
 have HKB:=hide hkb
 have HLB:=hide lB
 have HLX:=hide lX
 clear hwb hkb lB lX
 go_wp2_with fail
 refine ((un HT) _ V ((un HO).kept (un HKB))).mono ?_
 rintro e w1 ⟨rfl,V1,hm⟩
 have HM:=hide (hm.pre (un HO) (un HKB))
 clear hm
 go_wp2
 go_end0
 exact Or.inl ⟨rfl,rfl,V1,un HM⟩
theorem do_two5 (base bs:Nat) (V:Key→Value) (s:St) (i n cp bp op:Nat) (a:Int) (w:World) (h:OwnVar base w bs V s) (hn:s.now=i) (hr:Runs s i) (hst:2≤(frAt s i ((Za s i).frames.length - 1)).stack.length) :
  Calls Tryz.prog 59 #[eng bs (.slice (some ⟨bp,op,none⟩) n cp),.agg #[.int .i64 5,.int .i64 a]] w (EngPost base bs V s (Zp (Zc (Zc s)) i (Qd 5 (Zh (Zc s)) (Zh s)),0) w):=by
 have HT:=hide (fun u V' (hu:OwnVar base u bs V' s)=>reckon_any 92 5 (by decide) reckons5 base bs V' s i n cp (some ⟨bp,op,none⟩) u hu hn hr hst)
 have HO:=hide h
 generalize Zp (Zc (Zc s)) i (Qd 5 (Zh (Zc s)) (Zh s))=s1 at *
 clear h hr
 go_enter Tryz.func59,Tryz.ntmps59
 go_upto_region 13 with fail
 generalize hwb:(w.alloc (.cells #[.pointer (some ⟨bs,0,none⟩),.slice (some ⟨bp,op,none⟩) n cp] 93)).alloc (.cells #[.int .i64 5,.int .i64 a] 66)=wb
 have hkb:Kept w wb:=by rw [← hwb]; exact ((Kept.refl w).alloc _).alloc _
 have lB:wb.heap[w.heap.size]?=some (.cells #[.pointer (some ⟨bs,0,none⟩),.slice (some ⟨bp,op,none⟩) n cp] 93):=by rw [← hwb]; exact Zg (Zd rfl) _
 have lX:wb.heap[w.heap.size + 1]?=some (.cells #[.int .i64 5,.int .i64 a] 66):=by rw [← hwb]; exact Zd (by simp)
 have b0:wb.cell? ⟨w.heap.size,0,none⟩=some (.pointer (some ⟨bs,0,none⟩)):=Zb lB 0
 have b1:wb.cell? ⟨w.heap.size,1,none⟩=some (.slice (some ⟨bp,op,none⟩) n cp):=Zb lB 1
 have b2:wb.cell? ⟨w.heap.size + 1,1,none⟩=some (.int .i64 a):=Zb lX 1
 have HKB:=hide hkb
 have HLB:=hide lB
 have HLX:=hide lX
 clear hwb hkb lB lX
 go_wp2_with fail
 refine ((un HT) _ V ((un HO).kept (un HKB))).mono ?_
 rintro e w1 ⟨rfl,V1,hm⟩
 have HM:=hide (hm.pre (un HO) (un HKB))
 clear hm
 go_wp2
 go_end0
 exact Or.inl ⟨rfl,rfl,V1,un HM⟩
theorem do_two6 (base bs:Nat) (V:Key→Value) (s:St) (i n cp bp op:Nat) (a:Int) (w:World) (h:OwnVar base w bs V s) (hn:s.now=i) (hr:Runs s i) (hst:2≤(frAt s i ((Za s i).frames.length - 1)).stack.length) :
  Calls Tryz.prog 59 #[eng bs (.slice (some ⟨bp,op,none⟩) n cp),.agg #[.int .i64 6,.int .i64 a]] w (EngPost base bs V s (Zp (Zc (Zc s)) i (Qd 6 (Zh (Zc s)) (Zh s)),0) w):=by
 have HT:=hide (fun u V' (hu:OwnVar base u bs V' s)=>reckon_any 93 6 (by decide) reckons6 base bs V' s i n cp (some ⟨bp,op,none⟩) u hu hn hr hst)
 have HO:=hide h
 generalize Zp (Zc (Zc s)) i (Qd 6 (Zh (Zc s)) (Zh s))=s1 at *
 clear h hr
 go_enter Tryz.func59,Tryz.ntmps59
 go_upto_region 15 with fail
 generalize hwb:(w.alloc (.cells #[.pointer (some ⟨bs,0,none⟩),.slice (some ⟨bp,op,none⟩) n cp] 93)).alloc (.cells #[.int .i64 6,.int .i64 a] 66)=wb
 have hkb:Kept w wb:=by rw [← hwb]; exact ((Kept.refl w).alloc _).alloc _
 have lB:wb.heap[w.heap.size]?=some (.cells #[.pointer (some ⟨bs,0,none⟩),.slice (some ⟨bp,op,none⟩) n cp] 93):=by rw [← hwb]; exact Zg (Zd rfl) _
 have lX:wb.heap[w.heap.size + 1]?=some (.cells #[.int .i64 6,.int .i64 a] 66):=by rw [← hwb]; exact Zd (by simp)
 have b0:wb.cell? ⟨w.heap.size,0,none⟩=some (.pointer (some ⟨bs,0,none⟩)):=Zb lB 0
 have b1:wb.cell? ⟨w.heap.size,1,none⟩=some (.slice (some ⟨bp,op,none⟩) n cp):=Zb lB 1
 have b2:wb.cell? ⟨w.heap.size + 1,1,none⟩=some (.int .i64 a):=Zb lX 1
 have HKB:=hide hkb
 have HLB:=hide lB
 have HLX:=hide lX
 clear hwb hkb lB lX
 go_wp2_with fail
 refine ((un HT) _ V ((un HO).kept (un HKB))).mono ?_
 rintro e w1 ⟨rfl,V1,hm⟩
 have HM:=hide (hm.pre (un HO) (un HKB))
 clear hm
 go_wp2
 go_end0
 exact Or.inl ⟨rfl,rfl,V1,un HM⟩
theorem do_two7 (base bs:Nat) (V:Key→Value) (s:St) (i n cp bp op:Nat) (a:Int) (w:World) (h:OwnVar base w bs V s) (hn:s.now=i) (hr:Runs s i) (hst:2≤(frAt s i ((Za s i).frames.length - 1)).stack.length) :
  Calls Tryz.prog 59 #[eng bs (.slice (some ⟨bp,op,none⟩) n cp),.agg #[.int .i64 7,.int .i64 a]] w (EngPost base bs V s (Zp (Zc (Zc s)) i (Qd 7 (Zh (Zc s)) (Zh s)),0) w):=by
 have HT:=hide (fun u V' (hu:OwnVar base u bs V' s)=>reckon_any 94 7 (by decide) reckons7 base bs V' s i n cp (some ⟨bp,op,none⟩) u hu hn hr hst)
 have HO:=hide h
 generalize Zp (Zc (Zc s)) i (Qd 7 (Zh (Zc s)) (Zh s))=s1 at *
 clear h hr
 go_enter Tryz.func59,Tryz.ntmps59
 go_upto_region 17 with fail
 generalize hwb:(w.alloc (.cells #[.pointer (some ⟨bs,0,none⟩),.slice (some ⟨bp,op,none⟩) n cp] 93)).alloc (.cells #[.int .i64 7,.int .i64 a] 66)=wb
 have hkb:Kept w wb:=by rw [← hwb]; exact ((Kept.refl w).alloc _).alloc _
 have lB:wb.heap[w.heap.size]?=some (.cells #[.pointer (some ⟨bs,0,none⟩),.slice (some ⟨bp,op,none⟩) n cp] 93):=by rw [← hwb]; exact Zg (Zd rfl) _
 have lX:wb.heap[w.heap.size + 1]?=some (.cells #[.int .i64 7,.int .i64 a] 66):=by rw [← hwb]; exact Zd (by simp)
 have b0:wb.cell? ⟨w.heap.size,0,none⟩=some (.pointer (some ⟨bs,0,none⟩)):=Zb lB 0
 have b1:wb.cell? ⟨w.heap.size,1,none⟩=some (.slice (some ⟨bp,op,none⟩) n cp):=Zb lB 1
 have b2:wb.cell? ⟨w.heap.size + 1,1,none⟩=some (.int .i64 a):=Zb lX 1
 have HKB:=hide hkb
 have HLB:=hide lB
 have HLX:=hide lX
 clear hwb hkb lB lX
 go_wp2_with fail
 refine ((un HT) _ V ((un HO).kept (un HKB))).mono ?_
 rintro e w1 ⟨rfl,V1,hm⟩
 have HM:=hide (hm.pre (un HO) (un HKB))
 clear hm
 go_wp2
 go_end0
 exact Or.inl ⟨rfl,rfl,V1,un HM⟩
theorem do_two8 (base bs:Nat) (V:Key→Value) (s:St) (i n cp bp op:Nat) (a:Int) (w:World) (h:OwnVar base w bs V s) (hn:s.now=i) (hr:Runs s i) (hst:2≤(frAt s i ((Za s i).frames.length - 1)).stack.length) :
  Calls Tryz.prog 59 #[eng bs (.slice (some ⟨bp,op,none⟩) n cp),.agg #[.int .i64 8,.int .i64 a]] w (EngPost base bs V s (Zp (Zc (Zc s)) i (Qd 8 (Zh (Zc s)) (Zh s)),0) w):=by
 have HT:=hide (fun u V' (hu:OwnVar base u bs V' s)=>reckon_any 96 8 (by decide) reckons8 base bs V' s i n cp (some ⟨bp,op,none⟩) u hu hn hr hst)
 have HO:=hide h
 generalize Zp (Zc (Zc s)) i (Qd 8 (Zh (Zc s)) (Zh s))=s1 at *
 clear h hr
 go_enter Tryz.func59,Tryz.ntmps59
 go_upto_region 19 with fail
 generalize hwb:(w.alloc (.cells #[.pointer (some ⟨bs,0,none⟩),.slice (some ⟨bp,op,none⟩) n cp] 93)).alloc (.cells #[.int .i64 8,.int .i64 a] 66)=wb
 have hkb:Kept w wb:=by rw [← hwb]; exact ((Kept.refl w).alloc _).alloc _
 have lB:wb.heap[w.heap.size]?=some (.cells #[.pointer (some ⟨bs,0,none⟩),.slice (some ⟨bp,op,none⟩) n cp] 93):=by rw [← hwb]; exact Zg (Zd rfl) _
 have lX:wb.heap[w.heap.size + 1]?=some (.cells #[.int .i64 8,.int .i64 a] 66):=by rw [← hwb]; exact Zd (by simp)
 have b0:wb.cell? ⟨w.heap.size,0,none⟩=some (.pointer (some ⟨bs,0,none⟩)):=Zb lB 0
 have b1:wb.cell? ⟨w.heap.size,1,none⟩=some (.slice (some ⟨bp,op,none⟩) n cp):=Zb lB 1
 have b2:wb.cell? ⟨w.heap.size + 1,1,none⟩=some (.int .i64 a):=Zb lX 1
 have HKB:=hide hkb
 have HLB:=hide lB
 have HLX:=hide lX
 clear hwb hkb lB lX
 go_wp2_with fail
 refine ((un HT) _ V ((un HO).kept (un HKB))).mono ?_
 rintro e w1 ⟨rfl,V1,hm⟩
 have HM:=hide (hm.pre (un HO) (un HKB))
 clear hm
 go_wp2
 go_end0
 exact Or.inl ⟨rfl,rfl,V1,un HM⟩
theorem do_call (base bs:Nat) (V:Key→Value) (s:St) (i n cp bp op:Nat) (a:Int) (w:World) (h:OwnVar base w bs V s) (hn:s.now=i) (hr:Runs s i) (f a2 lo:Nat) (haf:a=f) (h6:(Za s i).frames.length≤6) (hf:f < n) (hlo:lo≤1000) (hal:a2≤lo) (ha:a2≤(frAt s i ((Za s i).frames.length - 1)).stack.length)
  (hp:∀ u,Below base w u→u.cell? ⟨bp,op + f * 3,none⟩=some (.int .i64 a2)∧u.cell? ⟨bp,op + f * 3 + 1,none⟩=some (.int .i64 lo)) :
  Calls Tryz.prog 59 #[eng bs (.slice (some ⟨bp,op,none⟩) n cp),.agg #[.int .i64 11,.int .i64 a]] w (EngPost base bs V s (callS s i f a2 lo) w):=by
 have HT:=hide (fun u (hu:Kept w u)=>call_any base bs V s i n cp bp op f a2 lo u (h.kept hu) hn hr h6 hf hlo hal ha (fun u' hb=>hp u' (Below.trans (h.below hu) hb)))
 have HO:=hide h
 generalize callS s i f a2 lo=R at *
 subst haf
 clear h hr hp
 go_enter Tryz.func59,Tryz.ntmps59
 go_upto_region 26 with fail
 generalize hwb:(w.alloc (.cells #[.pointer (some ⟨bs,0,none⟩),.slice (some ⟨bp,op,none⟩) n cp] 93)).alloc (.cells #[.int .i64 11,.int .i64 f] 66)=wb
 have hkb:Kept w wb:=by rw [← hwb]; exact ((Kept.refl w).alloc _).alloc _
 have lB:wb.heap[w.heap.size]?=some (.cells #[.pointer (some ⟨bs,0,none⟩),.slice (some ⟨bp,op,none⟩) n cp] 93):=by rw [← hwb]; exact Zg (Zd rfl) _
 have lX:wb.heap[w.heap.size + 1]?=some (.cells #[.int .i64 11,.int .i64 f] 66):=by rw [← hwb]; exact Zd (by simp)
 have b0:wb.cell? ⟨w.heap.size,0,none⟩=some (.pointer (some ⟨bs,0,none⟩)):=Zb lB 0
 have b1:wb.cell? ⟨w.heap.size,1,none⟩=some (.slice (some ⟨bp,op,none⟩) n cp):=Zb lB 1
 have b2:wb.cell? ⟨w.heap.size + 1,1,none⟩=some (.int .i64 f):=Zb lX 1
 have HKB:=hide hkb
 have HLB:=hide lB
 have HLX:=hide lX
 clear hwb hkb lB lX
 go_wp2_with fail
 refine ((un HT) _ (un HKB)).mono ?_
 intro e w1 hp
 have hp':=hp.pre (un HO) (Moved.of_kept (un HO) (un HKB))
 have HP:=hide hp'
 rcases hp with ⟨_,rfl,_⟩ | ⟨_,rfl,_⟩
 ·clear hp'
  go_wp2
  go_end0
  exact un HP
 ·clear hp'
  dsimp only [left]
  go_wp2
  exact ⟨rfl,un HP⟩
theorem do_make (base bs:Nat) (V:Key→Value) (s:St) (i n cp bp op:Nat) (a:Int) (w:World) (h:OwnVar base w bs V s) (hn:s.now=i) (hr:Runs s i) (f lo:Nat) (haf:a=f) (h5:s.fibers.length≤5) (hf:f < n) (hlo:lo≤1000) (hp:∀ u,Below base w u→u.cell? ⟨bp,op + f * 3 + 1,none⟩=some (.int .i64 lo)) :
  Calls Tryz.prog 59 #[eng bs (.slice (some ⟨bp,op,none⟩) n cp),.agg #[.int .i64 13,.int .i64 a]] w (EngPost base bs V s (makeS s i f lo) w):=by
 have HT:=hide (fun u (hu:Kept w u)=>makeFiber_any base bs V s i n cp bp op f lo u (h.kept hu) hn hr h5 hf hlo (fun u' hb=>hp u' (Below.trans (h.below hu) hb)))
 have HO:=hide h
 generalize makeS s i f lo=R at *
 subst haf
 clear h hr hp
 go_enter Tryz.func59,Tryz.ntmps59
 go_upto_region 30 with fail
 generalize hwb:(w.alloc (.cells #[.pointer (some ⟨bs,0,none⟩),.slice (some ⟨bp,op,none⟩) n cp] 93)).alloc (.cells #[.int .i64 13,.int .i64 f] 66)=wb
 have hkb:Kept w wb:=by rw [← hwb]; exact ((Kept.refl w).alloc _).alloc _
 have lB:wb.heap[w.heap.size]?=some (.cells #[.pointer (some ⟨bs,0,none⟩),.slice (some ⟨bp,op,none⟩) n cp] 93):=by rw [← hwb]; exact Zg (Zd rfl) _
 have lX:wb.heap[w.heap.size + 1]?=some (.cells #[.int .i64 13,.int .i64 f] 66):=by rw [← hwb]; exact Zd (by simp)
 have b0:wb.cell? ⟨w.heap.size,0,none⟩=some (.pointer (some ⟨bs,0,none⟩)):=Zb lB 0
 have b1:wb.cell? ⟨w.heap.size,1,none⟩=some (.slice (some ⟨bp,op,none⟩) n cp):=Zb lB 1
 have b2:wb.cell? ⟨w.heap.size + 1,1,none⟩=some (.int .i64 f):=Zb lX 1
 have HKB:=hide hkb
 have HLB:=hide lB
 have HLX:=hide lX
 clear hwb hkb lB lX
 go_wp2_with fail
 refine ((un HT) _ (un HKB)).mono ?_
 intro e w1 hp
 have hp':=hp.pre (un HO) (Moved.of_kept (un HO) (un HKB))
 have HP:=hide hp'
 rcases hp with ⟨_,rfl,_⟩ | ⟨_,rfl,_⟩
 ·clear hp'
  go_wp2
  go_end0
  exact un HP
 ·clear hp'
  dsimp only [left]
  go_wp2
  exact ⟨rfl,un HP⟩
theorem do_return (base bs:Nat) (V:Key→Value) (s:St) (i n cp bp op:Nat) (a:Int) (w:World) (h:OwnVar base w bs V s) (hn:s.now=i) (hr:Runs s i) (hst:0 < (frAt s i ((Za s i).frames.length - 1)).stack.length) (hout:s.out.length≤30) (hr1:Runs (Zc s) i) (hc1:(Za (Zc s) i).frames.length=1→(Za (Zc s) i).caller≠-1→∃ m:Nat,(Za (Zc s) i).caller=m∧m≠i∧Runs (Zc s) m) (hc2:(Za (Zc s) i).frames.length≠1→Runs (Xh (Zc s) i) i) :
  Calls Tryz.prog 59 #[eng bs (.slice (some ⟨bp,op,none⟩) n cp),.agg #[.int .i64 12,.int .i64 a]] w (EngPost base bs V s (Jq (Zc s) i (Zh s)) w):=by
 have HT:Hid (∀ u V',OwnVar base u bs V' s→Calls Tryz.prog 88 #[eng bs (.slice (some ⟨bp,op,none⟩) n cp)] u (Qh base bs V' s (Zc s) (.int .i64 (Zh s)) u)):=hide (fun u V' hu=>take_any base bs V' s i n cp (some ⟨bp,op,none⟩) u hu hn hr hst)
 have HC:Hid (∀ u V',OwnVar base u bs V' (Zc s)→Calls Tryz.prog 98 #[eng bs (.slice (some ⟨bp,op,none⟩) n cp),.int .i64 (Zh s)] u (EngPost base bs V' (Zc s) (Jq (Zc s) i (Zh s)) u)):=hide (fun u V' hu=>giveBack_any base bs V' (Zc s) i n cp (some ⟨bp,op,none⟩) (Zh s) u hu hn hr1 hout hc1 hc2)
 have HO:=hide h
 generalize Jq (Zc s) i (Zh s)=R at *
 generalize Zc s=s1 at *
 generalize Zh s=z at *
 clear h hr
 go_enter Tryz.func59,Tryz.ntmps59
 go_upto_region 28 with fail
 generalize hwb:(w.alloc (.cells #[.pointer (some ⟨bs,0,none⟩),.slice (some ⟨bp,op,none⟩) n cp] 93)).alloc (.cells #[.int .i64 12,.int .i64 a] 66)=wb
 have hkb:Kept w wb:=by rw [← hwb]; exact ((Kept.refl w).alloc _).alloc _
 have lB:wb.heap[w.heap.size]?=some (.cells #[.pointer (some ⟨bs,0,none⟩),.slice (some ⟨bp,op,none⟩) n cp] 93):=by rw [← hwb]; exact Zg (Zd rfl) _
 have lX:wb.heap[w.heap.size + 1]?=some (.cells #[.int .i64 12,.int .i64 a] 66):=by rw [← hwb]; exact Zd (by simp)
 have b0:wb.cell? ⟨w.heap.size,0,none⟩=some (.pointer (some ⟨bs,0,none⟩)):=Zb lB 0
 have b1:wb.cell? ⟨w.heap.size,1,none⟩=some (.slice (some ⟨bp,op,none⟩) n cp):=Zb lB 1
 have b2:wb.cell? ⟨w.heap.size + 1,1,none⟩=some (.int .i64 a):=Zb lX 1
 have HKB:=hide hkb
 have HLB:=hide lB
 have HLX:=hide lX
 clear hwb hkb lB lX
 obtain ⟨hBn,hBo⟩:=(un HO).new (b:=w.heap.size) (by omega)
 have HD:=hide ((Moved.of_kept (un HO) (un HKB)).drew)
 refine Jf 3 [0,1] (fun u=>u.cell? ⟨w.heap.size,0,none⟩=some (.pointer (some ⟨bs,0,none⟩))∧u.cell? ⟨w.heap.size,1,none⟩=some (.slice (some ⟨bp,op,none⟩) n cp)) (by kernel_rfl) ?_
 have hHeld:=And.intro b0 b1
 repeat
  refine takeP (v:=?_) hHeld (fun u hSu=>?_) ?_
  rotate_left
  ·((try dsimp only at hSu); go_simp) <;> with_reducible rfl
  try simp only [PS]
 refine Qt ?_
 refine Zn (i:=2) rfl (by kernel_rfl) (fun K hK=>?_)
 go_simp
 refine ((un HT) _ V (un HD).own).mono ?_
 rintro e w1 ⟨rfl,V1,hm⟩
 have l1:=hm.lays (Zt (un HLB)) hBn hBo
 have HM1:=hide ((un HD).trans hm)
 refine hK.out _ _ (fun _=>⟨Zb l1 0,Zb l1 1⟩) ?_
 clear hK K hm l1
 try simp only [PS]
 refine Zn (i:=3) rfl (by kernel_rfl) (fun K hK=>?_)
 go_simp
 refine ((un HC) _ V1 (un HM1).own).mono ?_
 intro e w2 hp
 have hp':=hp.pre (un HO) (un HM1)
 have HP:=hide hp'
 rcases hp with ⟨_,rfl,_⟩ | ⟨_,rfl,_⟩
 ·refine hK.out _ _ (fun h=>absurd rfl h) ?_
  clear hK K hp'
  refine Xx (by kernel_rfl) ?_ _
  go_wp2
  go_end0
  exact un HP
 ·clear hp'
  dsimp only [left]
  exact ⟨rfl,un HP⟩
theorem do_yield (base bs:Nat) (V:Key→Value) (s:St) (i n cp bp op:Nat) (a:Int) (w:World) (h:OwnVar base w bs V s) (hn:s.now=i) (hr:Runs s i) (hst:0 < (frAt s i ((Za s i).frames.length - 1)).stack.length) (hi1:i < (Zc s).fibers.length) (hc:(Za (Zc s) i).caller≠-1→∃ m:Nat,(Za (Zc s) i).caller=m∧m≠i∧Runs (Zc s) m) :
  Calls Tryz.prog 59 #[eng bs (.slice (some ⟨bp,op,none⟩) n cp),.agg #[.int .i64 15,.int .i64 a]] w (EngPost base bs V s (yieldS (Zc s) i (Zh s)) w):=by
 have HT:Hid (∀ u V',OwnVar base u bs V' s→Calls Tryz.prog 88 #[eng bs (.slice (some ⟨bp,op,none⟩) n cp)] u (Qh base bs V' s (Zc s) (.int .i64 (Zh s)) u)):=hide (fun u V' hu=>take_any base bs V' s i n cp (some ⟨bp,op,none⟩) u hu hn hr hst)
 have HC:Hid (∀ u V',OwnVar base u bs V' (Zc s)→Calls Tryz.prog 101 #[eng bs (.slice (some ⟨bp,op,none⟩) n cp),.int .i64 (Zh s)] u (EngPost base bs V' (Zc s) (yieldS (Zc s) i (Zh s)) u)):=hide (fun u V' hu=>yield_any base bs V' (Zc s) i n cp (some ⟨bp,op,none⟩) (Zh s) u hu hn hi1 hc)
 have HO:=hide h
 generalize yieldS (Zc s) i (Zh s)=R at *
 generalize Zc s=s1 at *
 generalize Zh s=z at *
 clear h hr
 go_enter Tryz.func59,Tryz.ntmps59
 go_upto_region 35 with fail
 generalize hwb:(w.alloc (.cells #[.pointer (some ⟨bs,0,none⟩),.slice (some ⟨bp,op,none⟩) n cp] 93)).alloc (.cells #[.int .i64 15,.int .i64 a] 66)=wb
 have hkb:Kept w wb:=by rw [← hwb]; exact ((Kept.refl w).alloc _).alloc _
 have lB:wb.heap[w.heap.size]?=some (.cells #[.pointer (some ⟨bs,0,none⟩),.slice (some ⟨bp,op,none⟩) n cp] 93):=by rw [← hwb]; exact Zg (Zd rfl) _
 have lX:wb.heap[w.heap.size + 1]?=some (.cells #[.int .i64 15,.int .i64 a] 66):=by rw [← hwb]; exact Zd (by simp)
 have b0:wb.cell? ⟨w.heap.size,0,none⟩=some (.pointer (some ⟨bs,0,none⟩)):=Zb lB 0
 have b1:wb.cell? ⟨w.heap.size,1,none⟩=some (.slice (some ⟨bp,op,none⟩) n cp):=Zb lB 1
 have b2:wb.cell? ⟨w.heap.size + 1,1,none⟩=some (.int .i64 a):=Zb lX 1
 have HKB:=hide hkb
 have HLB:=hide lB
 have HLX:=hide lX
 clear hwb hkb lB lX
 obtain ⟨hBn,hBo⟩:=(un HO).new (b:=w.heap.size) (by omega)
 have HD:=hide ((Moved.of_kept (un HO) (un HKB)).drew)
 refine Jf 3 [0,1] (fun u=>u.cell? ⟨w.heap.size,0,none⟩=some (.pointer (some ⟨bs,0,none⟩))∧u.cell? ⟨w.heap.size,1,none⟩=some (.slice (some ⟨bp,op,none⟩) n cp)) (by kernel_rfl) ?_
 have hHeld:=And.intro b0 b1
 repeat
  refine takeP (v:=?_) hHeld (fun u hSu=>?_) ?_
  rotate_left
  ·((try dsimp only at hSu); go_simp) <;> with_reducible rfl
  try simp only [PS]
 refine Qt ?_
 refine Zn (i:=2) rfl (by kernel_rfl) (fun K hK=>?_)
 go_simp
 refine ((un HT) _ V (un HD).own).mono ?_
 rintro e w1 ⟨rfl,V1,hm⟩
 have l1:=hm.lays (Zt (un HLB)) hBn hBo
 have HM1:=hide ((un HD).trans hm)
 refine hK.out _ _ (fun _=>⟨Zb l1 0,Zb l1 1⟩) ?_
 clear hK K hm l1
 try simp only [PS]
 refine Zn (i:=3) rfl (by kernel_rfl) (fun K hK=>?_)
 go_simp
 refine ((un HC) _ V1 (un HM1).own).mono ?_
 intro e w2 hp
 have hp':=hp.pre (un HO) (un HM1)
 have HP:=hide hp'
 rcases hp with ⟨_,rfl,_⟩ | ⟨_,rfl,_⟩
 ·refine hK.out _ _ (fun h=>absurd rfl h) ?_
  clear hK K hp'
  refine Xx (by kernel_rfl) ?_ _
  go_wp2
  go_end0
  exact un HP
 ·clear hp'
  dsimp only [left]
  exact ⟨rfl,un HP⟩
theorem do_put (base bs:Nat) (V:Key→Value) (s:St) (i n cp bp op:Nat) (a:Int) (w:World) (h:OwnVar base w bs V s) (hn:s.now=i) (hr:Runs s i) (hst:0 < (frAt s i ((Za s i).frames.length - 1)).stack.length) (hout:s.out.length≤30) :
  Calls Tryz.prog 59 #[eng bs (.slice (some ⟨bp,op,none⟩) n cp),.agg #[.int .i64 16,.int .i64 a]] w (EngPost base bs V s (putS (Zc s) (Zh s)) w):=by
 have HT:Hid (∀ u V',OwnVar base u bs V' s→Calls Tryz.prog 88 #[eng bs (.slice (some ⟨bp,op,none⟩) n cp)] u (Qh base bs V' s (Zc s) (.int .i64 (Zh s)) u)):=hide (fun u V' hu=>take_any base bs V' s i n cp (some ⟨bp,op,none⟩) u hu hn hr hst)
 have HC:Hid (∀ u V',OwnVar base u bs V' (Zc s)→Calls Tryz.prog 102 #[eng bs (.slice (some ⟨bp,op,none⟩) n cp),.int .i64 (Zh s)] u (EngPost base bs V' (Zc s) (putS (Zc s) (Zh s)) u)):=hide (fun u V' hu=>putOut_any base bs V' (Zc s) n cp (some ⟨bp,op,none⟩) (Zh s) u hu hout)
 have HO:=hide h
 generalize putS (Zc s) (Zh s)=R at *
 generalize Zc s=s1 at *
 generalize Zh s=z at *
 clear h hr
 go_enter Tryz.func59,Tryz.ntmps59
 go_upto_region 37 with fail
 generalize hwb:(w.alloc (.cells #[.pointer (some ⟨bs,0,none⟩),.slice (some ⟨bp,op,none⟩) n cp] 93)).alloc (.cells #[.int .i64 16,.int .i64 a] 66)=wb
 have hkb:Kept w wb:=by rw [← hwb]; exact ((Kept.refl w).alloc _).alloc _
 have lB:wb.heap[w.heap.size]?=some (.cells #[.pointer (some ⟨bs,0,none⟩),.slice (some ⟨bp,op,none⟩) n cp] 93):=by rw [← hwb]; exact Zg (Zd rfl) _
 have lX:wb.heap[w.heap.size + 1]?=some (.cells #[.int .i64 16,.int .i64 a] 66):=by rw [← hwb]; exact Zd (by simp)
 have b0:wb.cell? ⟨w.heap.size,0,none⟩=some (.pointer (some ⟨bs,0,none⟩)):=Zb lB 0
 have b1:wb.cell? ⟨w.heap.size,1,none⟩=some (.slice (some ⟨bp,op,none⟩) n cp):=Zb lB 1
 have b2:wb.cell? ⟨w.heap.size + 1,1,none⟩=some (.int .i64 a):=Zb lX 1
 have HKB:=hide hkb
 have HLB:=hide lB
 have HLX:=hide lX
 clear hwb hkb lB lX
 obtain ⟨hBn,hBo⟩:=(un HO).new (b:=w.heap.size) (by omega)
 have HD:=hide ((Moved.of_kept (un HO) (un HKB)).drew)
 refine Jf 3 [0,1] (fun u=>u.cell? ⟨w.heap.size,0,none⟩=some (.pointer (some ⟨bs,0,none⟩))∧u.cell? ⟨w.heap.size,1,none⟩=some (.slice (some ⟨bp,op,none⟩) n cp)) (by kernel_rfl) ?_
 have hHeld:=And.intro b0 b1
 repeat
  refine takeP (v:=?_) hHeld (fun u hSu=>?_) ?_
  rotate_left
  ·((try dsimp only at hSu); go_simp) <;> with_reducible rfl
  try simp only [PS]
 refine Qt ?_
 refine Zn (i:=2) rfl (by kernel_rfl) (fun K hK=>?_)
 go_simp
 refine ((un HT) _ V (un HD).own).mono ?_
 rintro e w1 ⟨rfl,V1,hm⟩
 have l1:=hm.lays (Zt (un HLB)) hBn hBo
 have HM1:=hide ((un HD).trans hm)
 refine hK.out _ _ (fun _=>⟨Zb l1 0,Zb l1 1⟩) ?_
 clear hK K hm l1
 try simp only [PS]
 refine Zn (i:=3) rfl (by kernel_rfl) (fun K hK=>?_)
 go_simp
 refine ((un HC) _ V1 (un HM1).own).mono ?_
 intro e w2 hp
 have hp':=hp.pre (un HO) (un HM1)
 have HP:=hide hp'
 rcases hp with ⟨_,rfl,_⟩ | ⟨_,rfl,_⟩
 ·refine hK.out _ _ (fun h=>absurd rfl h) ?_
  clear hK K hp'
  refine Xx (by kernel_rfl) ?_ _
  go_wp2
  go_end0
  exact un HP
 ·clear hp'
  dsimp only [left]
  exact ⟨rfl,un HP⟩
theorem do_resume (base bs:Nat) (V:Key→Value) (s:St) (i n cp bp op:Nat) (a:Int) (w:World) (h:OwnVar base w bs V s) (hn:s.now=i) (hr:Runs s i) (hst:2≤(frAt s i ((Za s i).frames.length - 1)).stack.length) (hall:∀ u V',OwnVar base u bs V' (Zc (Zc s))→Calls Tryz.prog 100 #[eng bs (.slice (some ⟨bp,op,none⟩) n cp),.int .i64 (Zh (Zc s)),.int .i64 (Zh s)] u (EngPost base bs V' (Zc (Zc s)) (Jc (Zc (Zc s)) i (Zh (Zc s)) (Zh s)) u)) :
  Calls Tryz.prog 59 #[eng bs (.slice (some ⟨bp,op,none⟩) n cp),.agg #[.int .i64 14,.int .i64 a]] w (EngPost base bs V s (Jc (Zc (Zc s)) i (Zh (Zc s)) (Zh s)) w):=by
 obtain ⟨hn1,hr1,hs1⟩:=pull_runs hn hr
 have HT:Hid (∀ u V',OwnVar base u bs V' s→Calls Tryz.prog 88 #[eng bs (.slice (some ⟨bp,op,none⟩) n cp)] u (Qh base bs V' s (Zc s) (.int .i64 (Zh s)) u)):=hide (fun u V' hu=>take_any base bs V' s i n cp (some ⟨bp,op,none⟩) u hu hn hr (by omega))
 have HT2:Hid (∀ u V',OwnVar base u bs V' (Zc s)→Calls Tryz.prog 88 #[eng bs (.slice (some ⟨bp,op,none⟩) n cp)] u (Qh base bs V' (Zc s) (Zc (Zc s)) (.int .i64 (Zh (Zc s))) u)):=hide (fun u V' hu=>take_any base bs V' (Zc s) i n cp (some ⟨bp,op,none⟩) u hu hn1 hr1 (by rw [hs1]; simp; omega))
 have HC:=hide hall
 have HO:=hide h
 generalize Jc (Zc (Zc s)) i (Zh (Zc s)) (Zh s)=R at *
 generalize Zh s=z at *
 generalize hs1':Zc s=s1 at *
 generalize Zc s1=s2 at *
 generalize Zh s1=x at *
 clear h hr hr1 hs1 hn1 hall hs1'
 go_enter Tryz.func59,Tryz.ntmps59
 go_upto_region 32 with fail
 generalize hwb:(w.alloc (.cells #[.pointer (some ⟨bs,0,none⟩),.slice (some ⟨bp,op,none⟩) n cp] 93)).alloc (.cells #[.int .i64 14,.int .i64 a] 66)=wb
 have hkb:Kept w wb:=by rw [← hwb]; exact ((Kept.refl w).alloc _).alloc _
 have lB:wb.heap[w.heap.size]?=some (.cells #[.pointer (some ⟨bs,0,none⟩),.slice (some ⟨bp,op,none⟩) n cp] 93):=by rw [← hwb]; exact Zg (Zd rfl) _
 have lX:wb.heap[w.heap.size + 1]?=some (.cells #[.int .i64 14,.int .i64 a] 66):=by rw [← hwb]; exact Zd (by simp)
 have b0:wb.cell? ⟨w.heap.size,0,none⟩=some (.pointer (some ⟨bs,0,none⟩)):=Zb lB 0
 have b1:wb.cell? ⟨w.heap.size,1,none⟩=some (.slice (some ⟨bp,op,none⟩) n cp):=Zb lB 1
 have b2:wb.cell? ⟨w.heap.size + 1,1,none⟩=some (.int .i64 a):=Zb lX 1
 have HKB:=hide hkb
 have HLB:=hide lB
 have HLX:=hide lX
 clear hwb hkb lB lX
 obtain ⟨hBn,hBo⟩:=(un HO).new (b:=w.heap.size) (by omega)
 have HD:=hide (Moved.of_kept (un HO) (un HKB))
 go_wp2_with fail
 refine ((un HT) _ V (un HD).own).mono ?_
 rintro e w0 ⟨rfl,V0,hm⟩
 have l0:=hm.lays (un HLB) hBn hBo
 have HL0:=hide l0
 have HB0:=hide (hm.off _ (Array.getElem?_eq_some_iff.1 (un HLB)).1 hBo)
 have c0:w0.cell? ⟨w.heap.size,0,none⟩=some (.pointer (some ⟨bs,0,none⟩)):=Zb l0 0
 have c1:w0.cell? ⟨w.heap.size,1,none⟩=some (.slice (some ⟨bp,op,none⟩) n cp):=Zb l0 1
 have HM0:=hide (((un HD).trans hm).drew)
 clear hm l0 b0 b1 b2
 go_upto_region 33 with fail
 refine Jf 4 [0,1,3] (fun u=>u.cell? ⟨w.heap.size,0,none⟩=some (.pointer (some ⟨bs,0,none⟩))∧u.cell? ⟨w.heap.size,1,none⟩=some (.slice (some ⟨bp,op,none⟩) n cp)) (by kernel_rfl) ?_
 have hHeld:=And.intro c0 c1
 repeat
  refine takeP (v:=?_) hHeld (fun u hSu=>?_) ?_
  rotate_left
  ·((try dsimp only at hSu); go_simp) <;> with_reducible rfl
  try simp only [PS]
 refine Qt ?_
 refine Zn (i:=2) rfl (by kernel_rfl) (fun K hK=>?_)
 go_simp
 refine ((un HT2) _ V0 (un HM0).own).mono ?_
 rintro e w1 ⟨rfl,V1,hm⟩
 have l1:=hm.lays (Zt (un HL0)) hBn (un HB0)
 have HM1:=hide ((un HM0).trans hm)
 refine hK.out _ _ (fun _=>⟨Zb l1 0,Zb l1 1⟩) ?_
 clear hK K hm l1
 try simp only [PS]
 refine Zn (i:=4) rfl (by kernel_rfl) (fun K hK=>?_)
 go_simp
 refine ((un HC) _ V1 (un HM1).own).mono ?_
 intro e w2 hp
 have hp':=hp.pre (un HO) (un HM1)
 have HP:=hide hp'
 rcases hp with ⟨_,rfl,_⟩ | ⟨_,rfl,_⟩
 ·refine hK.out _ _ (fun h=>absurd rfl h) ?_
  clear hK K hp'
  refine Xx (by kernel_rfl) ?_ _
  go_wp2
  go_end0
  exact un HP
 ·clear hp'
  dsimp only [left]
  exact ⟨rfl,un HP⟩
end Go.Proofs.YtblihfpigjiahaaGreatDoor
