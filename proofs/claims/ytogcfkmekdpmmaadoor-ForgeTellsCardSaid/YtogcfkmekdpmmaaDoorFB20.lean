/- EngN, EngO -/
import Derived.Test.YtogcfkmekdpmmaaDoorFB19
set_option maxRecDepth 100000
set_option maxHeartbeats 8000000
namespace Go.Proofs.YtogcfkmekdpmmaaDoor
open Go.RowKit
theorem do_push (base bs:Nat) (V:Key→Value) (s:St) (i n cp bp op:Nat) (a:Int) (w:World) (h:OwnVar base w bs V s) (hn:s.now=i) (hr:Runs s i) :
  Calls Tryd.prog 88 #[eng bs (.slice (some ⟨bp,op,none⟩) n cp),.agg #[.int .i64 0,.int .i64 a]] w (EngPost base bs V s (pushV s i a,0) w):=by
 have HP:Hid (∀ u V',OwnVar base u bs V' s→Calls Tryd.prog 106 #[eng bs (.slice (some ⟨bp,op,none⟩) n cp),.slice (some ⟨u.heap.size,0,none⟩) 1 1] (u.alloc (.cells #[.int .i64 a] 3)) (OnePost base bs V' s (pushV s i a) (.tuple #[]) (u.alloc (.cells #[.int .i64 a] 3)))):=hide (fun u V' hu=>engPut_any base bs V' s i n cp u.heap.size (some ⟨bp,op,none⟩) a _ (hu.alloc _) hn hr (cell_lays (lays_new rfl) 0))
 have HO:=hide h
 clear h hr
 go_enter Tryd.func88,Tryd.ntmps88
 go_upto_region 3 with fail
 generalize hwb:(w.alloc (.cells #[.pointer (some ⟨bs,0,none⟩),.slice (some ⟨bp,op,none⟩) n cp] 133)).alloc (.cells #[.int .i64 0,.int .i64 a] 61)=wb
 have hkb:Kept w wb:=by rw [← hwb]; exact ((Kept.refl w).alloc _).alloc _
 have lB:wb.heap[w.heap.size]?=some (.cells #[.pointer (some ⟨bs,0,none⟩),.slice (some ⟨bp,op,none⟩) n cp] 133):=by rw [← hwb]; exact lays_alloc (lays_new rfl) _
 have lX:wb.heap[w.heap.size + 1]?=some (.cells #[.int .i64 0,.int .i64 a] 61):=by rw [← hwb]; exact lays_new (by simp)
 have b0:wb.cell? ⟨w.heap.size,0,none⟩=some (.pointer (some ⟨bs,0,none⟩)):=cell_lays lB 0
 have b1:wb.cell? ⟨w.heap.size,1,none⟩=some (.slice (some ⟨bp,op,none⟩) n cp):=cell_lays lB 1
 have b2:wb.cell? ⟨w.heap.size + 1,1,none⟩=some (.int .i64 a):=cell_lays lX 1
 have HKB:=hide hkb
 have HLB:=hide lB
 have HLX:=hide lX
 clear hwb hkb lB lX
 go_wp2_with fail
 refine ((un HP) _ V ((un HO).kept (un HKB))).mono ?_
 rintro e w1 ⟨rfl,V1,hm⟩
 have HM:=hide (hm.pre (un HO) ((un HKB).alloc _))
 clear hm
 go_wp2
 go_end0
 exact Or.inl ⟨rfl,rfl,V1,un HM⟩
theorem do_pop (base bs:Nat) (V:Key→Value) (s:St) (i n cp bp op:Nat) (a:Int) (w:World) (h:OwnVar base w bs V s) (hn:s.now=i) (hr:Runs s i) (hst:0 < (frAt s i ((fibAt s i).frames.length - 1)).stack.length) :
  Calls Tryd.prog 88 #[eng bs (.slice (some ⟨bp,op,none⟩) n cp),.agg #[.int .i64 1,.int .i64 a]] w (EngPost base bs V s (pullV s,0) w):=by
 have HT:Hid (∀ u V',OwnVar base u bs V' s→Calls Tryd.prog 107 #[eng bs (.slice (some ⟨bp,op,none⟩) n cp)] u (OnePost base bs V' s (pullV s) (.int .i64 (lastV s)) u)):=hide (fun u V' hu=>take_any base bs V' s i n cp (some ⟨bp,op,none⟩) u hu hn hr hst)
 have HO:=hide h
 clear h hr
 go_enter Tryd.func88,Tryd.ntmps88
 go_upto_region 5 with fail
 generalize hwb:(w.alloc (.cells #[.pointer (some ⟨bs,0,none⟩),.slice (some ⟨bp,op,none⟩) n cp] 133)).alloc (.cells #[.int .i64 1,.int .i64 a] 61)=wb
 have hkb:Kept w wb:=by rw [← hwb]; exact ((Kept.refl w).alloc _).alloc _
 have lB:wb.heap[w.heap.size]?=some (.cells #[.pointer (some ⟨bs,0,none⟩),.slice (some ⟨bp,op,none⟩) n cp] 133):=by rw [← hwb]; exact lays_alloc (lays_new rfl) _
 have lX:wb.heap[w.heap.size + 1]?=some (.cells #[.int .i64 1,.int .i64 a] 61):=by rw [← hwb]; exact lays_new (by simp)
 have b0:wb.cell? ⟨w.heap.size,0,none⟩=some (.pointer (some ⟨bs,0,none⟩)):=cell_lays lB 0
 have b1:wb.cell? ⟨w.heap.size,1,none⟩=some (.slice (some ⟨bp,op,none⟩) n cp):=cell_lays lB 1
 have b2:wb.cell? ⟨w.heap.size + 1,1,none⟩=some (.int .i64 a):=cell_lays lX 1
 have HKB:=hide hkb
 have HLB:=hide lB
 have HLX:=hide lX
 clear hwb hkb lB lX
 go_wp2_with fail
 refine ((un HT) _ V ((un HO).kept (un HKB))).mono ?_
 rintro e w1 ⟨rfl,V1,hm⟩
 have HM:=hide (hm.pre (un HO) (un HKB))
 clear hm
 go_wp2
 go_end0
 exact Or.inl ⟨rfl,rfl,V1,un HM⟩
theorem do_two4 (base bs:Nat) (V:Key→Value) (s:St) (i n cp bp op:Nat) (a:Int) (w:World) (h:OwnVar base w bs V s) (hn:s.now=i) (hr:Runs s i) (hst:2≤(frAt s i ((fibAt s i).frames.length - 1)).stack.length) :
  Calls Tryd.prog 88 #[eng bs (.slice (some ⟨bp,op,none⟩) n cp),.agg #[.int .i64 4,.int .i64 a]] w (EngPost base bs V s (pushV (pullV (pullV s)) i (reckonS 4 (lastV (pullV s)) (lastV s)),0) w):=by
 have HT:=hide (fun u V' (hu:OwnVar base u bs V' s)=>reckon_any 110 4 (by decide) reckons4 base bs V' s i n cp (some ⟨bp,op,none⟩) u hu hn hr hst)
 have HO:=hide h
 generalize pushV (pullV (pullV s)) i (reckonS 4 (lastV (pullV s)) (lastV s))=s1 at *
 clear h hr
 go_enter Tryd.func88,Tryd.ntmps88
 go_upto_region 11 with fail
 generalize hwb:(w.alloc (.cells #[.pointer (some ⟨bs,0,none⟩),.slice (some ⟨bp,op,none⟩) n cp] 133)).alloc (.cells #[.int .i64 4,.int .i64 a] 61)=wb
 have hkb:Kept w wb:=by rw [← hwb]; exact ((Kept.refl w).alloc _).alloc _
 have lB:wb.heap[w.heap.size]?=some (.cells #[.pointer (some ⟨bs,0,none⟩),.slice (some ⟨bp,op,none⟩) n cp] 133):=by rw [← hwb]; exact lays_alloc (lays_new rfl) _
 have lX:wb.heap[w.heap.size + 1]?=some (.cells #[.int .i64 4,.int .i64 a] 61):=by rw [← hwb]; exact lays_new (by simp)
 have b0:wb.cell? ⟨w.heap.size,0,none⟩=some (.pointer (some ⟨bs,0,none⟩)):=cell_lays lB 0
 have b1:wb.cell? ⟨w.heap.size,1,none⟩=some (.slice (some ⟨bp,op,none⟩) n cp):=cell_lays lB 1
 have b2:wb.cell? ⟨w.heap.size + 1,1,none⟩=some (.int .i64 a):=cell_lays lX 1
 have HKB:=hide hkb
 have HLB:=hide lB
 have HLX:=hide lX
 clear hwb hkb lB lX
 go_wp2_with fail
 refine ((un HT) _ V ((un HO).kept (un HKB))).mono ?_
 rintro e w1 ⟨rfl,V1,hm⟩
 have HM:=hide (hm.pre (un HO) (un HKB))
 clear hm
 go_wp2
 go_end0
 exact Or.inl ⟨rfl,rfl,V1,un HM⟩
theorem do_two5 (base bs:Nat) (V:Key→Value) (s:St) (i n cp bp op:Nat) (a:Int) (w:World) (h:OwnVar base w bs V s) (hn:s.now=i) (hr:Runs s i) (hst:2≤(frAt s i ((fibAt s i).frames.length - 1)).stack.length) :
  Calls Tryd.prog 88 #[eng bs (.slice (some ⟨bp,op,none⟩) n cp),.agg #[.int .i64 5,.int .i64 a]] w (EngPost base bs V s (pushV (pullV (pullV s)) i (reckonS 5 (lastV (pullV s)) (lastV s)),0) w):=by
 have HT:=hide (fun u V' (hu:OwnVar base u bs V' s)=>reckon_any 111 5 (by decide) reckons5 base bs V' s i n cp (some ⟨bp,op,none⟩) u hu hn hr hst)
 have HO:=hide h
 generalize pushV (pullV (pullV s)) i (reckonS 5 (lastV (pullV s)) (lastV s))=s1 at *
 clear h hr
 go_enter Tryd.func88,Tryd.ntmps88
 go_upto_region 13 with fail
 generalize hwb:(w.alloc (.cells #[.pointer (some ⟨bs,0,none⟩),.slice (some ⟨bp,op,none⟩) n cp] 133)).alloc (.cells #[.int .i64 5,.int .i64 a] 61)=wb
 have hkb:Kept w wb:=by rw [← hwb]; exact ((Kept.refl w).alloc _).alloc _
 have lB:wb.heap[w.heap.size]?=some (.cells #[.pointer (some ⟨bs,0,none⟩),.slice (some ⟨bp,op,none⟩) n cp] 133):=by rw [← hwb]; exact lays_alloc (lays_new rfl) _
 have lX:wb.heap[w.heap.size + 1]?=some (.cells #[.int .i64 5,.int .i64 a] 61):=by rw [← hwb]; exact lays_new (by simp)
 have b0:wb.cell? ⟨w.heap.size,0,none⟩=some (.pointer (some ⟨bs,0,none⟩)):=cell_lays lB 0
 have b1:wb.cell? ⟨w.heap.size,1,none⟩=some (.slice (some ⟨bp,op,none⟩) n cp):=cell_lays lB 1
 have b2:wb.cell? ⟨w.heap.size + 1,1,none⟩=some (.int .i64 a):=cell_lays lX 1
 have HKB:=hide hkb
 have HLB:=hide lB
 have HLX:=hide lX
 clear hwb hkb lB lX
 go_wp2_with fail
 refine ((un HT) _ V ((un HO).kept (un HKB))).mono ?_
 rintro e w1 ⟨rfl,V1,hm⟩
 have HM:=hide (hm.pre (un HO) (un HKB))
 clear hm
 go_wp2
 go_end0
 exact Or.inl ⟨rfl,rfl,V1,un HM⟩
theorem do_two6 (base bs:Nat) (V:Key→Value) (s:St) (i n cp bp op:Nat) (a:Int) (w:World) (h:OwnVar base w bs V s) (hn:s.now=i) (hr:Runs s i) (hst:2≤(frAt s i ((fibAt s i).frames.length - 1)).stack.length) :
  Calls Tryd.prog 88 #[eng bs (.slice (some ⟨bp,op,none⟩) n cp),.agg #[.int .i64 6,.int .i64 a]] w (EngPost base bs V s (pushV (pullV (pullV s)) i (reckonS 6 (lastV (pullV s)) (lastV s)),0) w):=by
 have HT:=hide (fun u V' (hu:OwnVar base u bs V' s)=>reckon_any 112 6 (by decide) reckons6 base bs V' s i n cp (some ⟨bp,op,none⟩) u hu hn hr hst)
 have HO:=hide h
 generalize pushV (pullV (pullV s)) i (reckonS 6 (lastV (pullV s)) (lastV s))=s1 at *
 clear h hr
 go_enter Tryd.func88,Tryd.ntmps88
 go_upto_region 15 with fail
 generalize hwb:(w.alloc (.cells #[.pointer (some ⟨bs,0,none⟩),.slice (some ⟨bp,op,none⟩) n cp] 133)).alloc (.cells #[.int .i64 6,.int .i64 a] 61)=wb
 have hkb:Kept w wb:=by rw [← hwb]; exact ((Kept.refl w).alloc _).alloc _
 have lB:wb.heap[w.heap.size]?=some (.cells #[.pointer (some ⟨bs,0,none⟩),.slice (some ⟨bp,op,none⟩) n cp] 133):=by rw [← hwb]; exact lays_alloc (lays_new rfl) _
 have lX:wb.heap[w.heap.size + 1]?=some (.cells #[.int .i64 6,.int .i64 a] 61):=by rw [← hwb]; exact lays_new (by simp)
 have b0:wb.cell? ⟨w.heap.size,0,none⟩=some (.pointer (some ⟨bs,0,none⟩)):=cell_lays lB 0
 have b1:wb.cell? ⟨w.heap.size,1,none⟩=some (.slice (some ⟨bp,op,none⟩) n cp):=cell_lays lB 1
 have b2:wb.cell? ⟨w.heap.size + 1,1,none⟩=some (.int .i64 a):=cell_lays lX 1
 have HKB:=hide hkb
 have HLB:=hide lB
 have HLX:=hide lX
 clear hwb hkb lB lX
 go_wp2_with fail
 refine ((un HT) _ V ((un HO).kept (un HKB))).mono ?_
 rintro e w1 ⟨rfl,V1,hm⟩
 have HM:=hide (hm.pre (un HO) (un HKB))
 clear hm
 go_wp2
 go_end0
 exact Or.inl ⟨rfl,rfl,V1,un HM⟩
theorem do_two7 (base bs:Nat) (V:Key→Value) (s:St) (i n cp bp op:Nat) (a:Int) (w:World) (h:OwnVar base w bs V s) (hn:s.now=i) (hr:Runs s i) (hst:2≤(frAt s i ((fibAt s i).frames.length - 1)).stack.length) :
  Calls Tryd.prog 88 #[eng bs (.slice (some ⟨bp,op,none⟩) n cp),.agg #[.int .i64 7,.int .i64 a]] w (EngPost base bs V s (pushV (pullV (pullV s)) i (reckonS 7 (lastV (pullV s)) (lastV s)),0) w):=by
 have HT:=hide (fun u V' (hu:OwnVar base u bs V' s)=>reckon_any 113 7 (by decide) reckons7 base bs V' s i n cp (some ⟨bp,op,none⟩) u hu hn hr hst)
 have HO:=hide h
 generalize pushV (pullV (pullV s)) i (reckonS 7 (lastV (pullV s)) (lastV s))=s1 at *
 clear h hr
 go_enter Tryd.func88,Tryd.ntmps88
 go_upto_region 17 with fail
 generalize hwb:(w.alloc (.cells #[.pointer (some ⟨bs,0,none⟩),.slice (some ⟨bp,op,none⟩) n cp] 133)).alloc (.cells #[.int .i64 7,.int .i64 a] 61)=wb
 have hkb:Kept w wb:=by rw [← hwb]; exact ((Kept.refl w).alloc _).alloc _
 have lB:wb.heap[w.heap.size]?=some (.cells #[.pointer (some ⟨bs,0,none⟩),.slice (some ⟨bp,op,none⟩) n cp] 133):=by rw [← hwb]; exact lays_alloc (lays_new rfl) _
 have lX:wb.heap[w.heap.size + 1]?=some (.cells #[.int .i64 7,.int .i64 a] 61):=by rw [← hwb]; exact lays_new (by simp)
 have b0:wb.cell? ⟨w.heap.size,0,none⟩=some (.pointer (some ⟨bs,0,none⟩)):=cell_lays lB 0
 have b1:wb.cell? ⟨w.heap.size,1,none⟩=some (.slice (some ⟨bp,op,none⟩) n cp):=cell_lays lB 1
 have b2:wb.cell? ⟨w.heap.size + 1,1,none⟩=some (.int .i64 a):=cell_lays lX 1
 have HKB:=hide hkb
 have HLB:=hide lB
 have HLX:=hide lX
 clear hwb hkb lB lX
 go_wp2_with fail
 refine ((un HT) _ V ((un HO).kept (un HKB))).mono ?_
 rintro e w1 ⟨rfl,V1,hm⟩
 have HM:=hide (hm.pre (un HO) (un HKB))
 clear hm
 go_wp2
 go_end0
 exact Or.inl ⟨rfl,rfl,V1,un HM⟩
theorem do_two8 (base bs:Nat) (V:Key→Value) (s:St) (i n cp bp op:Nat) (a:Int) (w:World) (h:OwnVar base w bs V s) (hn:s.now=i) (hr:Runs s i) (hst:2≤(frAt s i ((fibAt s i).frames.length - 1)).stack.length) :
  Calls Tryd.prog 88 #[eng bs (.slice (some ⟨bp,op,none⟩) n cp),.agg #[.int .i64 8,.int .i64 a]] w (EngPost base bs V s (pushV (pullV (pullV s)) i (reckonS 8 (lastV (pullV s)) (lastV s)),0) w):=by
 have HT:=hide (fun u V' (hu:OwnVar base u bs V' s)=>reckon_any 115 8 (by decide) reckons8 base bs V' s i n cp (some ⟨bp,op,none⟩) u hu hn hr hst)
 have HO:=hide h
 generalize pushV (pullV (pullV s)) i (reckonS 8 (lastV (pullV s)) (lastV s))=s1 at *
 clear h hr
 go_enter Tryd.func88,Tryd.ntmps88
 go_upto_region 19 with fail
 generalize hwb:(w.alloc (.cells #[.pointer (some ⟨bs,0,none⟩),.slice (some ⟨bp,op,none⟩) n cp] 133)).alloc (.cells #[.int .i64 8,.int .i64 a] 61)=wb
 have hkb:Kept w wb:=by rw [← hwb]; exact ((Kept.refl w).alloc _).alloc _
 have lB:wb.heap[w.heap.size]?=some (.cells #[.pointer (some ⟨bs,0,none⟩),.slice (some ⟨bp,op,none⟩) n cp] 133):=by rw [← hwb]; exact lays_alloc (lays_new rfl) _
 have lX:wb.heap[w.heap.size + 1]?=some (.cells #[.int .i64 8,.int .i64 a] 61):=by rw [← hwb]; exact lays_new (by simp)
 have b0:wb.cell? ⟨w.heap.size,0,none⟩=some (.pointer (some ⟨bs,0,none⟩)):=cell_lays lB 0
 have b1:wb.cell? ⟨w.heap.size,1,none⟩=some (.slice (some ⟨bp,op,none⟩) n cp):=cell_lays lB 1
 have b2:wb.cell? ⟨w.heap.size + 1,1,none⟩=some (.int .i64 a):=cell_lays lX 1
 have HKB:=hide hkb
 have HLB:=hide lB
 have HLX:=hide lX
 clear hwb hkb lB lX
 go_wp2_with fail
 refine ((un HT) _ V ((un HO).kept (un HKB))).mono ?_
 rintro e w1 ⟨rfl,V1,hm⟩
 have HM:=hide (hm.pre (un HO) (un HKB))
 clear hm
 go_wp2
 go_end0
 exact Or.inl ⟨rfl,rfl,V1,un HM⟩
theorem do_call (base bs:Nat) (V:Key→Value) (s:St) (i n cp bp op:Nat) (a:Int) (w:World) (h:OwnVar base w bs V s) (hn:s.now=i) (hr:Runs s i) (f a2 lo:Nat) (haf:a=f) (h6:(fibAt s i).frames.length≤6) (hf:f < n) (hlo:lo≤1000) (hal:a2≤lo) (ha:a2≤(frAt s i ((fibAt s i).frames.length - 1)).stack.length)
  (hp:∀ u,Below base w u→u.cell? ⟨bp,op + f * 3,none⟩=some (.int .i64 a2)∧u.cell? ⟨bp,op + f * 3 + 1,none⟩=some (.int .i64 lo)) :
  Calls Tryd.prog 88 #[eng bs (.slice (some ⟨bp,op,none⟩) n cp),.agg #[.int .i64 11,.int .i64 a]] w (EngPost base bs V s (callS s i f a2 lo) w):=by
 have HT:=hide (fun u (hu:Kept w u)=>call_any base bs V s i n cp bp op f a2 lo u (h.kept hu) hn hr h6 hf hlo hal ha (fun u' hb=>hp u' (Below.trans (h.below hu) hb)))
 have HO:=hide h
 generalize callS s i f a2 lo=R at *
 subst haf
 clear h hr hp
 go_enter Tryd.func88,Tryd.ntmps88
 go_upto_region 26 with fail
 generalize hwb:(w.alloc (.cells #[.pointer (some ⟨bs,0,none⟩),.slice (some ⟨bp,op,none⟩) n cp] 133)).alloc (.cells #[.int .i64 11,.int .i64 f] 61)=wb
 have hkb:Kept w wb:=by rw [← hwb]; exact ((Kept.refl w).alloc _).alloc _
 have lB:wb.heap[w.heap.size]?=some (.cells #[.pointer (some ⟨bs,0,none⟩),.slice (some ⟨bp,op,none⟩) n cp] 133):=by rw [← hwb]; exact lays_alloc (lays_new rfl) _
 have lX:wb.heap[w.heap.size + 1]?=some (.cells #[.int .i64 11,.int .i64 f] 61):=by rw [← hwb]; exact lays_new (by simp)
 have b0:wb.cell? ⟨w.heap.size,0,none⟩=some (.pointer (some ⟨bs,0,none⟩)):=cell_lays lB 0
 have b1:wb.cell? ⟨w.heap.size,1,none⟩=some (.slice (some ⟨bp,op,none⟩) n cp):=cell_lays lB 1
 have b2:wb.cell? ⟨w.heap.size + 1,1,none⟩=some (.int .i64 f):=cell_lays lX 1
 have HKB:=hide hkb
 have HLB:=hide lB
 have HLX:=hide lX
 clear hwb hkb lB lX
 go_wp2_with fail
 refine ((un HT) _ (un HKB)).mono ?_
 intro e w1 hp
 have hp':=hp.pre (un HO) (Moved.of_kept (un HO) (un HKB))
 have HP:=hide hp'
 rcases hp with ⟨_,rfl,_⟩ | ⟨_,rfl,_⟩
 ·clear hp'
  go_wp2
  go_end0
  exact un HP
 ·clear hp'
  dsimp only [left]
  go_wp2
  exact ⟨rfl,un HP⟩
theorem do_make (base bs:Nat) (V:Key→Value) (s:St) (i n cp bp op:Nat) (a:Int) (w:World) (h:OwnVar base w bs V s) (hn:s.now=i) (hr:Runs s i) (f lo:Nat) (haf:a=f) (h5:s.fibers.length≤5) (hf:f < n) (hlo:lo≤1000) (hp:∀ u,Below base w u→u.cell? ⟨bp,op + f * 3 + 1,none⟩=some (.int .i64 lo)) :
  Calls Tryd.prog 88 #[eng bs (.slice (some ⟨bp,op,none⟩) n cp),.agg #[.int .i64 13,.int .i64 a]] w (EngPost base bs V s (makeS s i f lo) w):=by
 have HT:=hide (fun u (hu:Kept w u)=>makeFiber_any base bs V s i n cp bp op f lo u (h.kept hu) hn hr h5 hf hlo (fun u' hb=>hp u' (Below.trans (h.below hu) hb)))
 have HO:=hide h
 generalize makeS s i f lo=R at *
 subst haf
 clear h hr hp
 go_enter Tryd.func88,Tryd.ntmps88
 go_upto_region 30 with fail
 generalize hwb:(w.alloc (.cells #[.pointer (some ⟨bs,0,none⟩),.slice (some ⟨bp,op,none⟩) n cp] 133)).alloc (.cells #[.int .i64 13,.int .i64 f] 61)=wb
 have hkb:Kept w wb:=by rw [← hwb]; exact ((Kept.refl w).alloc _).alloc _
 have lB:wb.heap[w.heap.size]?=some (.cells #[.pointer (some ⟨bs,0,none⟩),.slice (some ⟨bp,op,none⟩) n cp] 133):=by rw [← hwb]; exact lays_alloc (lays_new rfl) _
 have lX:wb.heap[w.heap.size + 1]?=some (.cells #[.int .i64 13,.int .i64 f] 61):=by rw [← hwb]; exact lays_new (by simp)
 have b0:wb.cell? ⟨w.heap.size,0,none⟩=some (.pointer (some ⟨bs,0,none⟩)):=cell_lays lB 0
 have b1:wb.cell? ⟨w.heap.size,1,none⟩=some (.slice (some ⟨bp,op,none⟩) n cp):=cell_lays lB 1
 have b2:wb.cell? ⟨w.heap.size + 1,1,none⟩=some (.int .i64 f):=cell_lays lX 1
 have HKB:=hide hkb
 have HLB:=hide lB
 have HLX:=hide lX
 clear hwb hkb lB lX
 go_wp2_with fail
 refine ((un HT) _ (un HKB)).mono ?_
 intro e w1 hp
 have hp':=hp.pre (un HO) (Moved.of_kept (un HO) (un HKB))
 have HP:=hide hp'
 rcases hp with ⟨_,rfl,_⟩ | ⟨_,rfl,_⟩
 ·clear hp'
  go_wp2
  go_end0
  exact un HP
 ·clear hp'
  dsimp only [left]
  go_wp2
  exact ⟨rfl,un HP⟩
theorem do_return (base bs:Nat) (V:Key→Value) (s:St) (i n cp bp op:Nat) (a:Int) (w:World) (h:OwnVar base w bs V s) (hn:s.now=i) (hr:Runs s i) (hst:0 < (frAt s i ((fibAt s i).frames.length - 1)).stack.length) (hout:s.out.length≤30) (hr1:Runs (pullV s) i) (hc1:(fibAt (pullV s) i).frames.length=1→(fibAt (pullV s) i).caller≠-1→∃ m:Nat,(fibAt (pullV s) i).caller=m∧m≠i∧Runs (pullV s) m) (hc2:(fibAt (pullV s) i).frames.length≠1→Runs (dropped (pullV s) i) i) :
  Calls Tryd.prog 88 #[eng bs (.slice (some ⟨bp,op,none⟩) n cp),.agg #[.int .i64 12,.int .i64 a]] w (EngPost base bs V s (gaveBack (pullV s) i (lastV s)) w):=by
 have HT:Hid (∀ u V',OwnVar base u bs V' s→Calls Tryd.prog 107 #[eng bs (.slice (some ⟨bp,op,none⟩) n cp)] u (OnePost base bs V' s (pullV s) (.int .i64 (lastV s)) u)):=hide (fun u V' hu=>take_any base bs V' s i n cp (some ⟨bp,op,none⟩) u hu hn hr hst)
 have HC:Hid (∀ u V',OwnVar base u bs V' (pullV s)→Calls Tryd.prog 117 #[eng bs (.slice (some ⟨bp,op,none⟩) n cp),.int .i64 (lastV s)] u (EngPost base bs V' (pullV s) (gaveBack (pullV s) i (lastV s)) u)):=hide (fun u V' hu=>giveBack_any base bs V' (pullV s) i n cp (some ⟨bp,op,none⟩) (lastV s) u hu hn hr1 hout hc1 hc2)
 have HO:=hide h
 generalize gaveBack (pullV s) i (lastV s)=R at *
 generalize pullV s=s1 at *
 generalize lastV s=z at *
 clear h hr
 go_enter Tryd.func88,Tryd.ntmps88
 go_upto_region 28 with fail
 generalize hwb:(w.alloc (.cells #[.pointer (some ⟨bs,0,none⟩),.slice (some ⟨bp,op,none⟩) n cp] 133)).alloc (.cells #[.int .i64 12,.int .i64 a] 61)=wb
 have hkb:Kept w wb:=by rw [← hwb]; exact ((Kept.refl w).alloc _).alloc _
 have lB:wb.heap[w.heap.size]?=some (.cells #[.pointer (some ⟨bs,0,none⟩),.slice (some ⟨bp,op,none⟩) n cp] 133):=by rw [← hwb]; exact lays_alloc (lays_new rfl) _
 have lX:wb.heap[w.heap.size + 1]?=some (.cells #[.int .i64 12,.int .i64 a] 61):=by rw [← hwb]; exact lays_new (by simp)
 have b0:wb.cell? ⟨w.heap.size,0,none⟩=some (.pointer (some ⟨bs,0,none⟩)):=cell_lays lB 0
 have b1:wb.cell? ⟨w.heap.size,1,none⟩=some (.slice (some ⟨bp,op,none⟩) n cp):=cell_lays lB 1
 have b2:wb.cell? ⟨w.heap.size + 1,1,none⟩=some (.int .i64 a):=cell_lays lX 1
 have HKB:=hide hkb
 have HLB:=hide lB
 have HLX:=hide lX
 clear hwb hkb lB lX
 obtain ⟨hBn,hBo⟩:=(un HO).new (b:=w.heap.size) (by omega)
 have HD:=hide ((Moved.of_kept (un HO) (un HKB)).drew)
 refine wp_regionP 3 [0,1] (fun u=>u.cell? ⟨w.heap.size,0,none⟩=some (.pointer (some ⟨bs,0,none⟩))∧u.cell? ⟨w.heap.size,1,none⟩=some (.slice (some ⟨bp,op,none⟩) n cp)) (by kernel_rfl) ?_
 have hHeld:=And.intro b0 b1
 repeat
  refine takeP (v:=?_) hHeld (fun u hSu=>?_) ?_
  rotate_left
  ·((try dsimp only at hSu); go_simp) <;> with_reducible rfl
  try simp only [PS]
 refine takeP_end ?_
 refine takeT_one (i:=2) rfl (by kernel_rfl) (fun K hK=>?_)
 go_simp
 refine ((un HT) _ V (un HD).own).mono ?_
 rintro e w1 ⟨rfl,V1,hm⟩
 have l1:=hm.lays (lays_drew (un HLB)) hBn hBo
 have HM1:=hide ((un HD).trans hm)
 refine hK.out _ _ (fun _=>⟨cell_lays l1 0,cell_lays l1 1⟩) ?_
 clear hK K hm l1
 try simp only [PS]
 refine takeT_one (i:=3) rfl (by kernel_rfl) (fun K hK=>?_)
 go_simp
 refine ((un HC) _ V1 (un HM1).own).mono ?_
 intro e w2 hp
 have hp':=hp.pre (un HO) (un HM1)
 have HP:=hide hp'
 rcases hp with ⟨_,rfl,_⟩ | ⟨_,rfl,_⟩
 ·refine hK.out _ _ (fun h=>absurd rfl h) ?_
  clear hK K hp'
  refine takeT_done (by kernel_rfl) ?_ _
  go_wp2
  go_end0
  exact un HP
 ·clear hp'
  dsimp only [left]
  exact ⟨rfl,un HP⟩
theorem do_yield (base bs:Nat) (V:Key→Value) (s:St) (i n cp bp op:Nat) (a:Int) (w:World) (h:OwnVar base w bs V s) (hn:s.now=i) (hr:Runs s i) (hst:0 < (frAt s i ((fibAt s i).frames.length - 1)).stack.length) (hi1:i < (pullV s).fibers.length) (hc:(fibAt (pullV s) i).caller≠-1→∃ m:Nat,(fibAt (pullV s) i).caller=m∧m≠i∧Runs (pullV s) m) :
  Calls Tryd.prog 88 #[eng bs (.slice (some ⟨bp,op,none⟩) n cp),.agg #[.int .i64 15,.int .i64 a]] w (EngPost base bs V s (yieldS (pullV s) i (lastV s)) w):=by
 have HT:Hid (∀ u V',OwnVar base u bs V' s→Calls Tryd.prog 107 #[eng bs (.slice (some ⟨bp,op,none⟩) n cp)] u (OnePost base bs V' s (pullV s) (.int .i64 (lastV s)) u)):=hide (fun u V' hu=>take_any base bs V' s i n cp (some ⟨bp,op,none⟩) u hu hn hr hst)
 have HC:Hid (∀ u V',OwnVar base u bs V' (pullV s)→Calls Tryd.prog 120 #[eng bs (.slice (some ⟨bp,op,none⟩) n cp),.int .i64 (lastV s)] u (EngPost base bs V' (pullV s) (yieldS (pullV s) i (lastV s)) u)):=hide (fun u V' hu=>yield_any base bs V' (pullV s) i n cp (some ⟨bp,op,none⟩) (lastV s) u hu hn hi1 hc)
 have HO:=hide h
 generalize yieldS (pullV s) i (lastV s)=R at *
 generalize pullV s=s1 at *
 generalize lastV s=z at *
 clear h hr
 go_enter Tryd.func88,Tryd.ntmps88
 go_upto_region 35 with fail
 generalize hwb:(w.alloc (.cells #[.pointer (some ⟨bs,0,none⟩),.slice (some ⟨bp,op,none⟩) n cp] 133)).alloc (.cells #[.int .i64 15,.int .i64 a] 61)=wb
 have hkb:Kept w wb:=by rw [← hwb]; exact ((Kept.refl w).alloc _).alloc _
 have lB:wb.heap[w.heap.size]?=some (.cells #[.pointer (some ⟨bs,0,none⟩),.slice (some ⟨bp,op,none⟩) n cp] 133):=by rw [← hwb]; exact lays_alloc (lays_new rfl) _
 have lX:wb.heap[w.heap.size + 1]?=some (.cells #[.int .i64 15,.int .i64 a] 61):=by rw [← hwb]; exact lays_new (by simp)
 have b0:wb.cell? ⟨w.heap.size,0,none⟩=some (.pointer (some ⟨bs,0,none⟩)):=cell_lays lB 0
 have b1:wb.cell? ⟨w.heap.size,1,none⟩=some (.slice (some ⟨bp,op,none⟩) n cp):=cell_lays lB 1
 have b2:wb.cell? ⟨w.heap.size + 1,1,none⟩=some (.int .i64 a):=cell_lays lX 1
 have HKB:=hide hkb
 have HLB:=hide lB
 have HLX:=hide lX
 clear hwb hkb lB lX
 obtain ⟨hBn,hBo⟩:=(un HO).new (b:=w.heap.size) (by omega)
 have HD:=hide ((Moved.of_kept (un HO) (un HKB)).drew)
 refine wp_regionP 3 [0,1] (fun u=>u.cell? ⟨w.heap.size,0,none⟩=some (.pointer (some ⟨bs,0,none⟩))∧u.cell? ⟨w.heap.size,1,none⟩=some (.slice (some ⟨bp,op,none⟩) n cp)) (by kernel_rfl) ?_
 have hHeld:=And.intro b0 b1
 repeat
  refine takeP (v:=?_) hHeld (fun u hSu=>?_) ?_
  rotate_left
  ·((try dsimp only at hSu); go_simp) <;> with_reducible rfl
  try simp only [PS]
 refine takeP_end ?_
 refine takeT_one (i:=2) rfl (by kernel_rfl) (fun K hK=>?_)
 go_simp
 refine ((un HT) _ V (un HD).own).mono ?_
 rintro e w1 ⟨rfl,V1,hm⟩
 have l1:=hm.lays (lays_drew (un HLB)) hBn hBo
 have HM1:=hide ((un HD).trans hm)
 refine hK.out _ _ (fun _=>⟨cell_lays l1 0,cell_lays l1 1⟩) ?_
 clear hK K hm l1
 try simp only [PS]
 refine takeT_one (i:=3) rfl (by kernel_rfl) (fun K hK=>?_)
 go_simp
 refine ((un HC) _ V1 (un HM1).own).mono ?_
 intro e w2 hp
 have hp':=hp.pre (un HO) (un HM1)
 have HP:=hide hp'
 rcases hp with ⟨_,rfl,_⟩ | ⟨_,rfl,_⟩
 ·refine hK.out _ _ (fun h=>absurd rfl h) ?_
  clear hK K hp'
  refine takeT_done (by kernel_rfl) ?_ _
  go_wp2
  go_end0
  exact un HP
 ·clear hp'
  dsimp only [left]
  exact ⟨rfl,un HP⟩
theorem do_put (base bs:Nat) (V:Key→Value) (s:St) (i n cp bp op:Nat) (a:Int) (w:World) (h:OwnVar base w bs V s) (hn:s.now=i) (hr:Runs s i) (hst:0 < (frAt s i ((fibAt s i).frames.length - 1)).stack.length) (hout:s.out.length≤30) :
  Calls Tryd.prog 88 #[eng bs (.slice (some ⟨bp,op,none⟩) n cp),.agg #[.int .i64 16,.int .i64 a]] w (EngPost base bs V s (putS (pullV s) (lastV s)) w):=by
 have HT:Hid (∀ u V',OwnVar base u bs V' s→Calls Tryd.prog 107 #[eng bs (.slice (some ⟨bp,op,none⟩) n cp)] u (OnePost base bs V' s (pullV s) (.int .i64 (lastV s)) u)):=hide (fun u V' hu=>take_any base bs V' s i n cp (some ⟨bp,op,none⟩) u hu hn hr hst)
 have HC:Hid (∀ u V',OwnVar base u bs V' (pullV s)→Calls Tryd.prog 121 #[eng bs (.slice (some ⟨bp,op,none⟩) n cp),.int .i64 (lastV s)] u (EngPost base bs V' (pullV s) (putS (pullV s) (lastV s)) u)):=hide (fun u V' hu=>putOut_any base bs V' (pullV s) n cp (some ⟨bp,op,none⟩) (lastV s) u hu hout)
 have HO:=hide h
 generalize putS (pullV s) (lastV s)=R at *
 generalize pullV s=s1 at *
 generalize lastV s=z at *
 clear h hr
 go_enter Tryd.func88,Tryd.ntmps88
 go_upto_region 37 with fail
 generalize hwb:(w.alloc (.cells #[.pointer (some ⟨bs,0,none⟩),.slice (some ⟨bp,op,none⟩) n cp] 133)).alloc (.cells #[.int .i64 16,.int .i64 a] 61)=wb
 have hkb:Kept w wb:=by rw [← hwb]; exact ((Kept.refl w).alloc _).alloc _
 have lB:wb.heap[w.heap.size]?=some (.cells #[.pointer (some ⟨bs,0,none⟩),.slice (some ⟨bp,op,none⟩) n cp] 133):=by rw [← hwb]; exact lays_alloc (lays_new rfl) _
 have lX:wb.heap[w.heap.size + 1]?=some (.cells #[.int .i64 16,.int .i64 a] 61):=by rw [← hwb]; exact lays_new (by simp)
 have b0:wb.cell? ⟨w.heap.size,0,none⟩=some (.pointer (some ⟨bs,0,none⟩)):=cell_lays lB 0
 have b1:wb.cell? ⟨w.heap.size,1,none⟩=some (.slice (some ⟨bp,op,none⟩) n cp):=cell_lays lB 1
 have b2:wb.cell? ⟨w.heap.size + 1,1,none⟩=some (.int .i64 a):=cell_lays lX 1
 have HKB:=hide hkb
 have HLB:=hide lB
 have HLX:=hide lX
 clear hwb hkb lB lX
 obtain ⟨hBn,hBo⟩:=(un HO).new (b:=w.heap.size) (by omega)
 have HD:=hide ((Moved.of_kept (un HO) (un HKB)).drew)
 refine wp_regionP 3 [0,1] (fun u=>u.cell? ⟨w.heap.size,0,none⟩=some (.pointer (some ⟨bs,0,none⟩))∧u.cell? ⟨w.heap.size,1,none⟩=some (.slice (some ⟨bp,op,none⟩) n cp)) (by kernel_rfl) ?_
 have hHeld:=And.intro b0 b1
 repeat
  refine takeP (v:=?_) hHeld (fun u hSu=>?_) ?_
  rotate_left
  ·((try dsimp only at hSu); go_simp) <;> with_reducible rfl
  try simp only [PS]
 refine takeP_end ?_
 refine takeT_one (i:=2) rfl (by kernel_rfl) (fun K hK=>?_)
 go_simp
 refine ((un HT) _ V (un HD).own).mono ?_
 rintro e w1 ⟨rfl,V1,hm⟩
 have l1:=hm.lays (lays_drew (un HLB)) hBn hBo
 have HM1:=hide ((un HD).trans hm)
 refine hK.out _ _ (fun _=>⟨cell_lays l1 0,cell_lays l1 1⟩) ?_
 clear hK K hm l1
 try simp only [PS]
 refine takeT_one (i:=3) rfl (by kernel_rfl) (fun K hK=>?_)
 go_simp
 refine ((un HC) _ V1 (un HM1).own).mono ?_
 intro e w2 hp
 have hp':=hp.pre (un HO) (un HM1)
 have HP:=hide hp'
 rcases hp with ⟨_,rfl,_⟩ | ⟨_,rfl,_⟩
 ·refine hK.out _ _ (fun h=>absurd rfl h) ?_
  clear hK K hp'
  refine takeT_done (by kernel_rfl) ?_ _
  go_wp2
  go_end0
  exact un HP
 ·clear hp'
  dsimp only [left]
  exact ⟨rfl,un HP⟩
theorem do_resume (base bs:Nat) (V:Key→Value) (s:St) (i n cp bp op:Nat) (a:Int) (w:World) (h:OwnVar base w bs V s) (hn:s.now=i) (hr:Runs s i) (hst:2≤(frAt s i ((fibAt s i).frames.length - 1)).stack.length) (hall:∀ u V',OwnVar base u bs V' (pullV (pullV s))→Calls Tryd.prog 119 #[eng bs (.slice (some ⟨bp,op,none⟩) n cp),.int .i64 (lastV (pullV s)),.int .i64 (lastV s)] u (EngPost base bs V' (pullV (pullV s)) (resumeS (pullV (pullV s)) i (lastV (pullV s)) (lastV s)) u)) :
  Calls Tryd.prog 88 #[eng bs (.slice (some ⟨bp,op,none⟩) n cp),.agg #[.int .i64 14,.int .i64 a]] w (EngPost base bs V s (resumeS (pullV (pullV s)) i (lastV (pullV s)) (lastV s)) w):=by
 obtain ⟨hn1,hr1,hs1⟩:=pull_runs hn hr
 have HT:Hid (∀ u V',OwnVar base u bs V' s→Calls Tryd.prog 107 #[eng bs (.slice (some ⟨bp,op,none⟩) n cp)] u (OnePost base bs V' s (pullV s) (.int .i64 (lastV s)) u)):=hide (fun u V' hu=>take_any base bs V' s i n cp (some ⟨bp,op,none⟩) u hu hn hr (by omega))
 have HT2:Hid (∀ u V',OwnVar base u bs V' (pullV s)→Calls Tryd.prog 107 #[eng bs (.slice (some ⟨bp,op,none⟩) n cp)] u (OnePost base bs V' (pullV s) (pullV (pullV s)) (.int .i64 (lastV (pullV s))) u)):=hide (fun u V' hu=>take_any base bs V' (pullV s) i n cp (some ⟨bp,op,none⟩) u hu hn1 hr1 (by rw [hs1]; simp; omega))
 have HC:=hide hall
 have HO:=hide h
 generalize resumeS (pullV (pullV s)) i (lastV (pullV s)) (lastV s)=R at *
 generalize lastV s=z at *
 generalize hs1':pullV s=s1 at *
 generalize pullV s1=s2 at *
 generalize lastV s1=x at *
 clear h hr hr1 hs1 hn1 hall hs1'
 go_enter Tryd.func88,Tryd.ntmps88
 go_upto_region 32 with fail
 generalize hwb:(w.alloc (.cells #[.pointer (some ⟨bs,0,none⟩),.slice (some ⟨bp,op,none⟩) n cp] 133)).alloc (.cells #[.int .i64 14,.int .i64 a] 61)=wb
 have hkb:Kept w wb:=by rw [← hwb]; exact ((Kept.refl w).alloc _).alloc _
 have lB:wb.heap[w.heap.size]?=some (.cells #[.pointer (some ⟨bs,0,none⟩),.slice (some ⟨bp,op,none⟩) n cp] 133):=by rw [← hwb]; exact lays_alloc (lays_new rfl) _
 have lX:wb.heap[w.heap.size + 1]?=some (.cells #[.int .i64 14,.int .i64 a] 61):=by rw [← hwb]; exact lays_new (by simp)
 have b0:wb.cell? ⟨w.heap.size,0,none⟩=some (.pointer (some ⟨bs,0,none⟩)):=cell_lays lB 0
 have b1:wb.cell? ⟨w.heap.size,1,none⟩=some (.slice (some ⟨bp,op,none⟩) n cp):=cell_lays lB 1
 have b2:wb.cell? ⟨w.heap.size + 1,1,none⟩=some (.int .i64 a):=cell_lays lX 1
 have HKB:=hide hkb
 have HLB:=hide lB
 have HLX:=hide lX
 clear hwb hkb lB lX
 obtain ⟨hBn,hBo⟩:=(un HO).new (b:=w.heap.size) (by omega)
 have HD:=hide (Moved.of_kept (un HO) (un HKB))
 go_wp2_with fail
 refine ((un HT) _ V (un HD).own).mono ?_
 rintro e w0 ⟨rfl,V0,hm⟩
 have l0:=hm.lays (un HLB) hBn hBo
 have HL0:=hide l0
 have HB0:=hide (hm.off _ (Array.getElem?_eq_some_iff.1 (un HLB)).1 hBo)
 have c0:w0.cell? ⟨w.heap.size,0,none⟩=some (.pointer (some ⟨bs,0,none⟩)):=cell_lays l0 0
 have c1:w0.cell? ⟨w.heap.size,1,none⟩=some (.slice (some ⟨bp,op,none⟩) n cp):=cell_lays l0 1
 have HM0:=hide (((un HD).trans hm).drew)
 clear hm l0 b0 b1 b2
 go_upto_region 33 with fail
 refine wp_regionP 4 [0,1,3] (fun u=>u.cell? ⟨w.heap.size,0,none⟩=some (.pointer (some ⟨bs,0,none⟩))∧u.cell? ⟨w.heap.size,1,none⟩=some (.slice (some ⟨bp,op,none⟩) n cp)) (by kernel_rfl) ?_
 have hHeld:=And.intro c0 c1
 repeat
  refine takeP (v:=?_) hHeld (fun u hSu=>?_) ?_
  rotate_left
  ·((try dsimp only at hSu); go_simp) <;> with_reducible rfl
  try simp only [PS]
 refine takeP_end ?_
 refine takeT_one (i:=2) rfl (by kernel_rfl) (fun K hK=>?_)
 go_simp
 refine ((un HT2) _ V0 (un HM0).own).mono ?_
 rintro e w1 ⟨rfl,V1,hm⟩
 have l1:=hm.lays (lays_drew (un HL0)) hBn (un HB0)
 have HM1:=hide ((un HM0).trans hm)
 refine hK.out _ _ (fun _=>⟨cell_lays l1 0,cell_lays l1 1⟩) ?_
 clear hK K hm l1
 try simp only [PS]
 refine takeT_one (i:=4) rfl (by kernel_rfl) (fun K hK=>?_)
 go_simp
 refine ((un HC) _ V1 (un HM1).own).mono ?_
 intro e w2 hp
 have hp':=hp.pre (un HO) (un HM1)
 have HP:=hide hp'
 rcases hp with ⟨_,rfl,_⟩ | ⟨_,rfl,_⟩
 ·refine hK.out _ _ (fun h=>absurd rfl h) ?_
  clear hK K hp'
  refine takeT_done (by kernel_rfl) ?_ _
  go_wp2
  go_end0
  exact un HP
 ·clear hp'
  dsimp only [left]
  exact ⟨rfl,un HP⟩
end Go.Proofs.YtogcfkmekdpmmaaDoor
