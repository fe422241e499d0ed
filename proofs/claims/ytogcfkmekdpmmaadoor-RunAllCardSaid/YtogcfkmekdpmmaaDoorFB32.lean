/- StepI, StepK, StepJ, StepH, StepL, StepM0 -/
import Derived.Test.YtogcfkmekdpmmaaDoorFB31
import Derived.Test.YtogcfkmekdpmmaaDoorFB22
import Derived.Test.YtogcfkmekdpmmaaDoorFB18
import Derived.Deep.RegionHeld3
import Derived.StillTailTactics
import Derived.Test.YtogcfkmekdpmmaaDoorFB13
import Derived.Test.YtogcfkmekdpmmaaDoorFB08
set_option maxRecDepth 100000
set_option maxHeartbeats 8000000
namespace Go.Proofs.YtogcfkmekdpmmaaDoor
open Go.RowKit
def filled (l:List Int) (a lo t:Nat):List Int:=(List.range lo).map fun q=>if a - t≤q∧q < a then l.getD (l.length - a + q) 0 else 0
theorem filled_len (l:List Int) (a lo t:Nat):(filled l a lo t).length=lo:=by simp [filled]
theorem filled_zero (l:List Int) (a lo:Nat):filled l a lo 0=List.replicate lo 0:=by
 apply List.ext_getElem
 ·simp [filled]
 ·intro k h1 h2
  simp [filled]
  intro h3 h4
  omega
theorem filled_step (l:List Int) {a lo t:Nat} (ht:t < a) (hl:a≤l.length):(filled l a lo t).set (a - 1 - t) (l.getD (l.length - t - 1) 0)=filled l a lo (t + 1):=by
 apply List.ext_getElem
 ·simp [filled]
 ·intro k h1 h2
  rw [List.getElem_set]
  simp only [filled,List.getElem_map,List.getElem_range]
  split
  ·rename_i e
   subst e
   rw [if_pos (by omega)]
   congr 1
   omega
  ·rename_i e
   by_cases hk:a - t≤k∧k < a
   ·rw [if_pos hk,if_pos (by omega)]
   ·rw [if_neg hk,if_neg (by omega)]
theorem filled_all (l:List Int) {a lo:Nat} (ha:a≤lo) (hl:a≤l.length):filled l a lo a=l.drop (l.length - a)++List.replicate (lo - (l.drop (l.length - a)).length) 0:=by
 have hdl:(l.drop (l.length - a)).length=a:=by simp; omega
 rw [hdl]
 apply List.ext_getElem
 ·simp [filled]; omega
 ·intro k h1 h2
  simp only [filled,List.getElem_map,List.getElem_range]
  by_cases hk:k < a
  ·rw [if_pos (by omega),List.getElem_append_left (by omega),List.getElem_drop]
   have:l.length - a + k < l.length:=by omega
   simp [List.getD,this]
  ·rw [if_neg (by omega),List.getElem_append_right (by omega)]
   simp
theorem ints_arr {l:List Int} {i:Nat} {z:Int} (h:l[i]?=some z):(ints l).toArray[i]?=some (.int .i64 z):=by
 rw [List.getElem?_toArray]; exact ints_at h
theorem OwnVar.setOff {base bs:Nat} {w:World} {V:Key→Value} {s:St} (h:OwnVar base w bs V s) {b j:Nat} (hb:Own.off V s b) (hne:bs≠b) (u:Value):OwnVar base (w.setCell ⟨b,j,none⟩ u) bs V s :=
 ⟨by rw [Below.heap_setCell _ _ _ _ hne]; exact h.var,h.own.setOff (a:=⟨b,j,none⟩) hb u,h.off,h.low⟩
theorem cell_other {w:World} {b i B j:Nat} {v:Value} (h:w.cell? ⟨b,i,none⟩=some v) (hne:b≠B) (u:Value):(w.setCell ⟨B,j,none⟩ u).cell? ⟨b,i,none⟩=some v:=by
 rw [World.cell?_of_block (w:=w)]
 ·exact h
 ·exact Below.heap_setCell w _ _ _ hne
theorem frame_added (base bs:Nat) (V:Key→Value) (s:St) (i gF capF BL lo:Nat) (w:World) (h:OwnVar base w bs V s) (hi:i < s.fibers.length) (hF:V .fibers=.slice (some ⟨gF,0,none⟩) s.fibers.length capF)
  (hfr:(fibAt s i).frames.length≤1000) (f:Fr) (hst:f.stack=[]) (hlen:f.locals.length=lo) (hlo:lo≤1000) (hBL:w.heap[BL]?=some (.cells (ints f.locals).toArray 3)) (hoff:Own.off V s BL) (hlow:base≤BL) (hbsL:bs≠BL) :
  ∃ v' w',(Builtin.append_ #[77,77] 77 #[V (.frames i),.slice (some ⟨w.heap.size,0,none⟩) 1 1]).run Tryd.prog (w.alloc (.cells #[.int .i64 f.fn,.int .i64 f.at_,.slice (some ⟨BL,0,none⟩) lo lo,.slice none 0 0] 76)).drew=.ok v' w' ∧
   (∃ o c,v'=.slice o ((fibAt s i).frames.length + 1) c)∧(∃ V',OwnVar base (w'.setCell ⟨gF,i * 2,none⟩ v') bs V' (setFib s i { fibAt s i with frames:=(fibAt s i).frames++[f] }))∧Below base w w' ∧
   (∀ b,b < w.heap.size→(V (.frames i)).ownBlock≠some b→w'.heap[b]?=w.heap[b]?):=by
 subst hlen
 have hku:Kept w (w.alloc (.cells #[.int .i64 f.fn,.int .i64 f.at_,.slice (some ⟨BL,0,none⟩) f.locals.length f.locals.length,.slice none 0 0] 76)).drew:=((Kept.refl w).alloc _).drew
 have hu:=h.kept hku
 obtain ⟨v',w',V',h1,h2,h3,h4,_⟩:=frame_comes hu hi hF hfr f hst hlo (lays_drew (lays_alloc hBL _)) hoff hlow hbsL (lays_drew (lays_new rfl))
 exact ⟨v',w',h1,h2,⟨V',h3⟩,Below.grown (h.below hku) h4 (by have:=h.low; have:=lt_of_block hu.var; omega) (fun r hr=>((hu.own.piece (.frames i) hi).block r hr).1),fun b hb hne=>(h4.block b (Nat.lt_of_lt_of_le hb hku.size) (fun e=>hne e.symm)).trans (hku.block b hb)⟩
theorem called_any (base bs:Nat) (V:Key→Value) (s:St) (i fi n cp bp op a lo:Nat) (w:World) (h:OwnVar base w bs V s) (hn:s.now=i) (hr:Runs s i)
  (hpc:∀ u,Below base w u→u.cell? ⟨bp,op + fi * 3,none⟩=some (.int .i64 a)∧u.cell? ⟨bp,op + fi * 3 + 1,none⟩=some (.int .i64 lo)) (hfi:fi < n) (hal:a≤lo) (hlo:lo≤1000) (hst:a≤(frAt s i ((fibAt s i).frames.length - 1)).stack.length) (hf6:(fibAt s i).frames.length≤6) (R:St × Int)
  (hR:(if (fibAt s i).frames.length=6 then (St.zero,(2:Int)) else (setFib (takeTop s i a) i { fibAt (takeTop s i a) i with frames:=(fibAt (takeTop s i a) i).frames++[⟨fi,0,(frAt s i ((fibAt s i).frames.length - 1)).stack.drop ((frAt s i ((fibAt s i).frames.length - 1)).stack.length - a)++List.replicate (lo - ((frAt s i ((fibAt s i).frames.length - 1)).stack.drop ((frAt s i ((fibAt s i).frames.length - 1)).stack.length - a)).length) 0,[]⟩] },0))=R) :
  Calls Tryd.prog 93 #[.slice (some ⟨bp,op,none⟩) n cp,.pointer (some ⟨bs,0,none⟩),.int .i64 fi] w fun e w'=>EndPost base bs R w e w':=by
 have hmk:=make_ints lo (by omega)
 have hbw:=lt_of_block h.var
 have hlow:=h.low
 obtain ⟨p0,p1⟩:=hpc w (Below.refl _ _)
 have hlp:=cell_lt p0
 simp only at hlp
 have HO:=hide h
 have HR:=hide hR
 have HRU:=hide hr
 have HPC:=hide hpc
 have hf1:(fi:Int) < (n:Int):=by omega
 have hf0:(0:Int)≤(fi:Int):=by omega
 have hwa:IntKind.i64.wrap ((a:Int) - 1)=(a:Int) - 1:=by rw [IntKind.wrap_i64]; omega
 clear h hR hpc
 go_enter Tryd.func93,Tryd.ntmps93
 go_wp2
 have hrep:Array.replicate lo (Value.int .i64 0)=(ints (filled (frAt s i ((fibAt s i).frames.length - 1)).stack a lo 0)).toArray:=by rw [filled_zero]; simp [ints]
 rw [hrep]
 generalize hw1:(w.alloc (.cells (ints (filled (frAt s i ((fibAt s i).frames.length - 1)).stack a lo 0)).toArray 3)).alloc (.cells #[.int .i64 fi,.int .i64 0,.slice (some ⟨w.heap.size,0,none⟩) lo lo,.slice none 0 0] 76)=w1 at *
 generalize hBL:w.heap.size=BL at *
 generalize hBX:BL + 1=BX at *
 have L0:w1.heap[BL]?=some (.cells (ints (filled (frAt s i ((fibAt s i).frames.length - 1)).stack a lo 0)).toArray 3):=by rw [← hw1]; exact lays_alloc (lays_new hBL) _
 have L1:w1.heap[BX]?=some (.cells #[.int .i64 fi,.int .i64 0,.slice (some ⟨BL,0,none⟩) lo lo,.slice none 0 0] 76):=by rw [← hw1]; exact lays_new (by simp [hBL,hBX])
 have ho1:OwnVar base w1 bs V s:=by rw [← hw1]; exact ((un HO).alloc _).alloc _
 have hb1:Below base w w1:=by rw [← hw1]; exact Below.alloc (Below.alloc (Below.refl _ w) (by omega) _) (by simp; omega) _
 have hoffL:Own.off V s BL:=(un HO).own.new_off (.inl (by omega))
 have HOL:=hide hoffL
 have HL0:=hide L0
 have HL1:=hide L1
 have HO1:=hide ho1
 have HB1:=hide hb1
 have HBW:Hid (w.heap.size=BL∧BX=BL + 1):=hide ⟨hBL,hBX.symm⟩
 generalize hst':(frAt s i ((fibAt s i).frames.length - 1)).stack=l at *
 have HST:=hide hst'
 clear hw1 L0 L1 ho1 hb1 hoffL hrep hBL hBX hst' p0 p1 hlp
 go_loopw [8] (fun s8 wr=>∃ (t:Nat) (V':Key→Value),t≤a∧s8=.int .i64 ((a:Int) - 1 - t)∧Hid (OwnVar base wr bs V' (takeTop s i t))∧Hid (V' (.frames i)=V (.frames i))∧Hid (∀ k,(V' k).ownBlock=(V k).ownBlock)∧Hid (wr.heap[BL]?=some (.cells (ints (filled l a lo t)).toArray 3))∧Hid (wr.heap[BX]?=some (.cells #[.int .i64 fi,.int .i64 0,.slice (some ⟨BL,0,none⟩) lo lo,.slice none 0 0] 76))∧Hid (Below base w wr)) (fun s8 _=>(intOf s8 + 1).toNat)
 case atStart=>exact ⟨0,V,Nat.zero_le _,by simp,hide (by rw [takeTop_zero (un HRU)]; exact un HO1),rfl,hide (fun _=>rfl),HL0,HL1,HB1⟩
 case round =>
  obtain ⟨t,V2,hta,rfl,HO2,HVF,HVB,HL2,HX2,HB2⟩:=hrel
  obtain ⟨g,cap,eg,_⟩:=(un HO).own.fr (i:=i) (j:=0) (un HRU).lt (un HRU).fr
  have hgw:g < w.heap.size:=(((un HO).own.piece (.frames i) (un HRU).lt).block g (by rw [eg]; rfl)).2
  have hgL:g≠BL∧g≠BX:=by have:=un HBW; omega
  have hVg:(V2 (.frames i)).ownBlock=some g:=by rw [un HVF,eg]; rfl
  have HGL:=hide hgL
  have HVG:=hide hVg
  obtain ⟨f1,f2,f3,f4,f5,f6⟩:=takeTop_facts (un HRU) t
  clear hgL hVg eg hgw
  by_cases hlt:t < a
  ·obtain ⟨k,hk⟩:∃ k:Nat,(a:Int) - 1 - t=k:=⟨a - 1 - t,by omega⟩
   have hka:k=a - 1 - t:=by omega
   have hkl:k < lo:=by omega
   obtain ⟨hpt,hlv⟩:=pull_take hn (un HRU) (t:=t) (by rw [un HST]; omega)
   have hpull:=fun (u:World) (hu:u.heap=wr.heap)=>pull_sharp base bs V2 (takeTop s i t) i u ((un HO2).same hu) (by rw [f2]; exact hn) f6.lt f6.fr f6.frs f6.st (by rw [f4,f5,List.length_take,un HST]; omega)
   rw [hpt,hlv,un HST] at hpull
   have HPU:=hide hpull
   have x2:wr.cell? ⟨BX,2,none⟩=some (.slice (some ⟨BL,0,none⟩) lo lo):=cell_at (un HX2) rfl
   have HX:=hide x2
   have hk1:(k:Int) < (lo:Int):=by omega
   have hkz:(0:Int)≤(k:Int):=by omega
   have hwk:IntKind.i64.wrap ((k:Int) - 1)=(k:Int) - 1:=by rw [IntKind.wrap_i64]; omega
   have hfs:=filled_step l (a:=a) (lo:=lo) (t:=t) hlt (by rw [← un HST]; rw [un HST]; exact hst)
   rw [← hka] at hfs
   have HFS:=hide hfs
   generalize hz:l.getD (l.length - t - 1) 0=z at *
   rw [hk]
   have HKA:=hide hka
   have HHK:=hide hk
   clear hpull hpt hlv x2 hfs f1 f2 f3 f4 f5 f6 hz hka hk
   go_wp2_with fail
   go_region_held3 (fun u=>u.cell? ⟨BX,2,none⟩=some (.slice (some ⟨BL,0,none⟩) lo lo))
    (first | exact (cell_other (cell_at hXA rfl) (by have:=un HBW; omega) _) | exact cell_at hXA rfl | exact un HX)
    (first | (go_at_call 92; refine ((un HPU) wr.drew rfl).mono ?_; rintro e wA ⟨rfl,VA,hoA,hbA,hvfA,hvbA,hheap⟩; have hXA:wA.heap[BX]?=_:=(hheap BX (by rw [un HVG]; intro e; exact (un HGL).2 (by cases e; rfl))).trans (un HX2); have hLA:wA.heap[BL]?=_:=(hheap BL (by rw [un HVG]; intro e; exact (un HGL).1 (by cases e; rfl))).trans (un HL2); have yk:wA.cell? ⟨BL,k,none⟩=some (.int .i64 ((filled l a lo t).getD k 0)):=cell_at hLA (ints_arr (getD_of_lt _ _ 0 (by rw [filled_len]; exact hkl))); have zk:=frozen_lays hLA k))
   all_goals go_wp2_with fail
   have hoff:Own.off VA (takeTop s i (t + 1)) BL:=fun kk hkk e=>by
    rw [hvbA,un HVB] at e
    exact (un HOL) kk ((setFr_live _ (un HRU).lt kk).1 hkk) e
   have hbsL:bs≠BL:=by have:=un HBW; omega
   refine ⟨⟨t + 1,VA,by omega,by have:=un HHK; congr 1; omega,hide (hoA.setOff hoff hbsL _),hide (hvfA.trans (un HVF)),hide (fun kk=>(hvbA kk).trans ((un HVB) kk)),hide ?_,hide ?_,hide ?_⟩,?_⟩
   ·have:=lays_set hLA k (.int .i64 z)
    rw [this,← un HFS]
    simp [ints,List.map_set]
   ·rw [Below.heap_setCell _ _ _ _ (by have:=un HBW; simp only; omega)]
    exact hXA
   ·exact Below.setCell (Below.trans (un HB2) (Below.trans (Below.drew (Below.refl _ wr)) hbA)) (by have:=un HBW; simp only; omega) _
   ·simp only [intOf]; omega
  ·obtain rfl:t=a:=by omega
   obtain ⟨c0,c1,_,fz⟩:=(un HO2).cells
   obtain ⟨gF,capF,eF,_,k0,k1,fzF,hbF⟩:=(un HO2).own.fib (i:=i) f6.lt
   obtain ⟨g',cap',eg',hcap,_⟩:=(un HO2).own.fr (i:=i) (j:=0) f6.lt f6.fr
   rw [eF,f1] at c0
   rw [f2,hn] at c1
   rw [eg',f4] at k0
   have hi1:(i:Int) < (s.fibers.length:Int):=by have:=(un HRU).lt; omega
   have hi0:(0:Int)≤(i:Int):=by omega
   have hge:decide ((0:Int)≤(t:Int) - 1 - (t:Int))=false:=decide_eq_false (by omega)
   have hR:=un HR
   generalize hq:(fibAt s i).frames.length=q at *
   have HQ:=hide hq
   by_cases h6:q=6
   ·subst h6
    rw [if_pos rfl] at hR
    subst hR
    go_wp2
    go_quiet (fail)
    go_wp2
    go_ret
    exact ⟨rfl,below_drewN (un HB2) _,fun e=>by cases e⟩
   ·rw [if_neg h6] at hR
    have hb6:((q:Int) == 6)=false:=by rw [beq_eq_false_iff_ne]; omega
    have HR2:=hide hR
    clear hR
    go_wp2
    go_quiet (fail)
    go_wp2
    generalize hw3:wr.drewN nq=w3
    have hsm:w3.heap=wr.heap:=by rw [← hw3]; rfl
    have ho3:OwnVar base w3 bs V2 (takeTop s i t):=(un HO2).same hsm
    have hb3:Below base w w3:=by rw [← hw3]; exact below_drewN (un HB2) nq
    have d0:w3.cell? ⟨bs,0,none⟩=some (.slice (some ⟨gF,0,none⟩) s.fibers.length capF):=by rw [← hw3]; exact c0
    have d1:w3.cell? ⟨bs,1,none⟩=some (.int .i64 i):=by rw [← hw3]; exact c1
    have e0:w3.cell? ⟨gF,i * 2,none⟩=some (.slice (some ⟨g',0,none⟩) q cap'):=by rw [← hw3]; exact k0
    have LX:w3.heap[BX]?=some (.cells #[.int .i64 fi,.int .i64 0,.slice (some ⟨BL,0,none⟩) lo lo,.slice none 0 0] 76):=by rw [hsm]; exact un HX2
    have x0:w3.cell? ⟨BX,0,none⟩=some (.int .i64 fi):=cell_at LX rfl
    have x1:w3.cell? ⟨BX,1,none⟩=some (.int .i64 0):=cell_at LX rfl
    have x2:w3.cell? ⟨BX,2,none⟩=some (.slice (some ⟨BL,0,none⟩) lo lo):=cell_at LX rfl
    have x3:w3.cell? ⟨BX,3,none⟩=some (.slice none 0 0):=cell_at LX rfl
    clear hw3 c0 c1 k0 LX
    have HYS:Hid (∀ u,Kept w3 u→u.cell? ⟨bs,0,none⟩=some (.slice (some ⟨gF,0,none⟩) s.fibers.length capF)∧u.cell? ⟨bs,1,none⟩=some (.int .i64 i)∧u.cell? ⟨BX,0,none⟩=some (.int .i64 fi)∧u.cell? ⟨BX,1,none⟩=some (.int .i64 0)∧u.cell? ⟨BX,2,none⟩=some (.slice (some ⟨BL,0,none⟩) lo lo)∧u.cell? ⟨BX,3,none⟩=some (.slice none 0 0)∧u.cell? ⟨gF,i * 2,none⟩=some (.slice (some ⟨g',0,none⟩) q cap')):=hide (fun u hu=>⟨hu.cell d0,hu.cell d1,hu.cell x0,hu.cell x1,hu.cell x2,hu.cell x3,hu.cell e0⟩)
    have hoffL3:Own.off V2 (takeTop s i t) BL:=fun kk hkk e=>by
     rw [un HVB] at e
     exact (un HOL) kk ((setFr_live _ (un HRU).lt kk).1 hkk) e
    have hF3:V2 .fibers=.slice (some ⟨gF,0,none⟩) (takeTop s i t).fibers.length capF:=eF
    have hgb:(V2 (.frames i)).ownBlock=some g':=by rw [eg']; rfl
    have hg1:g'≠bs:=fun e=>ho3.off (.frames i) f6.lt (by rw [hgb,e])
    have hg2:g'≠gF:=fun e=>by have:=ho3.own.apart (.frames i) .fibers gF f6.lt trivial (by rw [hgb,e]) (by rw [eF]; rfl); cases this
    have hgw:g < BL:=by have:=(((un HO).own.piece (.frames i) (un HRU).lt).block g (by rw [← un HVB]; exact un HVG)).2; have:=un HBW; omega
    have hgg:g'=g:=by have:=un HVG; rw [hgb] at this; exact Option.some.inj this
    have hg3:g'≠BX:=by have:=un HBW; omega
    have hlbs:=cell_lt d0
    have hlBX:=cell_lt x0
    have hlgF:=cell_lt e0
    simp only at hlbs hlBX hlgF
    obtain ⟨v5,w5,hr5,⟨o5,c5,rfl⟩,ho5,hb5,hk5⟩:=frame_added base bs V2 (takeTop s i t) i gF capF BL lo w3 ho3 f6.lt hF3 (by rw [f4]; omega) ⟨fi,0,filled l t lo t,[]⟩ rfl (filled_len _ _ _ _) hlo (by rw [hsm]; exact un HL2) hoffL3 (by have:=un HBW; omega) (by have:=un HBW; omega)
    rw [hgb] at hk5
    rw [f4] at ho5 hr5
    rw [eg',f4] at hr5
    dsimp only at hr5
    have HR5:=hide hr5
    have HO5:=hide ho5
    have HB5:=hide (Below.trans hb3 hb5)
    have sm:∀ {b j:Nat} {vv:Value},b < w3.heap.size→g'≠b→w3.cell? ⟨b,j,none⟩=some vv→w5.cell? ⟨b,j,none⟩=some vv:=fun h1 h2 h3=>(World.cell?_of_block (w:=w3) (hk5 _ h1 (fun e=>h2 (Option.some.inj e)))).trans h3
    have HS5:Hid (w5.cell? ⟨bs,0,none⟩=some (.slice (some ⟨gF,0,none⟩) s.fibers.length capF)∧w5.cell? ⟨bs,1,none⟩=some (.int .i64 i)∧w5.cell? ⟨BX,0,none⟩=some (.int .i64 fi)∧w5.cell? ⟨BX,1,none⟩=some (.int .i64 0)∧w5.cell? ⟨BX,2,none⟩=some (.slice (some ⟨BL,0,none⟩) lo lo)∧w5.cell? ⟨BX,3,none⟩=some (.slice none 0 0)∧w5.cell? ⟨gF,i * 2,none⟩=some (.slice (some ⟨g',0,none⟩) q cap')):=hide ⟨sm hlbs hg1 d0,sm hlbs hg1 d1,sm hlBX hg3 x0,sm hlBX hg3 x1,sm hlBX hg3 x2,sm hlBX hg3 x3,sm hlgF hg2 e0⟩
    have fz5:w5.frozen? ⟨gF,i * 2,none⟩=false:=(World.frozen?_of_block (w:=w3) (hk5 gF hlgF (fun e=>hg2 (Option.some.inj e)))).trans ((World.frozen?_of_block (w:=wr) (a:=⟨gF,i * 2,none⟩) (by rw [hsm])).trans (fzF _))
    have HFZ:=hide fz5
    have HFA:Hid (filled l t lo t=l.drop (l.length - t)++List.replicate (lo - (l.drop (l.length - t)).length) 0):=hide (filled_all l hal hst)
    clear hsm
    clear hr5 ho5 hb5 hk5 sm fz5 hoffL3 hF3 hgb hg1 hg2 hg3 hgw hgg hlbs hlBX hlgF
    refine wp_regionT 24 (fun u=>u.cell? ⟨bs,0,none⟩=some (.slice (some ⟨gF,0,none⟩) s.fibers.length capF)∧u.cell? ⟨bs,1,none⟩=some (.int .i64 i)∧u.cell? ⟨BX,0,none⟩=some (.int .i64 fi)∧u.cell? ⟨BX,1,none⟩=some (.int .i64 0)∧u.cell? ⟨BX,2,none⟩=some (.slice (some ⟨BL,0,none⟩) lo lo)∧u.cell? ⟨BX,3,none⟩=some (.slice none 0 0)∧u.cell? ⟨gF,i * 2,none⟩=some (.slice (some ⟨g',0,none⟩) q cap')) (by kernel_rfl) ?_
    have hHeld:=(un HYS) _ (Kept.refl w3).drew
    refine takeT (i:=0) (v:=?_) rfl (by kernel_rfl) (by kernel_rfl) (by kernel_rfl) (by kernel_rfl) (fun _ _ _ h=>h) (by rfl) (fun u hSu=>?_) hHeld ?_
    rotate_left
    ·((try dsimp only at hSu); go_simp) <;> with_reducible rfl
    simp only [PS]
    refine takeT (i:=1) (v:=?_) rfl (by kernel_rfl) (by kernel_rfl) (by kernel_rfl) (by kernel_rfl) (fun _ _ _ h=>h) (by rfl) (fun u hSu=>?_) hHeld ?_
    rotate_left
    ·((try dsimp only at hSu); go_simp) <;> with_reducible rfl
    simp only [PS]
    refine takeT (i:=2) (v:=?_) rfl (by kernel_rfl) (by kernel_rfl) (by kernel_rfl) (by kernel_rfl) (fun _ _ _ h=>h) (by rfl) (fun u hSu=>?_) hHeld ?_
    rotate_left
    ·((try dsimp only at hSu); go_simp) <;> with_reducible rfl
    simp only [PS]
    refine takeT (i:=3) (v:=?_) rfl (by kernel_rfl) (by kernel_rfl) (by kernel_rfl) (by kernel_rfl) (fun _ _ _ h=>h) (by rfl) (fun u hSu=>?_) hHeld ?_
    rotate_left
    ·((try dsimp only at hSu); go_simp) <;> with_reducible rfl
    simp only [PS]
    refine takeT (i:=4) (v:=?_) rfl (by kernel_rfl) (by kernel_rfl) (by kernel_rfl) (by kernel_rfl) (fun _ _ _ h=>h) (by rfl) (fun u hSu=>?_) hHeld ?_
    rotate_left
    ·((try dsimp only at hSu); go_simp) <;> with_reducible rfl
    simp only [PS]
    refine takeT (i:=5) (v:=?_) rfl (by kernel_rfl) (by kernel_rfl) (by kernel_rfl) (by kernel_rfl) (fun _ _ _ h=>h) (by rfl) (fun u hSu=>?_) hHeld ?_
    rotate_left
    ·((try dsimp only at hSu); go_simp) <;> with_reducible rfl
    simp only [PS]
    refine takeT (i:=6) (v:=?_) rfl (by kernel_rfl) (by kernel_rfl) (by kernel_rfl) (by kernel_rfl) (fun _ _ _ h=>h) (by rfl) (fun u hSu=>?_) hHeld ?_
    rotate_left
    ·((try dsimp only at hSu); go_simp) <;> with_reducible rfl
    simp only [PS]
    refine takeT (i:=7) (v:=?_) rfl (by kernel_rfl) (by kernel_rfl) (by kernel_rfl) (by kernel_rfl) (fun _ _ _ h=>h) (by rfl) (fun u hSu=>?_) hHeld ?_
    rotate_left
    ·((try dsimp only at hSu); go_simp) <;> with_reducible rfl
    simp only [PS]
    refine takeT (i:=8) (v:=?_) rfl (by kernel_rfl) (by kernel_rfl) (by kernel_rfl) (by kernel_rfl) (fun _ _ _ h=>h) (by rfl) (fun u hSu=>?_) hHeld ?_
    rotate_left
    ·((try dsimp only at hSu); go_simp) <;> with_reducible rfl
    simp only [PS]
    refine takeT (i:=9) (v:=?_) rfl (by kernel_rfl) (by kernel_rfl) (by kernel_rfl) (by kernel_rfl) (fun _ _ _ h=>h) (by rfl) (fun u hSu=>?_) hHeld ?_
    rotate_left
    ·((try dsimp only at hSu); go_simp) <;> with_reducible rfl
    simp only [PS]
    refine takeT (i:=10) (v:=?_) rfl (by kernel_rfl) (by kernel_rfl) (by kernel_rfl) (by kernel_rfl) (fun _ _ _ h=>h) (by rfl) (fun u hSu=>?_) hHeld ?_
    rotate_left
    ·((try dsimp only at hSu); go_simp) <;> with_reducible rfl
    simp only [PS]
    refine takeT (i:=11) (v:=?_) rfl (by kernel_rfl) (by kernel_rfl) (by kernel_rfl) (by kernel_rfl) (fun _ _ _ h=>h) (by rfl) (fun u hSu=>?_) hHeld ?_
    rotate_left
    ·((try dsimp only at hSu); go_simp) <;> with_reducible rfl
    simp only [PS]
    refine takeT (i:=12) (v:=?_) rfl (by kernel_rfl) (by kernel_rfl) (by kernel_rfl) (by kernel_rfl) (fun _ _ _ h=>h) (by rfl) (fun u hSu=>?_) hHeld ?_
    rotate_left
    ·((try dsimp only at hSu); go_simp) <;> with_reducible rfl
    simp only [PS]
    refine takeT (i:=13) (v:=?_) rfl (by kernel_rfl) (by kernel_rfl) (by kernel_rfl) (by kernel_rfl) (fun _ _ _ h=>h) (by rfl) (fun u hSu=>?_) hHeld ?_
    rotate_left
    ·((try dsimp only at hSu); go_simp) <;> with_reducible rfl
    simp only [PS]
    refine takeT (i:=14) (v:=?_) rfl (by kernel_rfl) (by kernel_rfl) (by kernel_rfl) (by kernel_rfl) (fun _ _ _ h=>h) (by rfl) (fun u hSu=>?_) hHeld ?_
    rotate_left
    ·((try dsimp only at hSu); go_simp) <;> with_reducible rfl
    simp only [PS]
    refine takeT (i:=15) (v:=?_) rfl (by kernel_rfl) (by kernel_rfl) (by kernel_rfl) (by kernel_rfl) (fun _ _ _ h=>h) (by rfl) (fun u hSu=>?_) hHeld ?_
    rotate_left
    ·((try dsimp only at hSu); go_simp) <;> with_reducible rfl
    simp only [PS]
    refine takeT (i:=16) (v:=?_) rfl (by kernel_rfl) (by kernel_rfl) (by kernel_rfl) (by kernel_rfl) (fun _ _ _ h=>h) (by rfl) (fun u hSu=>?_) hHeld ?_
    rotate_left
    ·((try dsimp only at hSu); go_simp) <;> with_reducible rfl
    simp only [PS]
    refine takeT (i:=17) (v:=?_) rfl (by kernel_rfl) (by kernel_rfl) (by kernel_rfl) (by kernel_rfl) (fun _ _ _ h=>h) (by rfl) (fun u hSu=>?_) hHeld ?_
    rotate_left
    ·((try dsimp only at hSu); go_simp) <;> with_reducible rfl
    simp only [PS]
    refine takeT (i:=18) (v:=?_) rfl (by kernel_rfl) (by kernel_rfl) (by kernel_rfl) (by kernel_rfl) (fun _ _ _ h=>h) (by rfl) (fun u hSu=>?_) hHeld ?_
    rotate_left
    ·((try dsimp only at hSu); go_simp) <;> with_reducible rfl
    simp only [PS]
    refine takeT (i:=19) (v:=?_) rfl (by kernel_rfl) (by kernel_rfl) (by kernel_rfl) (by kernel_rfl) (fun _ _ _ h=>h) (by rfl) (fun u hSu=>?_) hHeld ?_
    rotate_left
    ·((try dsimp only at hSu); go_simp) <;> with_reducible rfl
    simp only [PS]
    refine takeT_one (i:=20) rfl (by kernel_rfl) (fun K hK=>?_)
    go_simp
    refine hK.out _ _ (fun _=>(un HYS) _ (((Kept.refl w3).alloc _).drew)) ?_
    clear hK K
    try simp only [PS]
    refine takeT_one (i:=21) rfl (by kernel_rfl) (fun K hK=>?_)
    rw [if_pos (by rfl)]
    refine wp_appR (v:=.slice (some ⟨g',0,none⟩) q cap') _ _ _ 77 rfl rfl rfl (un HR5) ?_
    refine hK.out _ _ (fun _=>un HS5) ?_
    clear hK K
    try simp only [PS]
    refine takeT_one (i:=22) rfl (by kernel_rfl) (fun K hK=>?_)
    go_simp
    refine hK.out _ _ (fun _=>un HS5) ?_
    clear hK K
    try simp only [PS]
    refine takeT_one (i:=23) rfl (by kernel_rfl) (fun K hK=>?_)
    go_simp
    refine hK.out _ _ (fun _=>un HS5) ?_
    clear hK K
    try simp only [PS]
    have g5:=(un HS5).2.2.2.2.2.2
    have fz5:=un HFZ
    refine takeT_one (i:=24) rfl (by kernel_rfl) (fun K hK=>?_)
    go_simp
    refine hK.out _ _ (fun h=>absurd rfl h) ?_
    clear hK K
    refine takeT_done (by kernel_rfl) ?_ _
    clear g5 fz5
    go_wp2
    go_ret
    obtain ⟨V5,hov⟩:=un HO5
    refine ⟨?_,?_,fun _=>⟨V5,?_⟩⟩
    ·rw [← un HR2]; rfl
    ·exact Below.setCell (un HB5) hbF _
    ·rw [← un HR2,← un HFA]
     exact hov
theorem truth_any (b:Bool) (w:World):Calls Tryd.prog 124 #[.bool b] w fun e w'=>e=.returned (.int .i64 (truthS b))∧w=w':=by
 cases b with
 | true =>
  go_enter Tryd.func124,Tryd.ntmps124
  go_wp2
  go_ret
  exact ⟨rfl,rfl⟩
 | false =>
  go_enter Tryd.func124,Tryd.ntmps124
  go_wp2
  go_ret
  exact ⟨rfl,rfl⟩
theorem reckoned_any (kd a b:Int) (w:World):Calls Tryd.prog 98 #[.int .i64 kd,.int .i64 a,.int .i64 b] w fun e w'=>e=.returned (.int .i64 (reckonS kd a b))∧w=w':=by
 unfold reckonS
 by_cases h4:kd=4
 ·subst h4
  rw [if_pos rfl,← wrap64_S]
  go_enter Tryd.func98,Tryd.ntmps98
  go_wp2
  go_ret
  exact ⟨rfl,rfl⟩
 rw [if_neg h4]
 have b4:(kd == 4)=false:=by rw [beq_eq_false_iff_ne]; exact h4
 clear h4
 by_cases h5:kd=5
 ·subst h5
  rw [if_pos rfl,← wrap64_S]
  go_enter Tryd.func98,Tryd.ntmps98
  go_wp2
  go_ret
  exact ⟨rfl,rfl⟩
 rw [if_neg h5]
 have b5:(kd == 5)=false:=by rw [beq_eq_false_iff_ne]; exact h5
 clear h5
 by_cases h6:kd=6
 ·subst h6
  rw [if_pos rfl,← wrap64_S]
  go_enter Tryd.func98,Tryd.ntmps98
  go_wp2
  go_ret
  exact ⟨rfl,rfl⟩
 rw [if_neg h6]
 have b6:(kd == 6)=false:=by rw [beq_eq_false_iff_ne]; exact h6
 clear h6
 by_cases h7:kd=7
 ·subst h7
  rw [if_pos rfl]
  go_enter Tryd.func98,Tryd.ntmps98
  go_wp2_with (go_at_call 124; refine (truth_any _ _).mono ?_; rintro e w' ⟨rfl,rfl⟩)
  go_ret
  exact ⟨rfl,rfl⟩
 rw [if_neg h7]
 have b7:(kd == 7)=false:=by rw [beq_eq_false_iff_ne]; exact h7
 clear h7
 go_enter Tryd.func98,Tryd.ntmps98
 go_wp2_with (go_at_call 124; refine (truth_any _ _).mono ?_; rintro e w' ⟨rfl,rfl⟩)
 go_ret
 exact ⟨rfl,rfl⟩
theorem next_fits {s:St} {i:Nat} (hn:s.now=i) (hr:Runs s i) (ai:Nat) (h:Fits s):Fits (nextS s i ai):=by
 obtain ⟨h1,h2,h3,h4,h5,h6,h7,h8⟩:=next_facts hn hr ai
 refine ⟨by rw [h2]; exact h.fibers,by rw [h3]; exact h.out,fun a ha=>by rw [h5]; rw [h2] at ha; exact h.frames a ha,fun a b ha hb=>?_,fun a b ha hb=>?_⟩
 ·rw [(next_fr hr ai a b).2.1]; rw [h2] at ha; rw [h5] at hb; exact h.locals a b ha hb
 ·rw [(next_fr hr ai a b).1]; rw [h2] at ha; rw [h5] at hb; exact h.stack a b ha hb
theorem next_callers {s:St} {i:Nat} (hn:s.now=i) (hr:Runs s i) (ai:Nat) (h:∀ b,b∈s.fibers→-1≤b.caller∧b.caller < s.fibers.length):∀ b,b∈(nextS s i ai).fibers→-1≤b.caller∧b.caller < (nextS s i ai).fibers.length:=by
 obtain ⟨h1,h2,h3,h4,h5,h6,h7,h8⟩:=next_facts hn hr ai
 intro b hb
 obtain ⟨q,hq,rfl⟩:=List.getElem_of_mem hb
 have e1:fibAt (nextS s i ai) q=(nextS s i ai).fibers[q]:=by simp [fibAt,List.getD,hq]
 have hq':q < s.fibers.length:=by rw [← h2]; exact hq
 have e2:fibAt s q=s.fibers[q]:=by simp [fibAt,List.getD,hq']
 rw [← e1,h4,e2,h2]
 exact h _ (List.getElem_mem hq')
theorem next_line {s:St} {i:Nat} (hn:s.now=i) (hr:Runs s i) (ai:Nat):lineS (nextS s i ai)=lineS s:=by
 obtain ⟨h1,h2,h3,h4,h5,h6,h7,h8⟩:=next_facts hn hr ai
 unfold lineS
 rw [h2,h1,hn]
 rw [lineF_congr (fs:=(nextS s i ai).fibers) (fs':=s.fibers) (fun n=>h4 n.toNat)]
theorem done_push (base bs:Nat) (V:Key→Value) (s:St) (i cp bp op n fi ai cb co cl cc:Nat) (a:Int) (w:World) (h:OwnVar base w bs V s) (hd:DoAt base w s i bp op n fi ai cb co cl cc 0 a) :
  Calls Tryd.prog 69 #[.slice (some ⟨bp,op,none⟩) n cp,.pointer (some ⟨bs,0,none⟩)] w fun e w'=>EndPost base bs  (pushV (nextS s i ai) i a,0) w e w':=by
 obtain ⟨hn,hr,hfn,hat,hfin,hain,hcl,hpc⟩:=hd
 have hj:(fibAt s i).frames.length - 1 < (fibAt s i).frames.length:=by have:=hr.fr; omega
 obtain ⟨g,cap,eg,htop⟩:=top_own h hr.lt hr.fr hr.frs
 obtain ⟨b0,b1,_,_⟩:=h.cells
 rw [hn] at b1
 have HTOP:=hide htop
 have HO:=hide h
 have HPC:=hide hpc
 have HRU:=hide hr
 have HNX:=hide (next_facts hn hr ai)
 have HEG:=hide eg
 have hf1:(fi:Int) < (n:Int):=by omega
 have hf0:(0:Int)≤(fi:Int):=by omega
 have ha1:(ai:Int) < (cl:Int):=by omega
 have ha0:(0:Int)≤(ai:Int):=by omega
 have hwa:IntKind.i64.wrap ((ai:Int) + 1)=(ai:Int) + 1:=by rw [IntKind.wrap_i64]; omega
 generalize hjj:(fibAt s i).frames.length - 1=j at *
 have HJJ:=hide hjj
 clear htop h hpc hr eg hjj
 go_enter Tryd.func69,Tryd.ntmps69
 go_wp2_with fail
 refine (un HTOP).mono ?_
 rintro _ _ ⟨rfl,m0,rfl⟩
 have ho1:OwnVar base (w.drewN m0) bs V s:=(un HO).same rfl
 have hb1:Below base w (w.drewN m0):=below_drewN (Below.refl _ _) m0
 generalize w.drewN m0=w1 at ho1 hb1 ⊢
 obtain ⟨g',cap',eg',hcap,k0,k1,k2,k3,fz,hbg⟩:=ho1.own.fr (i:=i) (j:=j) (un HRU).lt hj
 have hVg:V (.frames i)=.slice (some ⟨g,0,none⟩) (fibAt s i).frames.length cap:=un HEG
 obtain ⟨rfl,rfl⟩:g=g'∧cap=cap':=by rw [hVg] at eg'; simpa using eg'
 rw [hfn] at k0
 rw [hat] at k1
 obtain ⟨x0,x1,x2⟩:=(un HPC) w1 hb1
 have HY:Hid (∀ u,Kept w1 u→u.cell? ⟨g,j * 4,none⟩=some (.int .i64 fi)∧u.cell? ⟨g,j * 4 + 1,none⟩=some (.int .i64 ai)∧u.cell? ⟨bp,op + fi * 3 + 2,none⟩=some (.slice (some ⟨cb,co,none⟩) cl cc)∧u.cell? ⟨cb,co + ai * 2,none⟩=some (.int .i64 0)∧u.cell? ⟨cb,co + ai * 2 + 1,none⟩=some (.int .i64 a)):=hide (fun u hu=>⟨hu.cell k0,hu.cell k1,hu.cell x0,hu.cell x1,hu.cell x2⟩)
 have HO1:=hide ho1
 have HB1:=hide hb1
 have hgl:=cell_lt k0
 simp only at hgl
 have HGL:=hide hgl
 have hlow:=ho1.low
 have hbw:=lt_of_block ho1.var
 clear ho1 hb1 k0 k1 k2 k3 x0 x1 x2 fz eg' hgl HTOP
 go_wp2_with fail
 go_region_held3 (fun u=>u.cell? ⟨g,j * 4,none⟩=some (.int .i64 fi)∧u.cell? ⟨g,j * 4 + 1,none⟩=some (.int .i64 ai)∧u.cell? ⟨bp,op + fi * 3 + 2,none⟩=some (.slice (some ⟨cb,co,none⟩) cl cc)∧u.cell? ⟨cb,co + ai * 2,none⟩=some (.int .i64 0)∧u.cell? ⟨cb,co + ai * 2 + 1,none⟩=some (.int .i64 a)) (exact (un HY) _ (by repeat (first | exact Kept.refl _ | refine Kept.drew ?_ | refine Kept.alloc ?_ _ | refine Kept.setCell ?_ (by simp) _))) (fail)
 rename_i hheld
 clear hheld HY
 have LX:(w1.alloc (.cells #[.int .i64 0,.int .i64 a] 61)).drew.heap[w1.heap.size]?=some (.cells #[.int .i64 0,.int .i64 a] 61):=lays_drew (lays_new rfl)
 have ho2:OwnVar base (w1.alloc (.cells #[.int .i64 0,.int .i64 a] 61)).drew bs V s:=((un HO1).alloc _).same rfl
 have hb2:Below base w (w1.alloc (.cells #[.int .i64 0,.int .i64 a] 61)).drew:=(Below.alloc (un HB1) (by omega) _).drew
 have hoffX:Own.off V s w1.heap.size:=(un HO1).own.new_off (.inl (Nat.le_refl _))
 have hXb:base≤w1.heap.size:=by omega
 have hXs:bs≠w1.heap.size:=by omega
 have hXg:w1.heap.size≠g:=by have:=un HGL; omega
 generalize (w1.alloc (.cells #[.int .i64 0,.int .i64 a] 61)).drew=w2 at LX ho2 hb2 ⊢
 generalize w1.heap.size=X at LX hoffX hXb hXs hXg ⊢
 obtain ⟨_,_,eg2,_,_,k1,k2,_,fz,hbg2⟩:=ho2.own.fr (i:=i) (j:=j) (un HRU).lt hj
 obtain ⟨rfl,rfl⟩:=(by rw [hVg] at eg2; simpa using eg2:g=_∧cap=_)
 rw [hat] at k1
 have fz1:=fz (j * 4 + 1)
 obtain ⟨ho3,hb3⟩:=ho2.setAt (un HRU).lt hj hVg ((ai:Int) + 1)
 have ho3':OwnVar base (w2.setCell ⟨g,j * 4 + 1,none⟩ (.int .i64 ((ai:Int) + 1))) bs V (nextS s i ai):=by unfold nextS; rw [un HJJ]; exact ho3
 have LX3:=lays_other LX (a:=⟨g,j * 4 + 1,none⟩) hXg (.int .i64 ((ai:Int) + 1))
 have y0:=cell_lays LX3 0
 have y1:=cell_lays LX3 1
 have HO3:=hide ho3'
 have HB3:=hide (Below.trans hb2 hb3)
 have HLX:=hide LX3
 have HOX:=hide hoffX
 clear ho2 hb2 ho3 ho3' hb3 LX LX3 fz eg2 HO1 HB1 HO hoffX
 go_wp2_with fail
 generalize w2.setCell ⟨g,j * 4 + 1,none⟩ (.int .i64 ((ai:Int) + 1))=w3 at HO3 HB3 y0 y1 HLX ⊢
 obtain ⟨n1,n2,n3,n4,n5,n6,n7,n8⟩:=un HNX
 obtain ⟨_,c1,_,_⟩:=(un HO3).cells
 rw [n1] at c1
 have HPU:=hide (fun (u:World) (hu:u.heap=w3.heap)=>push_any base bs V (nextS s i ai) i a u ((un HO3).same hu) n8.lt n8.fr n8.frs n8.st)
 have HYS:Hid (∀ u,Kept w3 u→u.cell? ⟨bs,1,none⟩=some (.int .i64 i)∧u.cell? ⟨X,1,none⟩=some (.int .i64 a)):=hide (fun u hu=>⟨hu.cell c1,hu.cell y1⟩)
 clear c1 n1 n2 n3 n4 n5 n6 n7 n8 y0 y1
 refine wp_regionT 7 (fun u=>u.cell? ⟨bs,1,none⟩=some (.int .i64 i)∧u.cell? ⟨X,1,none⟩=some (.int .i64 a)) (by kernel_rfl) ?_
 have hHeld:=(un HYS) _ (Kept.refl w3).drew
 refine takeU (i:=0) (v:=?_) rfl (by kernel_rfl) (by kernel_rfl) (by kernel_rfl) (by kernel_rfl) (fun _ _ _ h=>h) (by rfl) (fun u hSu=>?_) hHeld ?_
 rotate_left
 ·((try dsimp only at hSu); go_simp) <;> with_reducible rfl
 try simp only [PS]
 refine takeU (i:=1) (v:=?_) rfl (by kernel_rfl) (by kernel_rfl) (by kernel_rfl) (by kernel_rfl) (fun _ _ _ h=>h) (by rfl) (fun u hSu=>?_) hHeld ?_
 rotate_left
 ·((try dsimp only at hSu); go_simp) <;> with_reducible rfl
 try simp only [PS]
 refine takeU (i:=2) (v:=?_) rfl (by kernel_rfl) (by kernel_rfl) (by kernel_rfl) (by kernel_rfl) (fun _ _ _ h=>h) (by rfl) (fun u hSu=>?_) hHeld ?_
 rotate_left
 ·((try dsimp only at hSu); go_simp) <;> with_reducible rfl
 try simp only [PS]
 refine takeU (i:=3) (v:=?_) rfl (by kernel_rfl) (by kernel_rfl) (by kernel_rfl) (by kernel_rfl) (fun _ _ _ h=>h) (by rfl) (fun u hSu=>?_) hHeld ?_
 rotate_left
 ·((try dsimp only at hSu); go_simp) <;> with_reducible rfl
 try simp only [PS]
 refine takeU (i:=4) (v:=?_) rfl (by kernel_rfl) (by kernel_rfl) (by kernel_rfl) (by kernel_rfl) (fun _ _ _ h=>h) (by rfl) (fun u hSu=>?_) hHeld ?_
 rotate_left
 ·((try dsimp only at hSu); go_simp) <;> with_reducible rfl
 try simp only [PS]
 refine takeU (i:=5) (v:=?_) rfl (by kernel_rfl) (by kernel_rfl) (by kernel_rfl) (by kernel_rfl) (fun _ _ _ h=>h) (by rfl) (fun u hSu=>?_) hHeld ?_
 rotate_left
 ·((try dsimp only at hSu); go_simp) <;> with_reducible rfl
 try simp only [PS]
 refine takeU (i:=6) (v:=?_) rfl (by kernel_rfl) (by kernel_rfl) (by kernel_rfl) (by kernel_rfl) (fun _ _ _ h=>h) (by rfl) (fun u hSu=>?_) hHeld ?_
 rotate_left
 ·((try dsimp only at hSu); go_simp) <;> with_reducible rfl
 try simp only [PS]
 refine takeT_one (i:=7) rfl (by kernel_rfl) (fun K hK=>?_)
 go_simp
 refine ((un HPU) w3.drew rfl).mono ?_
 rintro _ w4 ⟨rfl,V4,ho4,hb4⟩
 refine hK.out _ _ (fun h=>absurd rfl h) ?_
 clear hK K
 refine takeT_done (by kernel_rfl) ?_ _
 clear hHeld
 have HO4:=hide ho4
 have HB4:=hide (Below.trans (Below.drew (Below.refl _ w3)) hb4)
 clear ho4 hb4 HPU HYS
 go_wp2
 go_ret
 exact ⟨rfl,Below.trans (un HB3) (un HB4),fun _=>⟨V4,un HO4⟩⟩
end Go.Proofs.YtogcfkmekdpmmaaDoor
