/- StepJ, StepH, StepL, StepM0, StepM1 -/
import Derived.Test.YtblihfpigjiahaaDoorWB33
import Derived.Test.YtblihfpigjiahaaDoorWB26
import Derived.Deep.RegionHeld3
import Derived.StillTailTactics
import Derived.Test.YtblihfpigjiahaaDoorWB25
import Derived.Test.YtblihfpigjiahaaDoorWB22
import Derived.Test.YtblihfpigjiahaaDoorWB08
set_option maxRecDepth 100000
set_option maxHeartbeats 8000000
namespace Go.Proofs.YtblihfpigjiahaaDoor
open Go.RowKit
theorem Zra (base bs:Nat) (V:Key→Value) (s:St) (i fi n cp bp op a lo:Nat) (w:World) (h:Zi base w bs V s) (hn:s.now=i) (hr:Qa s i)
  (hpc:∀ u,Below base w u→u.cell? ⟨bp,op+fi*3,none⟩=some (.int .i64 a)∧u.cell? ⟨bp,op+fi*3+1,none⟩=some (.int .i64 lo)) (hfi:fi<n) (hal:a≤lo) (hlo:lo≤1000) (hst:a≤(Ze s i ((Zc s i).frames.length - 1)).stack.length) (hf6:(Zc s i).frames.length≤6) (R:St × Int)
  (hR:(if (Zc s i).frames.length=6 then (St.zero,(2:Int)) else (Zh (Qs s i a) i { Zc (Qs s i a) i with frames:=(Zc (Qs s i a) i).frames++[⟨fi,0,(Ze s i ((Zc s i).frames.length - 1)).stack.drop ((Ze s i ((Zc s i).frames.length - 1)).stack.length - a)++List.replicate (lo - ((Ze s i ((Zc s i).frames.length - 1)).stack.drop ((Ze s i ((Zc s i).frames.length - 1)).stack.length - a)).length) 0,[]⟩] },0))=R) :
  Calls Tryd.prog 93 #[.slice (some ⟨bp,op,none⟩) n cp,.pointer (some ⟨bs,0,none⟩),.int .i64 fi] w fun e w'=>Jj base bs R w e w':=by
 have hmk:=Zbf lo (by omega)
 have hbw:=lt_of_block h.var
 have hlow:=h.low
 obtain ⟨p0,p1⟩:=hpc w (Below.refl _ _)
 have hlp:=Xo p0
 simp only at hlp
 have HO:=Za h
 have HR:=Za hR
 have HRU:=Za hr
 have HPC:=Za hpc
 have hf1:(fi:Int)<(n:Int):=by omega
 have hf0:(0:Int)≤(fi:Int):=by omega
 have hwa:IntKind.i64.wrap ((a:Int) - 1)=(a:Int) - 1:=by rw [IntKind.wrap_i64];omega
 clear h hR hpc
 go_enter Tryd.func93,Tryd.ntmps93
 go_wp2
 have hrep:Array.replicate lo (Value.int .i64 0)=(ints (filled (Ze s i ((Zc s i).frames.length - 1)).stack a lo 0)).toArray:=by rw [Zpk];simp [ints]
 rw [hrep]
 generalize hw1:(w.alloc (.cells (ints (filled (Ze s i ((Zc s i).frames.length - 1)).stack a lo 0)).toArray 3)).alloc (.cells #[.int .i64 fi,.int .i64 0,.slice (some ⟨w.heap.size,0,none⟩) lo lo,.slice none 0 0] 53)=w1 at *
 generalize hBL:w.heap.size=BL at *
 generalize hBX:BL+1=BX at *
 have L0:w1.heap[BL]?=some (.cells (ints (filled (Ze s i ((Zc s i).frames.length - 1)).stack a lo 0)).toArray 3):=by rw [← hw1];exact Zr (Zg hBL) _
 have L1:w1.heap[BX]?=some (.cells #[.int .i64 fi,.int .i64 0,.slice (some ⟨BL,0,none⟩) lo lo,.slice none 0 0] 53):=by rw [← hw1];exact Zg (by simp [hBL,hBX])
 have ho1:Zi base w1 bs V s:=by rw [← hw1];exact ((un HO).alloc _).alloc _
 have hb1:Below base w w1:=by rw [← hw1];exact Below.alloc (Below.alloc (Below.refl _ w) (by omega) _) (by simp;omega) _
 have hoffL:Own.off V s BL:=(un HO).own.new_off (.inl (by omega))
 have HOL:=Za hoffL
 have HL0:=Za L0
 have HL1:=Za L1
 have HO1:=Za ho1
 have HB1:=Za hb1
 have HBW:Hid (w.heap.size=BL∧BX=BL+1):=Za ⟨hBL,hBX.symm⟩
 generalize hst':(Ze s i ((Zc s i).frames.length - 1)).stack=l at *
 have HST:=Za hst'
 clear hw1 L0 L1 ho1 hb1 hoffL hrep hBL hBX hst' p0 p1 hlp
 go_loopw [8] (fun s8 wr=>∃ (t:Nat) (V':Key→Value),t≤a∧s8=.int .i64 ((a:Int) - 1 - t)∧Hid (Zi base wr bs V' (Qs s i t))∧Hid (V' (.frames i)=V (.frames i))∧Hid (∀ k,(V' k).ownBlock=(V k).ownBlock)∧Hid (wr.heap[BL]?=some (.cells (ints (filled l a lo t)).toArray 3))∧Hid (wr.heap[BX]?=some (.cells #[.int .i64 fi,.int .i64 0,.slice (some ⟨BL,0,none⟩) lo lo,.slice none 0 0] 53))∧Hid (Below base w wr)) (fun s8 _=>(intOf s8+1).toNat)
 case atStart=>exact ⟨0,V,Nat.zero_le _,by simp,Za (by rw [Zzo (un HRU)];exact un HO1),rfl,Za (fun _=>rfl),HL0,HL1,HB1⟩
 case round =>
  obtain ⟨t,V2,hta,rfl,HO2,HVF,HVB,HL2,HX2,HB2⟩:=hrel
  obtain ⟨g,cap,eg,_⟩:=(un HO).own.fr (i:=i) (j:=0) (un HRU).lt (un HRU).fr
  have hgw:g<w.heap.size:=(((un HO).own.piece (.frames i) (un HRU).lt).block g (by rw [eg];rfl)).2
  have hgL:g≠BL∧g≠BX:=by have:=un HBW;omega
  have hVg:(V2 (.frames i)).ownBlock=some g:=by rw [un HVF,eg];rfl
  have HGL:=Za hgL
  have HVG:=Za hVg
  obtain ⟨f1,f2,f3,f4,f5,f6⟩:=Zgq (un HRU) t
  clear hgL hVg eg hgw
  by_cases hlt:t<a
  ·obtain ⟨k,hk⟩:∃ k:Nat,(a:Int) - 1 - t=k:=⟨a - 1 - t,by omega⟩
   have hka:k=a - 1 - t:=by omega
   have hkl:k<lo:=by omega
   obtain ⟨hpt,hlv⟩:=Zpn hn (un HRU) (t:=t) (by rw [un HST];omega)
   have hpull:=fun (u:World) (hu:u.heap=wr.heap)=>Px base bs V2 (Qs s i t) i u ((un HO2).same hu) (by rw [f2];exact hn) f6.lt f6.fr f6.frs f6.st (by rw [f4,f5,List.length_take,un HST];omega)
   rw [hpt,hlv,un HST] at hpull
   have HPU:=Za hpull
   have x2:wr.cell? ⟨BX,2,none⟩=some (.slice (some ⟨BL,0,none⟩) lo lo):=Zo (un HX2) rfl
   have HX:=Za x2
   have hk1:(k:Int)<(lo:Int):=by omega
   have hkz:(0:Int)≤(k:Int):=by omega
   have hwk:IntKind.i64.wrap ((k:Int) - 1)=(k:Int) - 1:=by rw [IntKind.wrap_i64];omega
   have hfs:=Zxz l (a:=a) (lo:=lo) (t:=t) hlt (by rw [← un HST];rw [un HST];exact hst)
   rw [← hka] at hfs
   have HFS:=Za hfs
   generalize hz:l.getD (l.length - t - 1) 0=z at *
   rw [hk]
   have HKA:=Za hka
   have HHK:=Za hk
   clear hpull hpt hlv x2 hfs f1 f2 f3 f4 f5 f6 hz hka hk
   go_wp2_with fail
   go_region_held3 (fun u=>u.cell? ⟨BX,2,none⟩=some (.slice (some ⟨BL,0,none⟩) lo lo))
    (first | exact (Zzk (Zo hXA rfl) (by have:=un HBW;omega) _) | exact Zo hXA rfl | exact un HX)
    (first | (go_at_call 92;refine ((un HPU) wr.drew rfl).mono ?_;rintro e wA ⟨rfl,VA,hoA,hbA,hvfA,hvbA,hheap⟩;have hXA:wA.heap[BX]?=_:=(hheap BX (by rw [un HVG];intro e;exact (un HGL).2 (by cases e;rfl))).trans (un HX2);have hLA:wA.heap[BL]?=_:=(hheap BL (by rw [un HVG];intro e;exact (un HGL).1 (by cases e;rfl))).trans (un HL2);have yk:wA.cell? ⟨BL,k,none⟩=some (.int .i64 ((filled l a lo t).getD k 0)):=Zo hLA (Zpz (Zq _ _ 0 (by rw [Zmo];exact hkl)));have zk:=Zk hLA k))
   all_goals go_wp2_with fail
   have hoff:Own.off VA (Qs s i (t+1)) BL:=fun kk hkk e=>by
    rw [hvbA,un HVB] at e
    exact (un HOL) kk ((We _ (un HRU).lt kk).1 hkk) e
   have hbsL:bs≠BL:=by have:=un HBW;omega
   refine ⟨⟨t+1,VA,by omega,by have:=un HHK;congr 1;omega,Za (hoA.setOff hoff hbsL _),Za (hvfA.trans (un HVF)),Za (fun kk=>(hvbA kk).trans ((un HVB) kk)),Za ?_,Za ?_,Za ?_⟩,?_⟩
   ·have:=Zl hLA k (.int .i64 z)
    rw [this,← un HFS]
    simp [ints,List.map_set]
   ·rw [Below.heap_setCell _ _ _ _ (by have:=un HBW;simp only;omega)]
    exact hXA
   ·exact Below.setCell (Below.trans (un HB2) (Below.trans (Below.drew (Below.refl _ wr)) hbA)) (by have:=un HBW;simp only;omega) _
   ·simp only [intOf];omega
  ·obtain rfl:t=a:=by omega
   obtain ⟨c0,c1,_,fz⟩:=(un HO2).cells
   obtain ⟨gF,capF,eF,_,k0,k1,fzF,hbF⟩:=(un HO2).own.fib (i:=i) f6.lt
   obtain ⟨g',cap',eg',hcap,_⟩:=(un HO2).own.fr (i:=i) (j:=0) f6.lt f6.fr
   rw [eF,f1] at c0
   rw [f2,hn] at c1
   rw [eg',f4] at k0
   have hi1:(i:Int)<(s.fibers.length:Int):=by have:=(un HRU).lt;omega
   have hi0:(0:Int)≤(i:Int):=by omega
   have hge:decide ((0:Int)≤(t:Int) - 1 - (t:Int))=false:=decide_eq_false (by omega)
   have hR:=un HR
   generalize hq:(Zc s i).frames.length=q at *
   have HQ:=Za hq
   by_cases h6:q=6
   ·subst h6
    rw [if_pos rfl] at hR
    subst hR
    go_wp2
    go_quiet (fail)
    go_wp2
    go_ret
    exact ⟨rfl,below_drewN (un HB2) _,fun e=>by cases e⟩
   ·rw [if_neg h6] at hR
    have hb6:((q:Int) == 6)=false:=by rw [beq_eq_false_iff_ne];omega
    have HR2:=Za hR
    clear hR
    go_wp2
    go_quiet (fail)
    go_wp2
    generalize hw3:wr.drewN nq=w3
    have hsm:w3.heap=wr.heap:=by rw [← hw3];rfl
    have ho3:Zi base w3 bs V2 (Qs s i t):=(un HO2).same hsm
    have hb3:Below base w w3:=by rw [← hw3];exact below_drewN (un HB2) nq
    have d0:w3.cell? ⟨bs,0,none⟩=some (.slice (some ⟨gF,0,none⟩) s.fibers.length capF):=by rw [← hw3];exact c0
    have d1:w3.cell? ⟨bs,1,none⟩=some (.int .i64 i):=by rw [← hw3];exact c1
    have e0:w3.cell? ⟨gF,i*2,none⟩=some (.slice (some ⟨g',0,none⟩) q cap'):=by rw [← hw3];exact k0
    have LX:w3.heap[BX]?=some (.cells #[.int .i64 fi,.int .i64 0,.slice (some ⟨BL,0,none⟩) lo lo,.slice none 0 0] 53):=by rw [hsm];exact un HX2
    have x0:w3.cell? ⟨BX,0,none⟩=some (.int .i64 fi):=Zo LX rfl
    have x1:w3.cell? ⟨BX,1,none⟩=some (.int .i64 0):=Zo LX rfl
    have x2:w3.cell? ⟨BX,2,none⟩=some (.slice (some ⟨BL,0,none⟩) lo lo):=Zo LX rfl
    have x3:w3.cell? ⟨BX,3,none⟩=some (.slice none 0 0):=Zo LX rfl
    clear hw3 c0 c1 k0 LX
    have HYS:Hid (∀ u,Zb w3 u→u.cell? ⟨bs,0,none⟩=some (.slice (some ⟨gF,0,none⟩) s.fibers.length capF)∧u.cell? ⟨bs,1,none⟩=some (.int .i64 i)∧u.cell? ⟨BX,0,none⟩=some (.int .i64 fi)∧u.cell? ⟨BX,1,none⟩=some (.int .i64 0)∧u.cell? ⟨BX,2,none⟩=some (.slice (some ⟨BL,0,none⟩) lo lo)∧u.cell? ⟨BX,3,none⟩=some (.slice none 0 0)∧u.cell? ⟨gF,i*2,none⟩=some (.slice (some ⟨g',0,none⟩) q cap')):=Za (fun u hu=>⟨hu.cell d0,hu.cell d1,hu.cell x0,hu.cell x1,hu.cell x2,hu.cell x3,hu.cell e0⟩)
    have hoffL3:Own.off V2 (Qs s i t) BL:=fun kk hkk e=>by
     rw [un HVB] at e
     exact (un HOL) kk ((We _ (un HRU).lt kk).1 hkk) e
    have hF3:V2 .fibers=.slice (some ⟨gF,0,none⟩) (Qs s i t).fibers.length capF:=eF
    have hgb:(V2 (.frames i)).ownBlock=some g':=by rw [eg'];rfl
    have hg1:g'≠bs:=fun e=>ho3.off (.frames i) f6.lt (by rw [hgb,e])
    have hg2:g'≠gF:=fun e=>by have:=ho3.own.apart (.frames i) .fibers gF f6.lt trivial (by rw [hgb,e]) (by rw [eF];rfl);cases this
    have hgw:g<BL:=by have:=(((un HO).own.piece (.frames i) (un HRU).lt).block g (by rw [← un HVB];exact un HVG)).2;have:=un HBW;omega
    have hgg:g'=g:=by have:=un HVG;rw [hgb] at this;exact Option.some.inj this
    have hg3:g'≠BX:=by have:=un HBW;omega
    have hlbs:=Xo d0
    have hlBX:=Xo x0
    have hlgF:=Xo e0
    simp only at hlbs hlBX hlgF
    obtain ⟨v5,w5,hr5,⟨o5,c5,rfl⟩,ho5,hb5,hk5⟩:=Zrp base bs V2 (Qs s i t) i gF capF BL lo w3 ho3 f6.lt hF3 (by rw [f4];omega) ⟨fi,0,filled l t lo t,[]⟩ rfl (Zmo _ _ _ _) hlo (by rw [hsm];exact un HL2) hoffL3 (by have:=un HBW;omega) (by have:=un HBW;omega)
    rw [hgb] at hk5
    rw [f4] at ho5 hr5
    rw [eg',f4] at hr5
    dsimp only at hr5
    have HR5:=Za hr5
    have HO5:=Za ho5
    have HB5:=Za (Below.trans hb3 hb5)
    have sm:∀ {b j:Nat} {vv:Value},b<w3.heap.size→g'≠b→w3.cell? ⟨b,j,none⟩=some vv→w5.cell? ⟨b,j,none⟩=some vv:=fun h1 h2 h3=>(World.cell?_of_block (w:=w3) (hk5 _ h1 (fun e=>h2 (Option.some.inj e)))).trans h3
    have HS5:Hid (w5.cell? ⟨bs,0,none⟩=some (.slice (some ⟨gF,0,none⟩) s.fibers.length capF)∧w5.cell? ⟨bs,1,none⟩=some (.int .i64 i)∧w5.cell? ⟨BX,0,none⟩=some (.int .i64 fi)∧w5.cell? ⟨BX,1,none⟩=some (.int .i64 0)∧w5.cell? ⟨BX,2,none⟩=some (.slice (some ⟨BL,0,none⟩) lo lo)∧w5.cell? ⟨BX,3,none⟩=some (.slice none 0 0)∧w5.cell? ⟨gF,i*2,none⟩=some (.slice (some ⟨g',0,none⟩) q cap')):=Za ⟨sm hlbs hg1 d0,sm hlbs hg1 d1,sm hlBX hg3 x0,sm hlBX hg3 x1,sm hlBX hg3 x2,sm hlBX hg3 x3,sm hlgF hg2 e0⟩
    have fz5:w5.frozen? ⟨gF,i*2,none⟩=false:=(World.frozen?_of_block (w:=w3) (hk5 gF hlgF (fun e=>hg2 (Option.some.inj e)))).trans ((World.frozen?_of_block (w:=wr) (a:=⟨gF,i*2,none⟩) (by rw [hsm])).trans (fzF _))
    have HFZ:=Za fz5
    have HFA:Hid (filled l t lo t=l.drop (l.length - t)++List.replicate (lo - (l.drop (l.length - t)).length) 0):=Za (Zwn l hal hst)
    clear hsm
    clear hr5 ho5 hb5 hk5 sm fz5 hoffL3 hF3 hgb hg1 hg2 hg3 hgw hgg hlbs hlBX hlgF
    refine Zac 24 (fun u=>u.cell? ⟨bs,0,none⟩=some (.slice (some ⟨gF,0,none⟩) s.fibers.length capF)∧u.cell? ⟨bs,1,none⟩=some (.int .i64 i)∧u.cell? ⟨BX,0,none⟩=some (.int .i64 fi)∧u.cell? ⟨BX,1,none⟩=some (.int .i64 0)∧u.cell? ⟨BX,2,none⟩=some (.slice (some ⟨BL,0,none⟩) lo lo)∧u.cell? ⟨BX,3,none⟩=some (.slice none 0 0)∧u.cell? ⟨gF,i*2,none⟩=some (.slice (some ⟨g',0,none⟩) q cap')) (by kernel_rfl) ?_
    have hHeld:=(un HYS) _ (Zb.refl w3).drew
    refine Ye (i:=0) (v:=?_) rfl (by kernel_rfl) (by kernel_rfl) (by kernel_rfl) (by kernel_rfl) (fun _ _ _ h=>h) (by rfl) (fun u hSu=>?_) hHeld ?_
    rotate_left
    ·((try dsimp only at hSu);go_simp) <;> with_reducible rfl
    simp only [PS]
    refine Ye (i:=1) (v:=?_) rfl (by kernel_rfl) (by kernel_rfl) (by kernel_rfl) (by kernel_rfl) (fun _ _ _ h=>h) (by rfl) (fun u hSu=>?_) hHeld ?_
    rotate_left
    ·((try dsimp only at hSu);go_simp) <;> with_reducible rfl
    simp only [PS]
    refine Ye (i:=2) (v:=?_) rfl (by kernel_rfl) (by kernel_rfl) (by kernel_rfl) (by kernel_rfl) (fun _ _ _ h=>h) (by rfl) (fun u hSu=>?_) hHeld ?_
    rotate_left
    ·((try dsimp only at hSu);go_simp) <;> with_reducible rfl
    simp only [PS]
    refine Ye (i:=3) (v:=?_) rfl (by kernel_rfl) (by kernel_rfl) (by kernel_rfl) (by kernel_rfl) (fun _ _ _ h=>h) (by rfl) (fun u hSu=>?_) hHeld ?_
    rotate_left
    ·((try dsimp only at hSu);go_simp) <;> with_reducible rfl
    simp only [PS]
    refine Ye (i:=4) (v:=?_) rfl (by kernel_rfl) (by kernel_rfl) (by kernel_rfl) (by kernel_rfl) (fun _ _ _ h=>h) (by rfl) (fun u hSu=>?_) hHeld ?_
    rotate_left
    ·((try dsimp only at hSu);go_simp) <;> with_reducible rfl
    simp only [PS]
    refine Ye (i:=5) (v:=?_) rfl (by kernel_rfl) (by kernel_rfl) (by kernel_rfl) (by kernel_rfl) (fun _ _ _ h=>h) (by rfl) (fun u hSu=>?_) hHeld ?_
    rotate_left
    ·((try dsimp only at hSu);go_simp) <;> with_reducible rfl
    simp only [PS]
    refine Ye (i:=6) (v:=?_) rfl (by kernel_rfl) (by kernel_rfl) (by kernel_rfl) (by kernel_rfl) (fun _ _ _ h=>h) (by rfl) (fun u hSu=>?_) hHeld ?_
    rotate_left
    ·((try dsimp only at hSu);go_simp) <;> with_reducible rfl
    simp only [PS]
    refine Ye (i:=7) (v:=?_) rfl (by kernel_rfl) (by kernel_rfl) (by kernel_rfl) (by kernel_rfl) (fun _ _ _ h=>h) (by rfl) (fun u hSu=>?_) hHeld ?_
    rotate_left
    ·((try dsimp only at hSu);go_simp) <;> with_reducible rfl
    simp only [PS]
    refine Ye (i:=8) (v:=?_) rfl (by kernel_rfl) (by kernel_rfl) (by kernel_rfl) (by kernel_rfl) (fun _ _ _ h=>h) (by rfl) (fun u hSu=>?_) hHeld ?_
    rotate_left
    ·((try dsimp only at hSu);go_simp) <;> with_reducible rfl
    simp only [PS]
    refine Ye (i:=9) (v:=?_) rfl (by kernel_rfl) (by kernel_rfl) (by kernel_rfl) (by kernel_rfl) (fun _ _ _ h=>h) (by rfl) (fun u hSu=>?_) hHeld ?_
    rotate_left
    ·((try dsimp only at hSu);go_simp) <;> with_reducible rfl
    simp only [PS]
    refine Ye (i:=10) (v:=?_) rfl (by kernel_rfl) (by kernel_rfl) (by kernel_rfl) (by kernel_rfl) (fun _ _ _ h=>h) (by rfl) (fun u hSu=>?_) hHeld ?_
    rotate_left
    ·((try dsimp only at hSu);go_simp) <;> with_reducible rfl
    simp only [PS]
    refine Ye (i:=11) (v:=?_) rfl (by kernel_rfl) (by kernel_rfl) (by kernel_rfl) (by kernel_rfl) (fun _ _ _ h=>h) (by rfl) (fun u hSu=>?_) hHeld ?_
    rotate_left
    ·((try dsimp only at hSu);go_simp) <;> with_reducible rfl
    simp only [PS]
    refine Ye (i:=12) (v:=?_) rfl (by kernel_rfl) (by kernel_rfl) (by kernel_rfl) (by kernel_rfl) (fun _ _ _ h=>h) (by rfl) (fun u hSu=>?_) hHeld ?_
    rotate_left
    ·((try dsimp only at hSu);go_simp) <;> with_reducible rfl
    simp only [PS]
    refine Ye (i:=13) (v:=?_) rfl (by kernel_rfl) (by kernel_rfl) (by kernel_rfl) (by kernel_rfl) (fun _ _ _ h=>h) (by rfl) (fun u hSu=>?_) hHeld ?_
    rotate_left
    ·((try dsimp only at hSu);go_simp) <;> with_reducible rfl
    simp only [PS]
    refine Ye (i:=14) (v:=?_) rfl (by kernel_rfl) (by kernel_rfl) (by kernel_rfl) (by kernel_rfl) (fun _ _ _ h=>h) (by rfl) (fun u hSu=>?_) hHeld ?_
    rotate_left
    ·((try dsimp only at hSu);go_simp) <;> with_reducible rfl
    simp only [PS]
    refine Ye (i:=15) (v:=?_) rfl (by kernel_rfl) (by kernel_rfl) (by kernel_rfl) (by kernel_rfl) (fun _ _ _ h=>h) (by rfl) (fun u hSu=>?_) hHeld ?_
    rotate_left
    ·((try dsimp only at hSu);go_simp) <;> with_reducible rfl
    simp only [PS]
    refine Ye (i:=16) (v:=?_) rfl (by kernel_rfl) (by kernel_rfl) (by kernel_rfl) (by kernel_rfl) (fun _ _ _ h=>h) (by rfl) (fun u hSu=>?_) hHeld ?_
    rotate_left
    ·((try dsimp only at hSu);go_simp) <;> with_reducible rfl
    simp only [PS]
    refine Ye (i:=17) (v:=?_) rfl (by kernel_rfl) (by kernel_rfl) (by kernel_rfl) (by kernel_rfl) (fun _ _ _ h=>h) (by rfl) (fun u hSu=>?_) hHeld ?_
    rotate_left
    ·((try dsimp only at hSu);go_simp) <;> with_reducible rfl
    simp only [PS]
    refine Ye (i:=18) (v:=?_) rfl (by kernel_rfl) (by kernel_rfl) (by kernel_rfl) (by kernel_rfl) (fun _ _ _ h=>h) (by rfl) (fun u hSu=>?_) hHeld ?_
    rotate_left
    ·((try dsimp only at hSu);go_simp) <;> with_reducible rfl
    simp only [PS]
    refine Ye (i:=19) (v:=?_) rfl (by kernel_rfl) (by kernel_rfl) (by kernel_rfl) (by kernel_rfl) (fun _ _ _ h=>h) (by rfl) (fun u hSu=>?_) hHeld ?_
    rotate_left
    ·((try dsimp only at hSu);go_simp) <;> with_reducible rfl
    simp only [PS]
    refine Xl (i:=20) rfl (by kernel_rfl) (fun K hK=>?_)
    go_simp
    refine hK.out _ _ (fun _=>(un HYS) _ (((Zb.refl w3).alloc _).drew)) ?_
    clear hK K
    try simp only [PS]
    refine Xl (i:=21) rfl (by kernel_rfl) (fun K hK=>?_)
    rw [if_pos (by rfl)]
    refine Yp (v:=.slice (some ⟨g',0,none⟩) q cap') _ _ _ 44 rfl rfl rfl (un HR5) ?_
    refine hK.out _ _ (fun _=>un HS5) ?_
    clear hK K
    try simp only [PS]
    refine Xl (i:=22) rfl (by kernel_rfl) (fun K hK=>?_)
    go_simp
    refine hK.out _ _ (fun _=>un HS5) ?_
    clear hK K
    try simp only [PS]
    refine Xl (i:=23) rfl (by kernel_rfl) (fun K hK=>?_)
    go_simp
    refine hK.out _ _ (fun _=>un HS5) ?_
    clear hK K
    try simp only [PS]
    have g5:=(un HS5).2.2.2.2.2.2
    have fz5:=un HFZ
    refine Xl (i:=24) rfl (by kernel_rfl) (fun K hK=>?_)
    go_simp
    refine hK.out _ _ (fun h=>absurd rfl h) ?_
    clear hK K
    refine Uj (by kernel_rfl) ?_ _
    clear g5 fz5
    go_wp2
    go_ret
    obtain ⟨V5,hov⟩:=un HO5
    refine ⟨?_,?_,fun _=>⟨V5,?_⟩⟩
    ·rw [← un HR2];rfl
    ·exact Below.setCell (un HB5) hbF _
    ·rw [← un HR2,← un HFA]
     exact hov
theorem Zkk (b:Bool) (w:World):Calls Tryd.prog 99 #[.bool b] w fun e w'=>e=.returned (.int .i64 (Zih b))∧w=w':=by
 cases b with
 | true =>
  go_enter Tryd.func99,Tryd.ntmps99
  go_wp2
  go_ret
  exact ⟨rfl,rfl⟩
 | false =>
  go_enter Tryd.func99,Tryd.ntmps99
  go_wp2
  go_ret
  exact ⟨rfl,rfl⟩
theorem Zzy (kd a b:Int) (w:World):Calls Tryd.prog 98 #[.int .i64 kd,.int .i64 a,.int .i64 b] w fun e w'=>e=.returned (.int .i64 (Zaz kd a b))∧w=w':=by
 unfold Zaz
 by_cases h4:kd=4
 ·subst h4
  rw [if_pos rfl,← Zgp]
  go_enter Tryd.func98,Tryd.ntmps98
  go_wp2
  go_ret
  exact ⟨rfl,rfl⟩
 rw [if_neg h4]
 have b4:(kd == 4)=false:=by rw [beq_eq_false_iff_ne];exact h4
 clear h4
 by_cases h5:kd=5
 ·subst h5
  rw [if_pos rfl,← Zgp]
  go_enter Tryd.func98,Tryd.ntmps98
  go_wp2
  go_ret
  exact ⟨rfl,rfl⟩
 rw [if_neg h5]
 have b5:(kd == 5)=false:=by rw [beq_eq_false_iff_ne];exact h5
 clear h5
 by_cases h6:kd=6
 ·subst h6
  rw [if_pos rfl,← Zgp]
  go_enter Tryd.func98,Tryd.ntmps98
  go_wp2
  go_ret
  exact ⟨rfl,rfl⟩
 rw [if_neg h6]
 have b6:(kd == 6)=false:=by rw [beq_eq_false_iff_ne];exact h6
 clear h6
 by_cases h7:kd=7
 ·subst h7
  rw [if_pos rfl]
  go_enter Tryd.func98,Tryd.ntmps98
  go_wp2_with (go_at_call 99;refine (Zkk _ _).mono ?_;rintro e w' ⟨rfl,rfl⟩)
  go_ret
  exact ⟨rfl,rfl⟩
 rw [if_neg h7]
 have b7:(kd == 7)=false:=by rw [beq_eq_false_iff_ne];exact h7
 clear h7
 go_enter Tryd.func98,Tryd.ntmps98
 go_wp2_with (go_at_call 99;refine (Zkk _ _).mono ?_;rintro e w' ⟨rfl,rfl⟩)
 go_ret
 exact ⟨rfl,rfl⟩
theorem Xch {s:St} {i:Nat} (hn:s.now=i) (hr:Qa s i) (ai:Nat) (h:Ph s):Ph (Zf s i ai):=by
 obtain ⟨h1,h2,h3,h4,h5,h6,h7,h8⟩:=Wb hn hr ai
 refine ⟨by rw [h2];exact h.fibers,by rw [h3];exact h.out,fun a ha=>by rw [h5];rw [h2] at ha;exact h.frames a ha,fun a b ha hb=>?_,fun a b ha hb=>?_⟩
 ·rw [(Zhs hr ai a b).2.1];rw [h2] at ha;rw [h5] at hb;exact h.locals a b ha hb
 ·rw [(Zhs hr ai a b).1];rw [h2] at ha;rw [h5] at hb;exact h.stack a b ha hb
theorem Zwp {s:St} {i:Nat} (hn:s.now=i) (hr:Qa s i) (ai:Nat) (h:∀ b,b∈s.fibers→-1≤b.caller∧b.caller<s.fibers.length):∀ b,b∈(Zf s i ai).fibers→-1≤b.caller∧b.caller<(Zf s i ai).fibers.length:=by
 obtain ⟨h1,h2,h3,h4,h5,h6,h7,h8⟩:=Wb hn hr ai
 intro b hb
 obtain ⟨q,hq,rfl⟩:=List.getElem_of_mem hb
 have e1:Zc (Zf s i ai) q=(Zf s i ai).fibers[q]:=by simp [Zc,List.getD,hq]
 have hq':q<s.fibers.length:=by rw [← h2];exact hq
 have e2:Zc s q=s.fibers[q]:=by simp [Zc,List.getD,hq']
 rw [← e1,h4,e2,h2]
 exact h _ (List.getElem_mem hq')
theorem Zzq {s:St} {i:Nat} (hn:s.now=i) (hr:Qa s i) (ai:Nat):Qj (Zf s i ai)=Qj s:=by
 obtain ⟨h1,h2,h3,h4,h5,h6,h7,h8⟩:=Wb hn hr ai
 unfold Qj
 rw [h2,h1,hn]
 rw [Zfo (fs:=(Zf s i ai).fibers) (fs':=s.fibers) (fun n=>h4 n.toNat)]
theorem Zoo (base bs:Nat) (V:Key→Value) (s:St) (i cp bp op n fi ai cb co cl cc:Nat) (a:Int) (w:World) (h:Zi base w bs V s) (hd:DoAt base w s i bp op n fi ai cb co cl cc 0 a) :
  Calls Tryd.prog 89 #[.slice (some ⟨bp,op,none⟩) n cp,.pointer (some ⟨bs,0,none⟩)] w fun e w'=>Jj base bs  (Qb (Zf s i ai) i a,0) w e w':=by
 obtain ⟨hn,hr,hfn,hat,hfin,hain,hcl,hpc⟩:=hd
 have hj:(Zc s i).frames.length - 1<(Zc s i).frames.length:=by have:=hr.fr;omega
 obtain ⟨g,cap,eg,htop⟩:=Yu h hr.lt hr.fr hr.frs
 obtain ⟨b0,b1,_,_⟩:=h.cells
 rw [hn] at b1
 have HTOP:=Za htop
 have HO:=Za h
 have HPC:=Za hpc
 have HRU:=Za hr
 have HNX:=Za (Wb hn hr ai)
 have HEG:=Za eg
 have hf1:(fi:Int)<(n:Int):=by omega
 have hf0:(0:Int)≤(fi:Int):=by omega
 have ha1:(ai:Int)<(cl:Int):=by omega
 have ha0:(0:Int)≤(ai:Int):=by omega
 have hwa:IntKind.i64.wrap ((ai:Int)+1)=(ai:Int)+1:=by rw [IntKind.wrap_i64];omega
 generalize hjj:(Zc s i).frames.length - 1=j at *
 have HJJ:=Za hjj
 clear htop h hpc hr eg hjj
 go_enter Tryd.func89,Tryd.ntmps89
 go_wp2_with fail
 refine (un HTOP).mono ?_
 rintro _ _ ⟨rfl,m0,rfl⟩
 have ho1:Zi base (w.drewN m0) bs V s:=(un HO).same rfl
 have hb1:Below base w (w.drewN m0):=below_drewN (Below.refl _ _) m0
 generalize w.drewN m0=w1 at ho1 hb1 ⊢
 obtain ⟨g',cap',eg',hcap,k0,k1,k2,k3,fz,hbg⟩:=ho1.own.fr (i:=i) (j:=j) (un HRU).lt hj
 have hVg:V (.frames i)=.slice (some ⟨g,0,none⟩) (Zc s i).frames.length cap:=un HEG
 obtain ⟨rfl,rfl⟩:g=g'∧cap=cap':=by rw [hVg] at eg';simpa using eg'
 rw [hfn] at k0
 rw [hat] at k1
 obtain ⟨x0,x1,x2⟩:=(un HPC) w1 hb1
 have HY:Hid (∀ u,Zb w1 u→u.cell? ⟨g,j*4,none⟩=some (.int .i64 fi)∧u.cell? ⟨g,j*4+1,none⟩=some (.int .i64 ai)∧u.cell? ⟨bp,op+fi*3+2,none⟩=some (.slice (some ⟨cb,co,none⟩) cl cc)∧u.cell? ⟨cb,co+ai*2,none⟩=some (.int .i64 0)∧u.cell? ⟨cb,co+ai*2+1,none⟩=some (.int .i64 a)):=Za (fun u hu=>⟨hu.cell k0,hu.cell k1,hu.cell x0,hu.cell x1,hu.cell x2⟩)
 have HO1:=Za ho1
 have HB1:=Za hb1
 have hgl:=Xo k0
 simp only at hgl
 have HGL:=Za hgl
 have hlow:=ho1.low
 have hbw:=lt_of_block ho1.var
 clear ho1 hb1 k0 k1 k2 k3 x0 x1 x2 fz eg' hgl HTOP
 go_wp2_with fail
 go_region_held3 (fun u=>u.cell? ⟨g,j*4,none⟩=some (.int .i64 fi)∧u.cell? ⟨g,j*4+1,none⟩=some (.int .i64 ai)∧u.cell? ⟨bp,op+fi*3+2,none⟩=some (.slice (some ⟨cb,co,none⟩) cl cc)∧u.cell? ⟨cb,co+ai*2,none⟩=some (.int .i64 0)∧u.cell? ⟨cb,co+ai*2+1,none⟩=some (.int .i64 a)) (exact (un HY) _ (by repeat (first | exact Zb.refl _ | refine Zb.drew ?_ | refine Zb.alloc ?_ _ | refine Zb.setCell ?_ (by simp) _))) (fail)
 rename_i hheld
 clear hheld HY
 have LX:(w1.alloc (.cells #[.int .i64 0,.int .i64 a] 86)).drew.heap[w1.heap.size]?=some (.cells #[.int .i64 0,.int .i64 a] 86):=Xi (Zg rfl)
 have ho2:Zi base (w1.alloc (.cells #[.int .i64 0,.int .i64 a] 86)).drew bs V s:=((un HO1).alloc _).same rfl
 have hb2:Below base w (w1.alloc (.cells #[.int .i64 0,.int .i64 a] 86)).drew:=(Below.alloc (un HB1) (by omega) _).drew
 have hoffX:Own.off V s w1.heap.size:=(un HO1).own.new_off (.inl (Nat.le_refl _))
 have hXb:base≤w1.heap.size:=by omega
 have hXs:bs≠w1.heap.size:=by omega
 have hXg:w1.heap.size≠g:=by have:=un HGL;omega
 generalize (w1.alloc (.cells #[.int .i64 0,.int .i64 a] 86)).drew=w2 at LX ho2 hb2 ⊢
 generalize w1.heap.size=X at LX hoffX hXb hXs hXg ⊢
 obtain ⟨_,_,eg2,_,_,k1,k2,_,fz,hbg2⟩:=ho2.own.fr (i:=i) (j:=j) (un HRU).lt hj
 obtain ⟨rfl,rfl⟩:=(by rw [hVg] at eg2;simpa using eg2:g=_∧cap=_)
 rw [hat] at k1
 have fz1:=fz (j*4+1)
 obtain ⟨ho3,hb3⟩:=ho2.setAt (un HRU).lt hj hVg ((ai:Int)+1)
 have ho3':Zi base (w2.setCell ⟨g,j*4+1,none⟩ (.int .i64 ((ai:Int)+1))) bs V (Zf s i ai):=by unfold Zf;rw [un HJJ];exact ho3
 have LX3:=Zz LX (a:=⟨g,j*4+1,none⟩) hXg (.int .i64 ((ai:Int)+1))
 have y0:=Zd LX3 0
 have y1:=Zd LX3 1
 have HO3:=Za ho3'
 have HB3:=Za (Below.trans hb2 hb3)
 have HLX:=Za LX3
 have HOX:=Za hoffX
 clear ho2 hb2 ho3 ho3' hb3 LX LX3 fz eg2 HO1 HB1 HO hoffX
 go_wp2_with fail
 generalize w2.setCell ⟨g,j*4+1,none⟩ (.int .i64 ((ai:Int)+1))=w3 at HO3 HB3 y0 y1 HLX ⊢
 obtain ⟨n1,n2,n3,n4,n5,n6,n7,n8⟩:=un HNX
 obtain ⟨_,c1,_,_⟩:=(un HO3).cells
 rw [n1] at c1
 have HPU:=Za (fun (u:World) (hu:u.heap=w3.heap)=>Zbd base bs V (Zf s i ai) i a u ((un HO3).same hu) n8.lt n8.fr n8.frs n8.st)
 have HYS:Hid (∀ u,Zb w3 u→u.cell? ⟨bs,1,none⟩=some (.int .i64 i)∧u.cell? ⟨X,1,none⟩=some (.int .i64 a)):=Za (fun u hu=>⟨hu.cell c1,hu.cell y1⟩)
 clear c1 n1 n2 n3 n4 n5 n6 n7 n8 y0 y1
 refine Zac 7 (fun u=>u.cell? ⟨bs,1,none⟩=some (.int .i64 i)∧u.cell? ⟨X,1,none⟩=some (.int .i64 a)) (by kernel_rfl) ?_
 have hHeld:=(un HYS) _ (Zb.refl w3).drew
 refine Zt (i:=0) (v:=?_) rfl (by kernel_rfl) (by kernel_rfl) (by kernel_rfl) (by kernel_rfl) (fun _ _ _ h=>h) (by rfl) (fun u hSu=>?_) hHeld ?_
 rotate_left
 ·((try dsimp only at hSu);go_simp) <;> with_reducible rfl
 try simp only [PS]
 refine Zt (i:=1) (v:=?_) rfl (by kernel_rfl) (by kernel_rfl) (by kernel_rfl) (by kernel_rfl) (fun _ _ _ h=>h) (by rfl) (fun u hSu=>?_) hHeld ?_
 rotate_left
 ·((try dsimp only at hSu);go_simp) <;> with_reducible rfl
 try simp only [PS]
 refine Zt (i:=2) (v:=?_) rfl (by kernel_rfl) (by kernel_rfl) (by kernel_rfl) (by kernel_rfl) (fun _ _ _ h=>h) (by rfl) (fun u hSu=>?_) hHeld ?_
 rotate_left
 ·((try dsimp only at hSu);go_simp) <;> with_reducible rfl
 try simp only [PS]
 refine Zt (i:=3) (v:=?_) rfl (by kernel_rfl) (by kernel_rfl) (by kernel_rfl) (by kernel_rfl) (fun _ _ _ h=>h) (by rfl) (fun u hSu=>?_) hHeld ?_
 rotate_left
 ·((try dsimp only at hSu);go_simp) <;> with_reducible rfl
 try simp only [PS]
 refine Zt (i:=4) (v:=?_) rfl (by kernel_rfl) (by kernel_rfl) (by kernel_rfl) (by kernel_rfl) (fun _ _ _ h=>h) (by rfl) (fun u hSu=>?_) hHeld ?_
 rotate_left
 ·((try dsimp only at hSu);go_simp) <;> with_reducible rfl
 try simp only [PS]
 refine Zt (i:=5) (v:=?_) rfl (by kernel_rfl) (by kernel_rfl) (by kernel_rfl) (by kernel_rfl) (fun _ _ _ h=>h) (by rfl) (fun u hSu=>?_) hHeld ?_
 rotate_left
 ·((try dsimp only at hSu);go_simp) <;> with_reducible rfl
 try simp only [PS]
 refine Zt (i:=6) (v:=?_) rfl (by kernel_rfl) (by kernel_rfl) (by kernel_rfl) (by kernel_rfl) (fun _ _ _ h=>h) (by rfl) (fun u hSu=>?_) hHeld ?_
 rotate_left
 ·((try dsimp only at hSu);go_simp) <;> with_reducible rfl
 try simp only [PS]
 refine Xl (i:=7) rfl (by kernel_rfl) (fun K hK=>?_)
 go_simp
 refine ((un HPU) w3.drew rfl).mono ?_
 rintro _ w4 ⟨rfl,V4,ho4,hb4⟩
 refine hK.out _ _ (fun h=>absurd rfl h) ?_
 clear hK K
 refine Uj (by kernel_rfl) ?_ _
 clear hHeld
 have HO4:=Za ho4
 have HB4:=Za (Below.trans (Below.drew (Below.refl _ w3)) hb4)
 clear ho4 hb4 HPU HYS
 go_wp2
 go_ret
 exact ⟨rfl,Below.trans (un HB3) (un HB4),fun _=>⟨V4,un HO4⟩⟩
theorem Zrj (base bs:Nat) (V:Key→Value) (s:St) (i cp bp op n fi ai cb co cl cc:Nat) (a:Int) (w:World) (h:Zi base w bs V s) (hd:DoAt base w s i bp op n fi ai cb co cl cc 1 a) (hst0:0<(Ze s i ((Zc s i).frames.length - 1)).stack.length) :
  Calls Tryd.prog 89 #[.slice (some ⟨bp,op,none⟩) n cp,.pointer (some ⟨bs,0,none⟩)] w fun e w'=>Jj base bs (Zj (Zf s i ai),0) w e w':=by
 obtain ⟨hn,hr,hfn,hat,hfin,hain,hcl,hpc⟩:=hd
 have hj:(Zc s i).frames.length - 1<(Zc s i).frames.length:=by have:=hr.fr;omega
 obtain ⟨g,cap,eg,htop⟩:=Yu h hr.lt hr.fr hr.frs
 obtain ⟨b0,b1,_,_⟩:=h.cells
 rw [hn] at b1
 have HTOP:=Za htop
 have HO:=Za h
 have HPC:=Za hpc
 have HRU:=Za hr
 have HNX:=Za (Wb hn hr ai)
 have HEG:=Za eg
 have hf1:(fi:Int)<(n:Int):=by omega
 have hf0:(0:Int)≤(fi:Int):=by omega
 have ha1:(ai:Int)<(cl:Int):=by omega
 have ha0:(0:Int)≤(ai:Int):=by omega
 have hwa:IntKind.i64.wrap ((ai:Int)+1)=(ai:Int)+1:=by rw [IntKind.wrap_i64];omega
 generalize hjj:(Zc s i).frames.length - 1=j at *
 have HJJ:=Za hjj
 clear htop h hpc hr eg hjj
 go_enter Tryd.func89,Tryd.ntmps89
 go_wp2_with fail
 refine (un HTOP).mono ?_
 rintro _ _ ⟨rfl,m0,rfl⟩
 have ho1:Zi base (w.drewN m0) bs V s:=(un HO).same rfl
 have hb1:Below base w (w.drewN m0):=below_drewN (Below.refl _ _) m0
 generalize w.drewN m0=w1 at ho1 hb1 ⊢
 obtain ⟨g',cap',eg',hcap,k0,k1,k2,k3,fz,hbg⟩:=ho1.own.fr (i:=i) (j:=j) (un HRU).lt hj
 have hVg:V (.frames i)=.slice (some ⟨g,0,none⟩) (Zc s i).frames.length cap:=un HEG
 obtain ⟨rfl,rfl⟩:g=g'∧cap=cap':=by rw [hVg] at eg';simpa using eg'
 rw [hfn] at k0
 rw [hat] at k1
 obtain ⟨x0,x1,x2⟩:=(un HPC) w1 hb1
 have HY:Hid (∀ u,Zb w1 u→u.cell? ⟨g,j*4,none⟩=some (.int .i64 fi)∧u.cell? ⟨g,j*4+1,none⟩=some (.int .i64 ai)∧u.cell? ⟨bp,op+fi*3+2,none⟩=some (.slice (some ⟨cb,co,none⟩) cl cc)∧u.cell? ⟨cb,co+ai*2,none⟩=some (.int .i64 1)∧u.cell? ⟨cb,co+ai*2+1,none⟩=some (.int .i64 a)):=Za (fun u hu=>⟨hu.cell k0,hu.cell k1,hu.cell x0,hu.cell x1,hu.cell x2⟩)
 have HO1:=Za ho1
 have HB1:=Za hb1
 have hgl:=Xo k0
 simp only at hgl
 have HGL:=Za hgl
 have hlow:=ho1.low
 have hbw:=lt_of_block ho1.var
 clear ho1 hb1 k0 k1 k2 k3 x0 x1 x2 fz eg' hgl HTOP
 go_wp2_with fail
 go_region_held3 (fun u=>u.cell? ⟨g,j*4,none⟩=some (.int .i64 fi)∧u.cell? ⟨g,j*4+1,none⟩=some (.int .i64 ai)∧u.cell? ⟨bp,op+fi*3+2,none⟩=some (.slice (some ⟨cb,co,none⟩) cl cc)∧u.cell? ⟨cb,co+ai*2,none⟩=some (.int .i64 1)∧u.cell? ⟨cb,co+ai*2+1,none⟩=some (.int .i64 a)) (exact (un HY) _ (by repeat (first | exact Zb.refl _ | refine Zb.drew ?_ | refine Zb.alloc ?_ _ | refine Zb.setCell ?_ (by simp) _))) (fail)
 rename_i hheld
 clear hheld HY
 have LX:(w1.alloc (.cells #[.int .i64 1,.int .i64 a] 86)).drew.heap[w1.heap.size]?=some (.cells #[.int .i64 1,.int .i64 a] 86):=Xi (Zg rfl)
 have ho2:Zi base (w1.alloc (.cells #[.int .i64 1,.int .i64 a] 86)).drew bs V s:=((un HO1).alloc _).same rfl
 have hb2:Below base w (w1.alloc (.cells #[.int .i64 1,.int .i64 a] 86)).drew:=(Below.alloc (un HB1) (by omega) _).drew
 have hoffX:Own.off V s w1.heap.size:=(un HO1).own.new_off (.inl (Nat.le_refl _))
 have hXb:base≤w1.heap.size:=by omega
 have hXs:bs≠w1.heap.size:=by omega
 have hXg:w1.heap.size≠g:=by have:=un HGL;omega
 generalize (w1.alloc (.cells #[.int .i64 1,.int .i64 a] 86)).drew=w2 at LX ho2 hb2 ⊢
 generalize w1.heap.size=X at LX hoffX hXb hXs hXg ⊢
 obtain ⟨_,_,eg2,_,_,k1,k2,_,fz,hbg2⟩:=ho2.own.fr (i:=i) (j:=j) (un HRU).lt hj
 obtain ⟨rfl,rfl⟩:=(by rw [hVg] at eg2;simpa using eg2:g=_∧cap=_)
 rw [hat] at k1
 have fz1:=fz (j*4+1)
 obtain ⟨ho3,hb3⟩:=ho2.setAt (un HRU).lt hj hVg ((ai:Int)+1)
 have ho3':Zi base (w2.setCell ⟨g,j*4+1,none⟩ (.int .i64 ((ai:Int)+1))) bs V (Zf s i ai):=by unfold Zf;rw [un HJJ];exact ho3
 have LX3:=Zz LX (a:=⟨g,j*4+1,none⟩) hXg (.int .i64 ((ai:Int)+1))
 have y0:=Zd LX3 0
 have y1:=Zd LX3 1
 have HO3:=Za ho3'
 have HB3:=Za (Below.trans hb2 hb3)
 have HLX:=Za LX3
 have HOX:=Za hoffX
 clear ho2 hb2 ho3 ho3' hb3 LX LX3 fz eg2 HO1 HB1 HO hoffX
 go_wp2_with fail
 generalize w2.setCell ⟨g,j*4+1,none⟩ (.int .i64 ((ai:Int)+1))=w3 at HO3 HB3 y0 y1 HLX ⊢
 obtain ⟨n1,n2,n3,n4,n5,n6,n7,n8⟩:=un HNX
 have hjn:(Zc (Zf s i ai) i).frames.length - 1=j:=by rw [n5];exact un HJJ
 have HPL:=Za (Px base bs V (Zf s i ai) i w3 (un HO3) n1 n8.lt n8.fr n8.frs n8.st (by rw [hjn,n6];exact hst0))
 clear n1 n2 n3 n4 n5 n6 n7 n8 y0 y1
 refine (un HPL).mono ?_
 rintro _ w4 ⟨rfl,V4,ho4,hb4,_,_,_⟩
 have HO4:=Za ho4
 have HB4:=Za hb4
 clear ho4 hb4 HPL
 go_wp2
 go_ret
 exact ⟨rfl,Below.trans (un HB3) (un HB4),fun _=>⟨V4,un HO4⟩⟩
theorem Zop (base bs:Nat) (V:Key→Value) (s:St) (i cp bp op n fi ai cb co cl cc:Nat) (a:Int) (w:World) (h:Zi base w bs V s) (hd:DoAt base w s i bp op n fi ai cb co cl cc 9 a) :
  Calls Tryd.prog 89 #[.slice (some ⟨bp,op,none⟩) n cp,.pointer (some ⟨bs,0,none⟩)] w fun e w'=>Jj base bs (Yj (Zf s i ai) a,0) w e w':=by
 obtain ⟨hn,hr,hfn,hat,hfin,hain,hcl,hpc⟩:=hd
 have hj:(Zc s i).frames.length - 1<(Zc s i).frames.length:=by have:=hr.fr;omega
 obtain ⟨g,cap,eg,htop⟩:=Yu h hr.lt hr.fr hr.frs
 obtain ⟨b0,b1,_,_⟩:=h.cells
 rw [hn] at b1
 have HTOP:=Za htop
 have HO:=Za h
 have HPC:=Za hpc
 have HRU:=Za hr
 have HNX:=Za (Wb hn hr ai)
 have HEG:=Za eg
 have hf1:(fi:Int)<(n:Int):=by omega
 have hf0:(0:Int)≤(fi:Int):=by omega
 have ha1:(ai:Int)<(cl:Int):=by omega
 have ha0:(0:Int)≤(ai:Int):=by omega
 have hwa:IntKind.i64.wrap ((ai:Int)+1)=(ai:Int)+1:=by rw [IntKind.wrap_i64];omega
 generalize hjj:(Zc s i).frames.length - 1=j at *
 have HJJ:=Za hjj
 clear htop h hpc hr eg hjj
 go_enter Tryd.func89,Tryd.ntmps89
 go_wp2_with fail
 refine (un HTOP).mono ?_
 rintro _ _ ⟨rfl,m0,rfl⟩
 have ho1:Zi base (w.drewN m0) bs V s:=(un HO).same rfl
 have hb1:Below base w (w.drewN m0):=below_drewN (Below.refl _ _) m0
 generalize w.drewN m0=w1 at ho1 hb1 ⊢
 obtain ⟨g',cap',eg',hcap,k0,k1,k2,k3,fz,hbg⟩:=ho1.own.fr (i:=i) (j:=j) (un HRU).lt hj
 have hVg:V (.frames i)=.slice (some ⟨g,0,none⟩) (Zc s i).frames.length cap:=un HEG
 obtain ⟨rfl,rfl⟩:g=g'∧cap=cap':=by rw [hVg] at eg';simpa using eg'
 rw [hfn] at k0
 rw [hat] at k1
 obtain ⟨x0,x1,x2⟩:=(un HPC) w1 hb1
 have HY:Hid (∀ u,Zb w1 u→u.cell? ⟨g,j*4,none⟩=some (.int .i64 fi)∧u.cell? ⟨g,j*4+1,none⟩=some (.int .i64 ai)∧u.cell? ⟨bp,op+fi*3+2,none⟩=some (.slice (some ⟨cb,co,none⟩) cl cc)∧u.cell? ⟨cb,co+ai*2,none⟩=some (.int .i64 9)∧u.cell? ⟨cb,co+ai*2+1,none⟩=some (.int .i64 a)):=Za (fun u hu=>⟨hu.cell k0,hu.cell k1,hu.cell x0,hu.cell x1,hu.cell x2⟩)
 have HO1:=Za ho1
 have HB1:=Za hb1
 have hgl:=Xo k0
 simp only at hgl
 have HGL:=Za hgl
 have hlow:=ho1.low
 have hbw:=lt_of_block ho1.var
 clear ho1 hb1 k0 k1 k2 k3 x0 x1 x2 fz eg' hgl HTOP
 go_wp2_with fail
 go_region_held3 (fun u=>u.cell? ⟨g,j*4,none⟩=some (.int .i64 fi)∧u.cell? ⟨g,j*4+1,none⟩=some (.int .i64 ai)∧u.cell? ⟨bp,op+fi*3+2,none⟩=some (.slice (some ⟨cb,co,none⟩) cl cc)∧u.cell? ⟨cb,co+ai*2,none⟩=some (.int .i64 9)∧u.cell? ⟨cb,co+ai*2+1,none⟩=some (.int .i64 a)) (exact (un HY) _ (by repeat (first | exact Zb.refl _ | refine Zb.drew ?_ | refine Zb.alloc ?_ _ | refine Zb.setCell ?_ (by simp) _))) (fail)
 rename_i hheld
 clear hheld HY
 have LX:(w1.alloc (.cells #[.int .i64 9,.int .i64 a] 86)).drew.heap[w1.heap.size]?=some (.cells #[.int .i64 9,.int .i64 a] 86):=Xi (Zg rfl)
 have ho2:Zi base (w1.alloc (.cells #[.int .i64 9,.int .i64 a] 86)).drew bs V s:=((un HO1).alloc _).same rfl
 have hb2:Below base w (w1.alloc (.cells #[.int .i64 9,.int .i64 a] 86)).drew:=(Below.alloc (un HB1) (by omega) _).drew
 have hoffX:Own.off V s w1.heap.size:=(un HO1).own.new_off (.inl (Nat.le_refl _))
 have hXb:base≤w1.heap.size:=by omega
 have hXs:bs≠w1.heap.size:=by omega
 have hXg:w1.heap.size≠g:=by have:=un HGL;omega
 generalize (w1.alloc (.cells #[.int .i64 9,.int .i64 a] 86)).drew=w2 at LX ho2 hb2 ⊢
 generalize w1.heap.size=X at LX hoffX hXb hXs hXg ⊢
 obtain ⟨_,_,eg2,_,_,k1,k2,_,fz,hbg2⟩:=ho2.own.fr (i:=i) (j:=j) (un HRU).lt hj
 obtain ⟨rfl,rfl⟩:=(by rw [hVg] at eg2;simpa using eg2:g=_∧cap=_)
 rw [hat] at k1
 have fz1:=fz (j*4+1)
 obtain ⟨ho3,hb3⟩:=ho2.setAt (un HRU).lt hj hVg ((ai:Int)+1)
 have ho3':Zi base (w2.setCell ⟨g,j*4+1,none⟩ (.int .i64 ((ai:Int)+1))) bs V (Zf s i ai):=by unfold Zf;rw [un HJJ];exact ho3
 have LX3:=Zz LX (a:=⟨g,j*4+1,none⟩) hXg (.int .i64 ((ai:Int)+1))
 have y0:=Zd LX3 0
 have y1:=Zd LX3 1
 have HO3:=Za ho3'
 have HB3:=Za (Below.trans hb2 hb3)
 have HLX:=Za LX3
 have HOX:=Za hoffX
 clear ho2 hb2 ho3 ho3' hb3 LX LX3 fz eg2 HO1 HB1 HO hoffX
 obtain ⟨n1,n2,n3,n4,n5,n6,n7,n8⟩:=un HNX
 have hjn:(Zc (Zf s i ai) i).frames.length - 1=j:=by rw [n5];exact un HJJ
 have hjn':j<(Zc (Zf s i ai) i).frames.length:=by rw [n5];exact hj
 obtain ⟨g3,cap3,eg3,_,_,m1,_,_,fz3,_⟩:=(un HO3).own.fr (i:=i) (j:=j) n8.lt hjn'
 obtain ⟨rfl,rfl⟩:g=g3∧cap=cap3:=by rw [hVg,n5] at eg3;simpa using eg3
 have fzj:=fz3 (j*4+1)
 obtain ⟨ho4,hb4⟩:=(un HO3).setAt n8.lt hjn' (show V (.frames i)=.slice (some ⟨g,0,none⟩) (Zc (Zf s i ai) i).frames.length cap by rw [n5];exact hVg) a
 have HO4:Hid (Zi base ((w2.setCell ⟨g,j*4+1,none⟩ (.int .i64 ((ai:Int)+1))).setCell ⟨g,j*4+1,none⟩ (.int .i64 a)) bs V (Yj (Zf s i ai) a)):=Za (by rw [Zgn n1,hjn];exact ho4)
 have HB4:=Za (Below.trans (un HB3) hb4)
 clear n1 n2 n3 n4 n5 n6 n7 n8 ho4 hb4 eg3 fz3
 go_wp2
 go_ret
 exact ⟨rfl,un HB4,fun _=>⟨V,un HO4⟩⟩
theorem Zwq (base bs:Nat) (V:Key→Value) (s:St) (i cp bp op n fi ai cb co cl cc:Nat) (a:Int) (w:World) (h:Zi base w bs V s) (hd:DoAt base w s i bp op n fi ai cb co cl cc 15 a) (hst0:0<(Ze s i ((Zc s i).frames.length - 1)).stack.length) (hc:∀ c:Int,(Zc s i).caller=c→0≤c→∃ k:Nat,c=k∧k≠i∧Qa s k) :
  Calls Tryd.prog 89 #[.slice (some ⟨bp,op,none⟩) n cp,.pointer (some ⟨bs,0,none⟩)] w fun e w'=>Jj base bs (Uk (Zf s i ai)) w e w':=by
 obtain ⟨hn,hr,hfn,hat,hfin,hain,hcl,hpc⟩:=hd
 have hj:(Zc s i).frames.length - 1<(Zc s i).frames.length:=by have:=hr.fr;omega
 obtain ⟨g,cap,eg,htop⟩:=Yu h hr.lt hr.fr hr.frs
 obtain ⟨b0,b1,_,_⟩:=h.cells
 rw [hn] at b1
 have HTOP:=Za htop
 have HO:=Za h
 have HPC:=Za hpc
 have HRU:=Za hr
 have HNX:=Za (Wb hn hr ai)
 have HEG:=Za eg
 have hf1:(fi:Int)<(n:Int):=by omega
 have hf0:(0:Int)≤(fi:Int):=by omega
 have ha1:(ai:Int)<(cl:Int):=by omega
 have ha0:(0:Int)≤(ai:Int):=by omega
 have hwa:IntKind.i64.wrap ((ai:Int)+1)=(ai:Int)+1:=by rw [IntKind.wrap_i64];omega
 generalize hjj:(Zc s i).frames.length - 1=j at *
 have HJJ:=Za hjj
 clear htop h hpc hr eg hjj
 go_enter Tryd.func89,Tryd.ntmps89
 go_wp2_with fail
 refine (un HTOP).mono ?_
 rintro _ _ ⟨rfl,m0,rfl⟩
 have ho1:Zi base (w.drewN m0) bs V s:=(un HO).same rfl
 have hb1:Below base w (w.drewN m0):=below_drewN (Below.refl _ _) m0
 generalize w.drewN m0=w1 at ho1 hb1 ⊢
 obtain ⟨g',cap',eg',hcap,k0,k1,k2,k3,fz,hbg⟩:=ho1.own.fr (i:=i) (j:=j) (un HRU).lt hj
 have hVg:V (.frames i)=.slice (some ⟨g,0,none⟩) (Zc s i).frames.length cap:=un HEG
 obtain ⟨rfl,rfl⟩:g=g'∧cap=cap':=by rw [hVg] at eg';simpa using eg'
 rw [hfn] at k0
 rw [hat] at k1
 obtain ⟨x0,x1,x2⟩:=(un HPC) w1 hb1
 have HY:Hid (∀ u,Zb w1 u→u.cell? ⟨g,j*4,none⟩=some (.int .i64 fi)∧u.cell? ⟨g,j*4+1,none⟩=some (.int .i64 ai)∧u.cell? ⟨bp,op+fi*3+2,none⟩=some (.slice (some ⟨cb,co,none⟩) cl cc)∧u.cell? ⟨cb,co+ai*2,none⟩=some (.int .i64 15)∧u.cell? ⟨cb,co+ai*2+1,none⟩=some (.int .i64 a)):=Za (fun u hu=>⟨hu.cell k0,hu.cell k1,hu.cell x0,hu.cell x1,hu.cell x2⟩)
 have HO1:=Za ho1
 have HB1:=Za hb1
 have hgl:=Xo k0
 simp only at hgl
 have HGL:=Za hgl
 have hlow:=ho1.low
 have hbw:=lt_of_block ho1.var
 clear ho1 hb1 k0 k1 k2 k3 x0 x1 x2 fz eg' hgl HTOP
 go_wp2_with fail
 go_region_held3 (fun u=>u.cell? ⟨g,j*4,none⟩=some (.int .i64 fi)∧u.cell? ⟨g,j*4+1,none⟩=some (.int .i64 ai)∧u.cell? ⟨bp,op+fi*3+2,none⟩=some (.slice (some ⟨cb,co,none⟩) cl cc)∧u.cell? ⟨cb,co+ai*2,none⟩=some (.int .i64 15)∧u.cell? ⟨cb,co+ai*2+1,none⟩=some (.int .i64 a)) (exact (un HY) _ (by repeat (first | exact Zb.refl _ | refine Zb.drew ?_ | refine Zb.alloc ?_ _ | refine Zb.setCell ?_ (by simp) _))) (fail)
 rename_i hheld
 clear hheld HY
 have LX:(w1.alloc (.cells #[.int .i64 15,.int .i64 a] 86)).drew.heap[w1.heap.size]?=some (.cells #[.int .i64 15,.int .i64 a] 86):=Xi (Zg rfl)
 have ho2:Zi base (w1.alloc (.cells #[.int .i64 15,.int .i64 a] 86)).drew bs V s:=((un HO1).alloc _).same rfl
 have hb2:Below base w (w1.alloc (.cells #[.int .i64 15,.int .i64 a] 86)).drew:=(Below.alloc (un HB1) (by omega) _).drew
 have hoffX:Own.off V s w1.heap.size:=(un HO1).own.new_off (.inl (Nat.le_refl _))
 have hXb:base≤w1.heap.size:=by omega
 have hXs:bs≠w1.heap.size:=by omega
 have hXg:w1.heap.size≠g:=by have:=un HGL;omega
 generalize (w1.alloc (.cells #[.int .i64 15,.int .i64 a] 86)).drew=w2 at LX ho2 hb2 ⊢
 generalize w1.heap.size=X at LX hoffX hXb hXs hXg ⊢
 obtain ⟨_,_,eg2,_,_,k1,k2,_,fz,hbg2⟩:=ho2.own.fr (i:=i) (j:=j) (un HRU).lt hj
 obtain ⟨rfl,rfl⟩:=(by rw [hVg] at eg2;simpa using eg2:g=_∧cap=_)
 rw [hat] at k1
 have fz1:=fz (j*4+1)
 obtain ⟨ho3,hb3⟩:=ho2.setAt (un HRU).lt hj hVg ((ai:Int)+1)
 have ho3':Zi base (w2.setCell ⟨g,j*4+1,none⟩ (.int .i64 ((ai:Int)+1))) bs V (Zf s i ai):=by unfold Zf;rw [un HJJ];exact ho3
 have LX3:=Zz LX (a:=⟨g,j*4+1,none⟩) hXg (.int .i64 ((ai:Int)+1))
 have y0:=Zd LX3 0
 have y1:=Zd LX3 1
 have HO3:=Za ho3'
 have HB3:=Za (Below.trans hb2 hb3)
 have HLX:=Za LX3
 have HOX:=Za hoffX
 clear ho2 hb2 ho3 ho3' hb3 LX LX3 fz eg2 HO1 HB1 HO hoffX
 go_wp2_with fail
 generalize w2.setCell ⟨g,j*4+1,none⟩ (.int .i64 ((ai:Int)+1))=w3 at HO3 HB3 y0 y1 HLX ⊢
 obtain ⟨n1,n2,n3,n4,n5,n6,n7,n8⟩:=un HNX
 have hjn:(Zc (Zf s i ai) i).frames.length - 1=j:=by rw [n5];exact un HJJ
 have hcn:∀ c:Int,(Zc (Zf s i ai) i).caller=c→0≤c→∃ k:Nat,c=k∧k≠i∧Qa (Zf s i ai) k:=fun c h1 h2=>by
  rw [n4] at h1
  obtain ⟨k,h3,h4,h5⟩:=hc c h1 h2
  exact ⟨k,h3,h4,Zkn ai k h4 h5⟩
 have HC:=Za (Zup base bs V (Zf s i ai) i w3 (un HO3) n1 n8 (by rw [hjn,n6];exact hst0) hcn)
 clear n1 n2 n3 n4 n5 n6 n7 n8 y0 y1
 refine (un HC).mono ?_
 rintro _ w4 ⟨rfl,hb4,ho4⟩
 have HB4:=Za hb4
 have HO4:=Za ho4
 clear hb4 ho4 HC
 generalize hRR:(Uk (Zf s i ai))=RR at HO4 ⊢
 have HRR:=Za hRR
 clear hRR
 go_wp2
 go_ret
 unfold Jj
 rw [un HRR]
 exact ⟨rfl,Below.trans (un HB3) (un HB4),un HO4⟩
end Go.Proofs.YtblihfpigjiahaaDoor
