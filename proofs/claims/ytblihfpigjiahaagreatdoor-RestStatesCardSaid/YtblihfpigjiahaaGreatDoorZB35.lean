/- StepM6, StepO, StepM7, StepP, OwnF -/
import Derived.Test.YtblihfpigjiahaaGreatDoorZB34
import Derived.Deep.RegionHeld3
import Derived.Test.YtblihfpigjiahaaGreatDoorZB22
import Derived.Test.YtblihfpigjiahaaGreatDoorZB18
import Derived.Test.YtblihfpigjiahaaGreatDoorZB33
import Derived.Test.YtblihfpigjiahaaGreatDoorZB12
set_option maxRecDepth 100000
set_option maxHeartbeats 8000000
namespace Go.Proofs.YtblihfpigjiahaaGreatDoor
open Go.RowKit
theorem done_call (base bs:Nat) (V:Key→Value) (s:St) (i cp bp op n fi ai cb co cl cc:Nat) (a:Int) (w:World) (h:OwnVar base w bs V s) (hd:DoAt base w s i bp op n fi ai cb co cl cc 11 a) (p:List Fn) (f2 a2 lo2:Nat) (ha2:a=f2) (hpf:∀ u,Below base w u→u.cell? ⟨bp,op + f2 * 3,none⟩=some (.int .i64 a2)∧u.cell? ⟨bp,op + f2 * 3 + 1,none⟩=some (.int .i64 lo2)) (hf2:f2 < n) (hal:a2≤lo2) (hlo:lo2≤1000) (hsta:a2≤(frAt s i ((Za s i).frames.length - 1)).stack.length) (hf6:(Za s i).frames.length≤6) (hpa:(p.getD f2 Fn.zero).args=a2) (hpl:(p.getD f2 Fn.zero).locals=lo2) :
  Calls Tryz.prog 61 #[.slice (some ⟨bp,op,none⟩) n cp,.pointer (some ⟨bs,0,none⟩)] w fun e w'=>Qc base bs (calledS p (Ze s i ai) a) w e w':=by
 subst ha2
 generalize hR:calledS p (Ze s i ai) (f2:Int)=R
 have HR:=hide hR
 clear hR
 have HPF:=hide hpf
 have HPA:=hide hpa
 have HPLL:=hide hpl
 clear hpf hpa hpl
 obtain ⟨hn,hr,hfn,hat,hfin,hain,hcl,hpc⟩:=hd
 have hj:(Za s i).frames.length - 1 < (Za s i).frames.length:=by have:=hr.fr; omega
 obtain ⟨g,cap,eg,htop⟩:=Qs h hr.lt hr.fr hr.frs
 obtain ⟨b0,b1,_,_⟩:=h.cells
 rw [hn] at b1
 have HTOP:=hide htop
 have HO:=hide h
 have HPC:=hide hpc
 have HRU:=hide hr
 have HNX:=hide (Qv hn hr ai)
 have HEG:=hide eg
 have hf1:(fi:Int) < (n:Int):=by omega
 have hf0:(0:Int)≤(fi:Int):=by omega
 have ha1:(ai:Int) < (cl:Int):=by omega
 have ha0:(0:Int)≤(ai:Int):=by omega
 have hwa:IntKind.i64.wrap ((ai:Int) + 1)=(ai:Int) + 1:=by rw [IntKind.wrap_i64]; omega
 generalize hjj:(Za s i).frames.length - 1=j at *
 have HJJ:=hide hjj
 clear htop h hpc hr eg hjj
 go_enter Tryz.func61,Tryz.ntmps61
 go_wp2_with fail
 refine (un HTOP).mono ?_
 rintro _ _ ⟨rfl,m0,rfl⟩
 have ho1:OwnVar base (w.drewN m0) bs V s:=(un HO).same rfl
 have hb1:Below base w (w.drewN m0):=below_drewN (Below.refl _ _) m0
 generalize w.drewN m0=w1 at ho1 hb1 ⊢
 obtain ⟨g',cap',eg',hcap,k0,k1,k2,k3,fz,hbg⟩:=ho1.own.fr (i:=i) (j:=j) (un HRU).lt hj
 have hVg:V (.frames i)=.slice (some ⟨g,0,none⟩) (Za s i).frames.length cap:=un HEG
 obtain ⟨rfl,rfl⟩:g=g'∧cap=cap':=by rw [hVg] at eg'; simpa using eg'
 rw [hfn] at k0
 rw [hat] at k1
 obtain ⟨x0,x1,x2⟩:=(un HPC) w1 hb1
 have HY:Hid (∀ u,Kept w1 u→u.cell? ⟨g,j * 4,none⟩=some (.int .i64 fi)∧u.cell? ⟨g,j * 4 + 1,none⟩=some (.int .i64 ai)∧u.cell? ⟨bp,op + fi * 3 + 2,none⟩=some (.slice (some ⟨cb,co,none⟩) cl cc)∧u.cell? ⟨cb,co + ai * 2,none⟩=some (.int .i64 11)∧u.cell? ⟨cb,co + ai * 2 + 1,none⟩=some (.int .i64 (f2:Int))):=hide (fun u hu=>⟨hu.cell k0,hu.cell k1,hu.cell x0,hu.cell x1,hu.cell x2⟩)
 have HO1:=hide ho1
 have HB1:=hide hb1
 have hgl:=Xd k0
 simp only at hgl
 have HGL:=hide hgl
 have hlow:=ho1.low
 have hbw:=lt_of_block ho1.var
 clear ho1 hb1 k0 k1 k2 k3 x0 x1 x2 fz eg' hgl HTOP
 go_wp2_with fail
 go_region_held3 (fun u=>u.cell? ⟨g,j * 4,none⟩=some (.int .i64 fi)∧u.cell? ⟨g,j * 4 + 1,none⟩=some (.int .i64 ai)∧u.cell? ⟨bp,op + fi * 3 + 2,none⟩=some (.slice (some ⟨cb,co,none⟩) cl cc)∧u.cell? ⟨cb,co + ai * 2,none⟩=some (.int .i64 11)∧u.cell? ⟨cb,co + ai * 2 + 1,none⟩=some (.int .i64 (f2:Int))) (exact (un HY) _ (by repeat (first | exact Kept.refl _ | refine Kept.drew ?_ | refine Kept.alloc ?_ _ | refine Kept.setCell ?_ (by simp) _))) (fail)
 rename_i hheld
 clear hheld HY
 have LX:(w1.alloc (.cells #[.int .i64 11,.int .i64 (f2:Int)] 66)).drew.heap[w1.heap.size]?=some (.cells #[.int .i64 11,.int .i64 (f2:Int)] 66):=Zt (Zd rfl)
 have ho2:OwnVar base (w1.alloc (.cells #[.int .i64 11,.int .i64 (f2:Int)] 66)).drew bs V s:=((un HO1).alloc _).same rfl
 have hb2:Below base w (w1.alloc (.cells #[.int .i64 11,.int .i64 (f2:Int)] 66)).drew:=(Below.alloc (un HB1) (by omega) _).drew
 have hoffX:Own.off V s w1.heap.size:=(un HO1).own.new_off (.inl (Nat.le_refl _))
 have hXb:base≤w1.heap.size:=by omega
 have hXs:bs≠w1.heap.size:=by omega
 have hXg:w1.heap.size≠g:=by have:=un HGL; omega
 generalize (w1.alloc (.cells #[.int .i64 11,.int .i64 (f2:Int)] 66)).drew=w2 at LX ho2 hb2 ⊢
 generalize w1.heap.size=X at LX hoffX hXb hXs hXg ⊢
 obtain ⟨_,_,eg2,_,_,k1,k2,_,fz,hbg2⟩:=ho2.own.fr (i:=i) (j:=j) (un HRU).lt hj
 obtain ⟨rfl,rfl⟩:=(by rw [hVg] at eg2; simpa using eg2:g=_∧cap=_)
 rw [hat] at k1
 have fz1:=fz (j * 4 + 1)
 obtain ⟨ho3,hb3⟩:=ho2.setAt (un HRU).lt hj hVg ((ai:Int) + 1)
 have ho3':OwnVar base (w2.setCell ⟨g,j * 4 + 1,none⟩ (.int .i64 ((ai:Int) + 1))) bs V (Ze s i ai):=by unfold Ze; rw [un HJJ]; exact ho3
 have LX3:=Xz LX (a:=⟨g,j * 4 + 1,none⟩) hXg (.int .i64 ((ai:Int) + 1))
 have y0:=Zb LX3 0
 have y1:=Zb LX3 1
 have HO3:=hide ho3'
 have HB3:=hide (Below.trans hb2 hb3)
 have HLX:=hide LX3
 have HOX:=hide hoffX
 clear ho2 hb2 ho3 ho3' hb3 LX LX3 fz eg2 HO1 HB1 HO hoffX
 go_wp2_with fail
 generalize w2.setCell ⟨g,j * 4 + 1,none⟩ (.int .i64 ((ai:Int) + 1))=w3 at HO3 HB3 y0 y1 HLX ⊢
 obtain ⟨n1,n2,n3,n4,n5,n6,n7,n8⟩:=un HNX
 have hjn:(Za (Ze s i ai) i).frames.length - 1=j:=by rw [n5]; exact un HJJ
 have hR:=un HR
 rw [calledS_eq n1 n8 (un HPA) (un HPLL)] at hR
 have HC:=hide (called_any base bs V (Ze s i ai) i f2 n cp bp op a2 lo2 w3 (un HO3) n1 n8 (fun u hu=>(un HPF) u (Below.trans (un HB3) hu)) hf2 hal hlo (by rw [hjn,n6]; exact hsta) (by rw [n5]; exact hf6) R hR)
 clear n1 n2 n3 n4 n5 n6 n7 n8 y0 y1 hR
 refine (un HC).mono ?_
 rintro _ w4 ⟨rfl,hb4,ho4⟩
 have HB4:=hide hb4
 have HO4:=hide ho4
 clear hb4 ho4 HC
 go_wp2
 go_ret
 exact ⟨rfl,Below.trans (un HB3) (un HB4),un HO4⟩
theorem push_sharp (base bs:Nat) (V:Key→Value) (s:St) (i:Nat) (z:Int) (w:World) (h:OwnVar base w bs V s) (hi:i < s.fibers.length) (hq:0 < (Za s i).frames.length) (hqs:(Za s i).frames.length≤1000) (hst:(frAt s i ((Za s i).frames.length - 1)).stack.length≤1000) :
  Calls Tryz.prog 104 #[.pointer (some ⟨bs,0,none⟩),.int .i64 i,.int .i64 z] w fun e w'=>Turned base bs (Zp s i z) (.tuple #[]) w e w'∧∀ b,b < w.heap.size→Own.off V s b→w'.heap[b]?=w.heap[b]?:=by
 obtain ⟨i0,hi0,hz0,hz1,hz2⟩:=info_parts infoInt
 obtain ⟨g,cap,eg,htop⟩:=Qs h hi hq hqs
 unfold Zp
 rw [Jm]
 generalize hj:(Za s i).frames.length - 1=j at *
 have hjl:j < (Za s i).frames.length:=by omega
 have HT:=hide htop
 have HO:=hide h
 have HEG:=hide eg
 clear htop h
 go_enter Tryz.func104,Tryz.ntmps104
 go_wp2_with fail
 refine (un HT).mono ?_
 rintro e w1 ⟨rfl,m,rfl⟩
 generalize hw1:w.drewN m=w1
 have ho1:OwnVar base w1 bs V s:=(un HO).same (by rw [← hw1]; rfl)
 have hb1:Below base w w1:=by rw [← hw1]; exact below_drewN (Below.refl _ w) m
 obtain ⟨g',cap',eg',_,f0,f1,f2,f3,ffz,hbg⟩:=ho1.own.fr hi hjl
 rw [un HEG] at eg'
 obtain ⟨⟨rfl⟩,-,rfl⟩:=(by simpa using eg':(g=g')∧True∧cap=cap')
 have hs:=ho1.own.stk hi hjl
 have hlg:=Xd f0
 simp only at hlg
 have hbw:base≤w1.heap.size:=by omega
 have hgs:(V (.stack i j)).ownBlock≠some g:=fun e=>by
  have:=ho1.own.apart (.stack i j) (.frames i) g ⟨hi,hjl⟩ hi e (by rw [un HEG]; rfl)
  cases this
 have HO1:=hide ho1
 have HSM:Hid (w1.heap=w.heap):=hide (by rw [← hw1]; rfl)
 have HB1:=hide hb1
 have HS:=hide hs
 have hfz:=ffz (j * 4 + 3)
 generalize hvs:V (.stack i j)=vs0 at *
 have HVS:=hide hvs
 generalize hl:(frAt s i j).stack=l at *
 have HL:=hide hl
 clear hw1 hb1 ho1 hvs hl hs f0 f1 f2 ffz eg'
 go_wp2_with (at_builtin; refine wpList_append_own_at _ rfl _ _ 24 rfl base 3 i0 (.int .i64 0) 1 8 Tryz.underlying24 hi0 hz0 hz1 hz2 rfl (by decide) _ _ _ rfl ((un HS).alloc _) ⟨w1.heap.size,0,none⟩ 1 1 [.int .i64 z] rfl rfl (new_one _ _ _) (int_one _) (by unfold maxLen; omega) (by omega) (by simp; omega) ?_; intro v' w2 hown' hgrow _ hat; obtain ⟨o2,c2,rfl,-⟩:=Zo hown'; have g3:w2.cell? ⟨g,j * 4 + 3,none⟩=some vs0:=hgrow.cell (((Kept.refl w1).alloc _).cell f3) (fun e=>hgs e.symm); have gz:w2.frozen? ⟨g,j * 4 + 3,none⟩=false:=(World.frozen?_of_block (hgrow.block g (by simp; omega) (fun e=>hgs e.symm))).trans ((World.frozen?_of_block (Below.heap_alloc w1 _ g hlg)).trans hfz); have HOW:=hide hown'; have HGR:=hide hgrow; have HAT:=hide hat; clear hown' hgrow hat)
 go_end0
 have hfin:=((un HO1).alloc (.cells #[.int .i64 z] 3)).turnStack (w2:=w2) hi hjl (un HEG) (.slice o2 (l.length + 1) c2) (l++[z]) (by rw [un HVS]; exact un HGR) (by rw [ints_append,List.length_append]; exact un HOW) (by rw [un HVS]; exact un HAT)
 unfold Turned
 refine ⟨⟨rfl,upd V (.stack i j) (.slice o2 (l.length + 1) c2),?_,?_⟩,fun b hb hoff=>?_⟩
 ·rw [un HL]
  exact hfin.1
 ·exact Below.trans (un HB1) (Below.trans (Below.alloc (Below.refl _ w1) hbw _) hfin.2)
 ·have hb1:b < w1.heap.size:=by rw [un HSM]; exact hb
  rw [Below.heap_setCell _ _ _ _ (fun e=>hoff (.frames i) hi (by rw [un HEG]; exact congrArg some e.symm)),(un HGR).block b (by simp; omega) (fun e=>hoff (.stack i j) ⟨hi,hjl⟩ (by rw [un HVS]; exact e.symm)),Below.heap_alloc w1 _ b hb1,un HSM]
theorem done_make (base bs:Nat) (V:Key→Value) (s:St) (i cp bp op n fi ai cb co cl cc:Nat) (a:Int) (w:World) (h:OwnVar base w bs V s) (hd:DoAt base w s i bp op n fi ai cb co cl cc 13 a) (p:List Fn) (f2 lo2:Nat) (ha2:a=f2) (hpf:∀ u,Below base w u→u.cell? ⟨bp,op + f2 * 3 + 1,none⟩=some (.int .i64 lo2)) (hf2:f2 < n) (hlo:lo2≤1000) (hfb:s.fibers.length≤5) (hpl:(p.getD f2 Fn.zero).locals=lo2) :
  Calls Tryz.prog 61 #[.slice (some ⟨bp,op,none⟩) n cp,.pointer (some ⟨bs,0,none⟩)] w fun e w'=>Qc base bs (madeS p (Ze s i ai) a) w e w':=by
 subst ha2
 generalize hR:madeS p (Ze s i ai) (f2:Int)=R
 have HR:=hide hR
 clear hR
 have HPF:=hide hpf
 have HPLL:=hide hpl
 clear hpf hpl
 obtain ⟨hn,hr,hfn,hat,hfin,hain,hcl,hpc⟩:=hd
 have hj:(Za s i).frames.length - 1 < (Za s i).frames.length:=by have:=hr.fr; omega
 obtain ⟨g,cap,eg,htop⟩:=Qs h hr.lt hr.fr hr.frs
 obtain ⟨b0,b1,_,_⟩:=h.cells
 rw [hn] at b1
 have HTOP:=hide htop
 have HO:=hide h
 have HPC:=hide hpc
 have HRU:=hide hr
 have HNX:=hide (Qv hn hr ai)
 have HEG:=hide eg
 have hf1:(fi:Int) < (n:Int):=by omega
 have hf0:(0:Int)≤(fi:Int):=by omega
 have ha1:(ai:Int) < (cl:Int):=by omega
 have ha0:(0:Int)≤(ai:Int):=by omega
 have hwa:IntKind.i64.wrap ((ai:Int) + 1)=(ai:Int) + 1:=by rw [IntKind.wrap_i64]; omega
 generalize hjj:(Za s i).frames.length - 1=j at *
 have HJJ:=hide hjj
 clear htop h hpc hr eg hjj
 go_enter Tryz.func61,Tryz.ntmps61
 go_wp2_with fail
 refine (un HTOP).mono ?_
 rintro _ _ ⟨rfl,m0,rfl⟩
 have ho1:OwnVar base (w.drewN m0) bs V s:=(un HO).same rfl
 have hb1:Below base w (w.drewN m0):=below_drewN (Below.refl _ _) m0
 generalize w.drewN m0=w1 at ho1 hb1 ⊢
 obtain ⟨g',cap',eg',hcap,k0,k1,k2,k3,fz,hbg⟩:=ho1.own.fr (i:=i) (j:=j) (un HRU).lt hj
 have hVg:V (.frames i)=.slice (some ⟨g,0,none⟩) (Za s i).frames.length cap:=un HEG
 obtain ⟨rfl,rfl⟩:g=g'∧cap=cap':=by rw [hVg] at eg'; simpa using eg'
 rw [hfn] at k0
 rw [hat] at k1
 obtain ⟨x0,x1,x2⟩:=(un HPC) w1 hb1
 have HY:Hid (∀ u,Kept w1 u→u.cell? ⟨g,j * 4,none⟩=some (.int .i64 fi)∧u.cell? ⟨g,j * 4 + 1,none⟩=some (.int .i64 ai)∧u.cell? ⟨bp,op + fi * 3 + 2,none⟩=some (.slice (some ⟨cb,co,none⟩) cl cc)∧u.cell? ⟨cb,co + ai * 2,none⟩=some (.int .i64 13)∧u.cell? ⟨cb,co + ai * 2 + 1,none⟩=some (.int .i64 (f2:Int))):=hide (fun u hu=>⟨hu.cell k0,hu.cell k1,hu.cell x0,hu.cell x1,hu.cell x2⟩)
 have HO1:=hide ho1
 have HB1:=hide hb1
 have hgl:=Xd k0
 simp only at hgl
 have HGL:=hide hgl
 have hlow:=ho1.low
 have hbw:=lt_of_block ho1.var
 clear ho1 hb1 k0 k1 k2 k3 x0 x1 x2 fz eg' hgl HTOP
 go_wp2_with fail
 go_region_held3 (fun u=>u.cell? ⟨g,j * 4,none⟩=some (.int .i64 fi)∧u.cell? ⟨g,j * 4 + 1,none⟩=some (.int .i64 ai)∧u.cell? ⟨bp,op + fi * 3 + 2,none⟩=some (.slice (some ⟨cb,co,none⟩) cl cc)∧u.cell? ⟨cb,co + ai * 2,none⟩=some (.int .i64 13)∧u.cell? ⟨cb,co + ai * 2 + 1,none⟩=some (.int .i64 (f2:Int))) (exact (un HY) _ (by repeat (first | exact Kept.refl _ | refine Kept.drew ?_ | refine Kept.alloc ?_ _ | refine Kept.setCell ?_ (by simp) _))) (fail)
 rename_i hheld
 clear hheld HY
 have LX:(w1.alloc (.cells #[.int .i64 13,.int .i64 (f2:Int)] 66)).drew.heap[w1.heap.size]?=some (.cells #[.int .i64 13,.int .i64 (f2:Int)] 66):=Zt (Zd rfl)
 have ho2:OwnVar base (w1.alloc (.cells #[.int .i64 13,.int .i64 (f2:Int)] 66)).drew bs V s:=((un HO1).alloc _).same rfl
 have hb2:Below base w (w1.alloc (.cells #[.int .i64 13,.int .i64 (f2:Int)] 66)).drew:=(Below.alloc (un HB1) (by omega) _).drew
 have hoffX:Own.off V s w1.heap.size:=(un HO1).own.new_off (.inl (Nat.le_refl _))
 have hXb:base≤w1.heap.size:=by omega
 have hXs:bs≠w1.heap.size:=by omega
 have hXg:w1.heap.size≠g:=by have:=un HGL; omega
 generalize (w1.alloc (.cells #[.int .i64 13,.int .i64 (f2:Int)] 66)).drew=w2 at LX ho2 hb2 ⊢
 generalize w1.heap.size=X at LX hoffX hXb hXs hXg ⊢
 obtain ⟨_,_,eg2,_,_,k1,k2,_,fz,hbg2⟩:=ho2.own.fr (i:=i) (j:=j) (un HRU).lt hj
 obtain ⟨rfl,rfl⟩:=(by rw [hVg] at eg2; simpa using eg2:g=_∧cap=_)
 rw [hat] at k1
 have fz1:=fz (j * 4 + 1)
 obtain ⟨ho3,hb3⟩:=ho2.setAt (un HRU).lt hj hVg ((ai:Int) + 1)
 have ho3':OwnVar base (w2.setCell ⟨g,j * 4 + 1,none⟩ (.int .i64 ((ai:Int) + 1))) bs V (Ze s i ai):=by unfold Ze; rw [un HJJ]; exact ho3
 have LX3:=Xz LX (a:=⟨g,j * 4 + 1,none⟩) hXg (.int .i64 ((ai:Int) + 1))
 have y0:=Zb LX3 0
 have y1:=Zb LX3 1
 have HO3:=hide ho3'
 have HB3:=hide (Below.trans hb2 hb3)
 have HLX:=hide LX3
 have HOX:=hide hoffX
 clear ho2 hb2 ho3 ho3' hb3 LX LX3 fz eg2 HO1 HB1 HO hoffX
 obtain ⟨n1,n2,n3,n4,n5,n6,n7,n8⟩:=un HNX
 obtain ⟨gF,capF,eF,_,_,_,_,_⟩:=(un HO3).own.fib (i:=i) n8.lt
 obtain ⟨c0,c1,_,fzS⟩:=(un HO3).cells
 rw [n1] at c1
 rw [eF,n2] at c0
 generalize hN:s.fibers.length=N at *
 by_cases h5:N=5
 ·subst h5
  have hR:madeS p (Ze s i ai) (f2:Int)=(St.zero,2):=by unfold madeS; rw [if_pos n2]
  have hR2:=(un HR).symm.trans hR
  clear hR
  subst hR2
  clear n1 n2 n3 n4 n5 n6 n7 n8 eF
  go_wp2
  go_ret
  exact ⟨rfl,un HB3,fun e=>by cases e⟩
 ·have b5:((N:Int) == 5)=false:=beq_eq_false_iff_ne.2 (by omega)
  have hR:madeS p (Ze s i ai) (f2:Int)=({ Zp (Ze s i ai) i (N:Int) with fibers:=(Zp (Ze s i ai) i (N:Int)).fibers++[⟨[⟨(f2:Int),0,List.replicate lo2 0,[]⟩],-1⟩] },0):=by
   unfold madeS
   rw [n2,if_neg h5,n1]
   unfold Qg
   rw [Int.toNat_natCast,un HPLL]
   simp
  have HRR:=hide ((un HR).symm.trans hR)
  have HPU:=hide (fun (u:World) (hu:u.heap=(w2.setCell ⟨g,j * 4 + 1,none⟩ (.int .i64 ((ai:Int) + 1))).heap)=>push_sharp base bs V (Ze s i ai) i (N:Int) u ((un HO3).same hu) n8.lt n8.fr n8.frs n8.st)
  have hl4:(Zp (Ze s i ai) (i:Int) (N:Int)).fibers.length=N:=by unfold Zp; rw [Jm]; exact (Zv _ _ _).trans n2
  have HOXn:Hid (Own.off V (Ze s i ai) X):=hide (fun kk hkk e=>(un HOX) kk ((Ja _ (un HRU).lt kk).1 hkk) e)
  have hlX:X < (w2.setCell ⟨g,j * 4 + 1,none⟩ (.int .i64 ((ai:Int) + 1))).heap.size:=(Array.getElem?_eq_some_iff.1 (un HLX)).1
  have HYS:Hid (∀ u,Kept (w2.setCell ⟨g,j * 4 + 1,none⟩ (.int .i64 ((ai:Int) + 1))) u→u.cell? ⟨bs,0,none⟩=some (.slice (some ⟨gF,0,none⟩) N capF)∧u.cell? ⟨bs,1,none⟩=some (.int .i64 i)):=hide (fun u hu=>⟨hu.cell c0,hu.cell c1⟩)
  have hNi:i < N:=by have:=n8.lt; omega
  generalize hs4:Zp (Ze s i ai) (i:Int) (N:Int)=s4 at HPU HRR hl4
  clear hR n1 n2 n3 n4 n5 n6 n7 n8 eF hs4
  go_wp2_with fail
  generalize w2.setCell ⟨g,j * 4 + 1,none⟩ (.int .i64 ((ai:Int) + 1))=w3 at *
  clear c0 c1 y0 y1 fzS
  refine Kf 10 (fun u=>u.cell? ⟨bs,0,none⟩=some (.slice (some ⟨gF,0,none⟩) N capF)∧u.cell? ⟨bs,1,none⟩=some (.int .i64 i)) (by kernel_rfl) ?_
  have hHeld:=(un HYS) _ (Kept.refl w3).drew
  refine Zq (i:=0) (v:=?_) rfl (by kernel_rfl) (by kernel_rfl) (by kernel_rfl) (by kernel_rfl) (fun _ _ _ h=>h) (by rfl) (fun u hSu=>?_) hHeld ?_
  rotate_left
  ·((try dsimp only at hSu); go_simp) <;> with_reducible rfl
  try simp only [PS]
  refine Zq (i:=1) (v:=?_) rfl (by kernel_rfl) (by kernel_rfl) (by kernel_rfl) (by kernel_rfl) (fun _ _ _ h=>h) (by rfl) (fun u hSu=>?_) hHeld ?_
  rotate_left
  ·((try dsimp only at hSu); go_simp) <;> with_reducible rfl
  try simp only [PS]
  refine Zq (i:=2) (v:=?_) rfl (by kernel_rfl) (by kernel_rfl) (by kernel_rfl) (by kernel_rfl) (fun _ _ _ h=>h) (by rfl) (fun u hSu=>?_) hHeld ?_
  rotate_left
  ·((try dsimp only at hSu); go_simp) <;> with_reducible rfl
  try simp only [PS]
  refine Zq (i:=3) (v:=?_) rfl (by kernel_rfl) (by kernel_rfl) (by kernel_rfl) (by kernel_rfl) (fun _ _ _ h=>h) (by rfl) (fun u hSu=>?_) hHeld ?_
  rotate_left
  ·((try dsimp only at hSu); go_simp) <;> with_reducible rfl
  try simp only [PS]
  refine Zq (i:=4) (v:=?_) rfl (by kernel_rfl) (by kernel_rfl) (by kernel_rfl) (by kernel_rfl) (fun _ _ _ h=>h) (by rfl) (fun u hSu=>?_) hHeld ?_
  rotate_left
  ·((try dsimp only at hSu); go_simp) <;> with_reducible rfl
  try simp only [PS]
  refine Zq (i:=5) (v:=?_) rfl (by kernel_rfl) (by kernel_rfl) (by kernel_rfl) (by kernel_rfl) (fun _ _ _ h=>h) (by rfl) (fun u hSu=>?_) hHeld ?_
  rotate_left
  ·((try dsimp only at hSu); go_simp) <;> with_reducible rfl
  try simp only [PS]
  refine Zq (i:=6) (v:=?_) rfl (by kernel_rfl) (by kernel_rfl) (by kernel_rfl) (by kernel_rfl) (fun _ _ _ h=>h) (by rfl) (fun u hSu=>?_) hHeld ?_
  rotate_left
  ·((try dsimp only at hSu); go_simp) <;> with_reducible rfl
  try simp only [PS]
  refine Zq (i:=7) (v:=?_) rfl (by kernel_rfl) (by kernel_rfl) (by kernel_rfl) (by kernel_rfl) (fun _ _ _ h=>h) (by rfl) (fun u hSu=>?_) hHeld ?_
  rotate_left
  ·((try dsimp only at hSu); go_simp) <;> with_reducible rfl
  try simp only [PS]
  refine Zq (i:=8) (v:=?_) rfl (by kernel_rfl) (by kernel_rfl) (by kernel_rfl) (by kernel_rfl) (fun _ _ _ h=>h) (by rfl) (fun u hSu=>?_) hHeld ?_
  rotate_left
  ·((try dsimp only at hSu); go_simp) <;> with_reducible rfl
  try simp only [PS]
  refine Zq (i:=9) (v:=?_) rfl (by kernel_rfl) (by kernel_rfl) (by kernel_rfl) (by kernel_rfl) (fun _ _ _ h=>h) (by rfl) (fun u hSu=>?_) hHeld ?_
  rotate_left
  ·((try dsimp only at hSu); go_simp) <;> with_reducible rfl
  try simp only [PS]
  refine Zn (i:=10) rfl (by kernel_rfl) (fun K hK=>?_)
  go_simp
  refine ((un HPU) w3.drew rfl).mono ?_
  rintro _ w4 ⟨⟨rfl,V4,ho4,hb4⟩,hh4⟩
  refine hK.out _ _ (fun h=>absurd rfl h) ?_
  clear hK K
  refine Xx (by kernel_rfl) ?_ _
  clear hHeld
  have LX4:w4.heap[X]?=_:=(hh4 X hlX (un HOXn)).trans (un HLX)
  have z1:=Zb LX4 1
  obtain ⟨gF4,capF4,eF4,_,_,_,_,_⟩:=ho4.own.fib (i:=i) (by rw [hl4]; exact hNi)
  obtain ⟨d0,_,_,fz4⟩:=ho4.cells
  rw [eF4,hl4] at d0
  have hb4':=Below.trans (un HB3) (Below.trans (Below.drew (Below.refl _ w3)) hb4)
  have x4:=(un HPF) w4 hb4'
  obtain ⟨v5,w5,hr5,⟨o5,c5,rfl⟩,ho5,hb5,hk5⟩:=fiber_added base bs V4 s4 (f2:Int) lo2 w4 ho4 (by rw [hl4]; omega) hlo
  rw [eF4,hl4] at hr5
  have hfb4:(V4 .fibers).ownBlock=some gF4:=by rw [eF4]; rfl
  have hFbs:gF4≠bs:=fun e=>ho4.off .fibers trivial (by rw [hfb4,e])
  have hFX:gF4≠X:=fun e=>by
   obtain ⟨xs,⟨_,⟨hx0,_⟩ | ⟨gg,cg,cur,hx1,_,hx2,_⟩⟩,_⟩:=ho4.own.piece .fibers trivial
   ·rw [eF4] at hx0; cases hx0
   ·rw [eF4] at hx1
    simp only [Value.slice.injEq,Option.some.injEq,Addr.mk.injEq] at hx1
    rw [← hx1.1.1,e,LX4] at hx2
    simp at hx2
  have erep:((List.replicate lo2 (0:Int)).map (fun z=>Value.int .i64 z)).toArray=Array.replicate lo2 (Value.int .i64 0):=by simp
  rw [erep] at hr5
  rw [hfb4] at hk5
  have hlbs:=Xd d0
  have hlX4:X < w4.heap.size:=(Array.getElem?_eq_some_iff.1 LX4).1
  simp only at hlbs
  have s0:w5.cell? ⟨bs,0,none⟩=some (.slice (some ⟨gF4,0,none⟩) N capF4):=(World.cell?_of_block (w:=w4) (hk5 bs hlbs (fun e=>hFbs (Option.some.inj e)))).trans d0
  have s1:w5.cell? ⟨X,1,none⟩=some (.int .i64 f2):=(World.cell?_of_block (w:=w4) (hk5 X hlX4 (fun e=>hFX (Option.some.inj e)))).trans z1
  have fzb:w5.frozen? ⟨bs,0,none⟩=false:=(World.frozen?_of_block (w:=w4) (hk5 bs hlbs (fun e=>hFbs (Option.some.inj e)))).trans (fz4 0)
  have HY4:Hid (∀ u,Kept w4 u→u.cell? ⟨bs,0,none⟩=some (.slice (some ⟨gF4,0,none⟩) N capF4)∧u.cell? ⟨X,1,none⟩=some (.int .i64 f2)∧u.cell? ⟨bp,op + f2 * 3 + 1,none⟩=some (.int .i64 lo2)):=hide (fun u hu=>⟨hu.cell d0,hu.cell z1,hu.cell x4⟩)
  have HS5:Hid (w5.cell? ⟨bs,0,none⟩=some (.slice (some ⟨gF4,0,none⟩) N capF4)∧w5.cell? ⟨X,1,none⟩=some (.int .i64 f2)∧w5.cell? ⟨bp,op + f2 * 3 + 1,none⟩=some (.int .i64 lo2)):=hide ⟨s0,s1,(un HPF) w5 (Below.trans hb4' hb5)⟩
  have HR5:=hide hr5
  have HO5:=hide ho5
  have HB5:=hide (Below.trans hb4' hb5)
  have HF5:=hide fzb
  have hmk:=make_ints lo2 (by omega)
  have hf21:(f2:Int) < (n:Int):=by omega
  have hf20:(0:Int)≤(f2:Int):=by omega
  clear ho4 hb4 hh4 LX4 z1 eF4 d0 fz4 hb4' x4 hr5 ho5 hb5 hk5 hfb4 hFbs hFX erep s0 s1 fzb HPU HYS hlX hlX4 hlbs
  go_wp2_with fail
  refine Kf 21 (fun u=>u.cell? ⟨bs,0,none⟩=some (.slice (some ⟨gF4,0,none⟩) N capF4)∧u.cell? ⟨X,1,none⟩=some (.int .i64 f2)∧u.cell? ⟨bp,op + f2 * 3 + 1,none⟩=some (.int .i64 lo2)) (by kernel_rfl) ?_
  have hHeld:=(un HY4) _ (Kept.refl w4).drew
  refine Zq (i:=0) (v:=?_) rfl (by kernel_rfl) (by kernel_rfl) (by kernel_rfl) (by kernel_rfl) (fun _ _ _ h=>h) (by rfl) (fun u hSu=>?_) hHeld ?_
  rotate_left
  ·((try dsimp only at hSu); go_simp) <;> with_reducible rfl
  try simp only [PS]
  refine Zq (i:=1) (v:=?_) rfl (by kernel_rfl) (by kernel_rfl) (by kernel_rfl) (by kernel_rfl) (fun _ _ _ h=>h) (by rfl) (fun u hSu=>?_) hHeld ?_
  rotate_left
  ·((try dsimp only at hSu); go_simp) <;> with_reducible rfl
  try simp only [PS]
  refine Zq (i:=2) (v:=?_) rfl (by kernel_rfl) (by kernel_rfl) (by kernel_rfl) (by kernel_rfl) (fun _ _ _ h=>h) (by rfl) (fun u hSu=>?_) hHeld ?_
  rotate_left
  ·((try dsimp only at hSu); go_simp) <;> with_reducible rfl
  try simp only [PS]
  refine Zq (i:=3) (v:=?_) rfl (by kernel_rfl) (by kernel_rfl) (by kernel_rfl) (by kernel_rfl) (fun _ _ _ h=>h) (by rfl) (fun u hSu=>?_) hHeld ?_
  rotate_left
  ·((try dsimp only at hSu); go_simp) <;> with_reducible rfl
  try simp only [PS]
  refine Zq (i:=4) (v:=?_) rfl (by kernel_rfl) (by kernel_rfl) (by kernel_rfl) (by kernel_rfl) (fun _ _ _ h=>h) (by rfl) (fun u hSu=>?_) hHeld ?_
  rotate_left
  ·((try dsimp only at hSu); go_simp) <;> with_reducible rfl
  try simp only [PS]
  refine Zq (i:=5) (v:=?_) rfl (by kernel_rfl) (by kernel_rfl) (by kernel_rfl) (by kernel_rfl) (fun _ _ _ h=>h) (by rfl) (fun u hSu=>?_) hHeld ?_
  rotate_left
  ·((try dsimp only at hSu); go_simp) <;> with_reducible rfl
  try simp only [PS]
  refine Zq (i:=6) (v:=?_) rfl (by kernel_rfl) (by kernel_rfl) (by kernel_rfl) (by kernel_rfl) (fun _ _ _ h=>h) (by rfl) (fun u hSu=>?_) hHeld ?_
  rotate_left
  ·((try dsimp only at hSu); go_simp) <;> with_reducible rfl
  try simp only [PS]
  refine Zq (i:=7) (v:=?_) rfl (by kernel_rfl) (by kernel_rfl) (by kernel_rfl) (by kernel_rfl) (fun _ _ _ h=>h) (by rfl) (fun u hSu=>?_) hHeld ?_
  rotate_left
  ·((try dsimp only at hSu); go_simp) <;> with_reducible rfl
  try simp only [PS]
  refine Zq (i:=8) (v:=?_) rfl (by kernel_rfl) (by kernel_rfl) (by kernel_rfl) (by kernel_rfl) (fun _ _ _ h=>h) (by rfl) (fun u hSu=>?_) hHeld ?_
  rotate_left
  ·((try dsimp only at hSu); go_simp) <;> with_reducible rfl
  try simp only [PS]
  refine Zq (i:=9) (v:=?_) rfl (by kernel_rfl) (by kernel_rfl) (by kernel_rfl) (by kernel_rfl) (fun _ _ _ h=>h) (by rfl) (fun u hSu=>?_) hHeld ?_
  rotate_left
  ·((try dsimp only at hSu); go_simp) <;> with_reducible rfl
  try simp only [PS]
  refine Zq (i:=10) (v:=?_) rfl (by kernel_rfl) (by kernel_rfl) (by kernel_rfl) (by kernel_rfl) (fun _ _ _ h=>h) (by rfl) (fun u hSu=>?_) hHeld ?_
  rotate_left
  ·((try dsimp only at hSu); go_simp) <;> with_reducible rfl
  try simp only [PS]
  refine Zq (i:=11) (v:=?_) rfl (by kernel_rfl) (by kernel_rfl) (by kernel_rfl) (by kernel_rfl) (fun _ _ _ h=>h) (by rfl) (fun u hSu=>?_) hHeld ?_
  rotate_left
  ·((try dsimp only at hSu); go_simp) <;> with_reducible rfl
  try simp only [PS]
  refine Zq (i:=12) (v:=?_) rfl (by kernel_rfl) (by kernel_rfl) (by kernel_rfl) (by kernel_rfl) (fun _ _ _ h=>h) (by rfl) (fun u hSu=>?_) hHeld ?_
  rotate_left
  ·((try dsimp only at hSu); go_simp) <;> with_reducible rfl
  try simp only [PS]
  refine Zn (i:=13) rfl (by kernel_rfl) (fun K hK=>?_)
  go_simp
  refine hK.out _ _ (fun _=>(un HY4) _ (((Kept.refl w4).alloc _).drew)) ?_
  clear hK K
  try simp only [PS]
  refine Zn (i:=14) rfl (by kernel_rfl) (fun K hK=>?_)
  go_simp
  refine hK.out _ _ (fun _=>(un HY4) _ (((Kept.refl w4).alloc _).drew)) ?_
  clear hK K
  try simp only [PS]
  refine Zn (i:=15) rfl (by kernel_rfl) (fun K hK=>?_)
  go_simp
  refine hK.out _ _ (fun _=>(un HY4) _ ((((Kept.refl w4).alloc _).alloc _).drew)) ?_
  clear hK K
  try simp only [PS]
  refine Zn (i:=16) rfl (by kernel_rfl) (fun K hK=>?_)
  go_simp
  refine hK.out _ _ (fun _=>(un HY4) _ ((((Kept.refl w4).alloc _).alloc _).drew)) ?_
  clear hK K
  try simp only [PS]
  refine Zn (i:=17) rfl (by kernel_rfl) (fun K hK=>?_)
  go_simp
  refine hK.out _ _ (fun _=>(un HY4) _ (((((Kept.refl w4).alloc _).alloc _).alloc _).drew)) ?_
  clear hK K
  try simp only [PS]
  refine Zn (i:=18) rfl (by kernel_rfl) (fun K hK=>?_)
  rw [if_pos (by rfl)]
  refine Qq (v:=.slice (some ⟨gF4,0,none⟩) N capF4) (u:=.slice (some ⟨w4.heap.size + 1 + 1,0,none⟩) 1 1) _ _ _ 23 rfl rfl rfl (un HR5) ?_
  refine hK.out _ _ (fun _=>un HS5) ?_
  clear hK K
  try simp only [PS]
  refine Zn (i:=19) rfl (by kernel_rfl) (fun K hK=>?_)
  go_simp
  refine hK.out _ _ (fun _=>un HS5) ?_
  clear hK K
  try simp only [PS]
  refine Zn (i:=20) rfl (by kernel_rfl) (fun K hK=>?_)
  go_simp
  refine hK.out _ _ (fun _=>un HS5) ?_
  clear hK K
  try simp only [PS]
  have t0:=(un HS5).1
  have fz5:=un HF5
  refine Zn (i:=21) rfl (by kernel_rfl) (fun K hK=>?_)
  go_simp
  refine hK.out _ _ (fun h=>absurd rfl h) ?_
  clear hK K hHeld
  refine Xx (by kernel_rfl) ?_ _
  clear t0 fz5
  go_wp2
  go_ret
  obtain ⟨V5,hov⟩:=un HO5
  rw [hl4] at hov
  unfold Qc
  rw [un HRR]
  exact ⟨rfl,Below.setCell (un HB5) (by omega) _,fun _=>⟨V5,hov⟩⟩
theorem done_any (base bs:Nat) (V:Key→Value) (p:List Fn) (s:St) (vp:Value) (w W0:World) (h:OwnVar base w bs V s) (hp:ProgAt W0 vp p) (hk:Kept W0 w) (hb:W0.heap.size≤base) (hok:OkS p s) :
  Calls Tryz.prog 61 #[vp,.pointer (some ⟨bs,0,none⟩)] w fun e w'=>Qc base bs (Zr p s) w e w':=by
 obtain ⟨⟨h0,hi,h5,h30⟩,hall,hfr,hcal,⟨hl1,hl2⟩,hloc,⟨g1,g2,g3,g4,g5⟩,hneed⟩:=hok
 obtain ⟨i,hn⟩:∃ i:Nat,s.now=i:=⟨s.now.toNat,by omega⟩
 rw [hn,Int.toNat_natCast] at hi hfr
 have htop:=top_at hn
 rw [htop] at g1 g2 g3 g4 g5 hneed
 have hj:(Za s i).frames.length - 1 < (Za s i).frames.length:=by omega
 have hfrs:∀ k,k < s.fibers.length→(Za s k).frames.length≤6:=fun k hk=>(hall _ (top_mem k hk)).1.1
 have hstk:∀ k j,k < s.fibers.length→j < (Za s k).frames.length→(frAt s k j).locals.length≤1000∧(frAt s k j).stack.length≤1000:=fun k j hk hj=>(hall _ (top_mem k hk)).2 _ (fr_mem k j hj)
 have hruns:∀ k,k < s.fibers.length→0 < (Za s k).frames.length→Runs s k:=fun k hk hf=>⟨hk,hf,by have:=hfrs k hk; omega,(hstk k _ hk (by omega)).2⟩
 have hr:Runs s i:=hruns i hi hfr
 obtain ⟨fi,hfn⟩:∃ fi:Nat,(frAt s i ((Za s i).frames.length - 1)).fn=fi:=⟨(frAt s i ((Za s i).frames.length - 1)).fn.toNat,by omega⟩
 obtain ⟨ai,hat⟩:∃ ai:Nat,(frAt s i ((Za s i).frames.length - 1)).at_=ai:=⟨(frAt s i ((Za s i).frames.length - 1)).at_.toNat,by omega⟩
 rw [hfn,Int.toNat_natCast] at g2 g4 g5
 rw [hat,Int.toNat_natCast] at g4
 obtain ⟨oa,cp,rfl,hpl,hcell⟩:=hp
 obtain ⟨bp,op,cv,rfl,c0,c1,c2,hcode⟩:=hcell fi _ (Zm p fi Fn.zero g2)
 have hcd:(p.getD fi Fn.zero).code=Zu p fi:=rfl
 rw [hcd] at hcode
 obtain ⟨oc,cc,rfl,_,hci⟩:=hcode
 obtain ⟨cb,co,rfl,x1,x2⟩:=hci ai _ (Zm (Zu p fi) ai (0,0) g4)
 have hx:(Zu p fi).getD ai (0,0)=opAt p (frAt s i ((Za s i).frames.length - 1)):=by unfold opAt; rw [hfn,hat,Int.toNat_natCast,Int.toNat_natCast]
 rw [hx] at x1 x2
 generalize hxx:opAt p (frAt s i ((Za s i).frames.length - 1))=x at x1 x2 hx
 obtain ⟨kd,a⟩:=x
 unfold needS at hneed
 rw [hxx] at hneed
 simp only at x1 x2 hneed
 obtain ⟨hst,hlo,hca,hma⟩:=hneed
 have keep:∀ {q:Addr} {v:Value},W0.cell? q=some v→∀ u,Below base w u→u.cell? q=some v:=fun hq u hu=>(Below.cell hu (Nat.lt_of_lt_of_le (Xd hq) hb)).trans (hk.cell hq)
 have hd:DoAt base w s i bp op p.length fi ai cb co (Zu p fi).length cc kd a:=⟨hn,hr,hfn,hat,g2,g4,g5,fun u hu=>⟨keep c2 u hu,keep x1 u hu,keep x2 u hu⟩⟩
 rw [doneS_at hn hfn hat hx]
 have hcc:∀ c:Int,(Za s i).caller=c→0≤c→∃ k:Nat,c=k∧k≠i∧Runs s k:=fun c hc hc0=>by
  rw [hn,Int.toNat_natCast,hc] at hcal
  obtain ⟨h1,h2⟩:=hcal hc0
  obtain ⟨k,rfl⟩:∃ k:Nat,c=k:=⟨c.toNat,by omega⟩
  rw [Int.toNat_natCast] at h2
  have h3:=(hall _ (top_mem i hi)).1.2.2
  rw [hc] at h3
  exact ⟨k,rfl,by omega,hruns k (by omega) h2⟩
 have hfits:Fits s:=⟨by omega,h30,fun k hk=>by have:=hfrs k hk; omega,fun k j hk hj=>(hstk k j hk hj).1,fun k j hk hj=>(hstk k j hk hj).2⟩
 by_cases k0:kd=0
 ·subst k0; rw [if_pos rfl]; exact done_push base bs V s i cp bp op _ fi ai cb co _ cc a w h hd
 rw [if_neg k0]
 by_cases k1:kd=1
 ·subst k1; rw [if_pos rfl]; exact done_pop base bs V s i cp bp op _ fi ai cb co _ cc a w h hd (Nat.lt_of_lt_of_le (by decide) hst)
 rw [if_neg k1]
 by_cases k2:kd=2
 ·subst k2
  rw [if_pos rfl]
  obtain ⟨l1,l2⟩:=hlo (.inl rfl)
  exact done_load base bs V s i cp bp op _ fi ai cb co _ cc a w h hd a.toNat (by omega) l2
 rw [if_neg k2]
 by_cases k3:kd=3
 ·subst k3
  rw [if_pos rfl]
  obtain ⟨l1,l2⟩:=hlo (.inr rfl)
  exact done_store base bs V s i cp bp op _ fi ai cb co _ cc a w h hd (Nat.lt_of_lt_of_le (by decide) hst) a.toNat (by omega) l2
 rw [if_neg k3]
 by_cases k9:kd=9
 ·subst k9; rw [if_pos rfl]; exact done_jump base bs V s i cp bp op _ fi ai cb co _ cc a w h hd
 rw [if_neg k9]
 by_cases k10:kd=10
 ·subst k10; rw [if_pos rfl]; exact done_zero base bs V s i cp bp op _ fi ai cb co _ cc a w h hd (Nat.lt_of_lt_of_le (by decide) hst)
 rw [if_neg k10]
 by_cases k11:kd=11
 ·subst k11
  rw [if_pos rfl]
  obtain ⟨l1,l2,l3,l4,l5,l6⟩:=hca rfl
  obtain ⟨f2,rfl⟩:∃ f2:Nat,a=f2:=⟨a.toNat,by omega⟩
  rw [Int.toNat_natCast] at l2 l3 l4 l5 l6
  obtain ⟨a2,ha2⟩:∃ a2:Nat,(p.getD f2 Fn.zero).args=a2:=⟨(p.getD f2 Fn.zero).args.toNat,by omega⟩
  obtain ⟨lo2,hlo2⟩:∃ lo2:Nat,(p.getD f2 Fn.zero).locals=lo2:=⟨(p.getD f2 Fn.zero).locals.toNat,by omega⟩
  obtain ⟨b',o',cv',e',d0,d1,_,_⟩:=hcell f2 _ (Zm p f2 Fn.zero l2)
  obtain ⟨rfl,rfl⟩:=(by simpa using e':bp=b'∧op=o')
  rw [ha2] at d0 l3 l4 l6
  rw [hlo2] at d1 l4 l5
  exact done_call base bs V s i cp bp op _ fi ai cb co _ cc _ w h hd p f2 a2 lo2 rfl (fun u hu=>⟨keep d0 u hu,keep d1 u hu⟩) l2 (by omega) (by omega) (by omega) (hfrs i hi) ha2 hlo2
 rw [if_neg k11]
 by_cases k12:kd=12
 ·subst k12
  rw [if_pos rfl]
  exact done_return base bs V s i cp bp op _ fi ai cb co _ cc a w h hd (Nat.lt_of_lt_of_le (by decide) hst) h30 (fun h1=>(hstk i _ hi (by omega)).2) hcc
 rw [if_neg k12]
 by_cases k13:kd=13
 ·subst k13
  rw [if_pos rfl]
  obtain ⟨l1,l2,l3,l4⟩:=hma rfl
  obtain ⟨f2,rfl⟩:∃ f2:Nat,a=f2:=⟨a.toNat,by omega⟩
  rw [Int.toNat_natCast] at l2 l3 l4
  obtain ⟨lo2,hlo2⟩:∃ lo2:Nat,(p.getD f2 Fn.zero).locals=lo2:=⟨(p.getD f2 Fn.zero).locals.toNat,by omega⟩
  obtain ⟨b',o',cv',e',d0,d1,_,_⟩:=hcell f2 _ (Zm p f2 Fn.zero l2)
  obtain ⟨rfl,rfl⟩:=(by simpa using e':bp=b'∧op=o')
  rw [hlo2] at d1 l4
  exact done_make base bs V s i cp bp op _ fi ai cb co _ cc _ w h hd p f2 lo2 rfl (fun u hu=>keep d1 u hu) l2 (by omega) h5 hlo2
 rw [if_neg k13]
 by_cases k14:kd=14
 ·subst k14
  rw [if_pos rfl]
  obtain ⟨l,hl⟩:=Option.isSome_iff_exists.1 hl1
  rw [hl] at hl2 hloc
  rw [hn] at hl2
  exact done_resume base bs V s i cp bp op _ fi ai cb co _ cc a w h hd (Nat.lt_of_lt_of_le (by decide) hst) l hfits (fun b hb'=>(hall b hb').1.2) hl hl2 hloc
 rw [if_neg k14]
 by_cases k15:kd=15
 ·subst k15
  rw [if_pos rfl]
  exact done_yield base bs V s i cp bp op _ fi ai cb co _ cc a w h hd (Nat.lt_of_lt_of_le (by decide) hst) hcc
 rw [if_neg k15]
 by_cases k16:kd=16
 ·subst k16
  rw [if_pos rfl]
  exact done_put base bs V s i cp bp op _ fi ai cb co _ cc a w h hd (Nat.lt_of_lt_of_le (by decide) hst) h30
 rw [if_neg k16]
 exact done_two base bs V s i cp bp op _ fi ai cb co _ cc kd a w h hd k0 k1 k2 k3 k9 k10 k11 k12 k13 k14 k15 k16 (by
  have:needN kd=2:=by unfold needN; rw [if_neg (by omega),if_neg (by omega)]
  omega)
theorem Own.addFrameG {base:Nat} {w w1:World} {V:Key→Value} {s:St} (h:Own base w V s) {i gF capF:Nat} (hi:i < s.fibers.length)
  (hF:V .fibers=.slice (some ⟨gF,0,none⟩) s.fibers.length capF) (f:Fr) (vl vs vf:Value) {gl gs:Nat} (hgl:vl.ownBlock=some gl) (hgs:vs.ownBlock=some gs) (hlgs:gl≠gs) (hoff:Own.off V s gl) (hoffs:Own.off V s gs) (hlt:gl < w.heap.size) (hlts:gs < w.heap.size)
  (hstk:w1.ownsRow base 3 1 vs f.stack.length (ints f.stack))
  (hloc:w1.ownsRow base 3 1 vl f.locals.length (ints f.locals))
  (hgrow:∀ b,b < w.heap.size→(V (.frames i)).ownBlock≠some b→w1.heap[b]?=w.heap[b]?)
  (hown:∀ xs,w.ownsRow base 48 4 (V (.frames i)) (Za s i).frames.length xs→w1.ownsRow base 48 4 vf ((Za s i).frames.length + 1) (xs++[.int .i64 f.fn,.int .i64 f.at_,vl,vs]))
  (hat:vf.ownBlock=(V (.frames i)).ownBlock∨vf.ownBlock=some w.heap.size) :
  Own base (w1.setCell ⟨gF,i * 2,none⟩ vf) (upd (upd (upd V (.frames i) vf) (.locals i (Za s i).frames.length) vl) (.stack i (Za s i).frames.length) vs) (Zf s i { Za s i with frames:=(Za s i).frames++[f] }):=by
 generalize hn:(Za s i).frames.length=n at *
 have hFb:(V .fibers).ownBlock=some gF:=by rw [hF]; rfl
 have hlvF:live s (.frames i):=hi
 have hlen:=Zv s i { Za s i with frames:=(Za s i).frames++[f] }
 have hfrn:(V (.frames i)).ownBlock≠some gF:=fun e=>by have:=h.apart _ .fibers _ hlvF trivial e hFb; cases this
 have hgFw:gF < w.heap.size:=((h.piece .fibers trivial).block gF hFb).2
 have hvfF:vf.ownBlock≠some gF:=by
  rcases hat with e | e
  ·rw [e]; exact hfrn
  ·rw [e]; intro e'; cases e'; omega
 have hvlF:vl.ownBlock≠some gF:=by
  rw [hgl]; intro e'; cases e'; exact hoff .fibers trivial hFb
 have hvsF:vs.ownBlock≠some gF:=by
  rw [hgs]; intro e'; cases e'; exact hoffs .fibers trivial hFb
 have hfs:Za (Zf s i { Za s i with frames:=(Za s i).frames++[f] }) i={ Za s i with frames:=(Za s i).frames++[f] }:=Xi _ hi
 have hfn:∀ t,i≠t→Za (Zf s i { Za s i with frames:=(Za s i).frames++[f] }) t=Za s t:=fun t e=>Xr _ e
 have hold:∀ t q,(i=t→q < n)→frAt (Zf s i { Za s i with frames:=(Za s i).frames++[f] }) t q=frAt s t q:=fun t q hq=>by
  unfold frAt
  by_cases e:i=t
  ·subst e; rw [hfs]; exact Kq _ _ _ _ (by rw [hn]; exact hq rfl)
  ·rw [hfn t e]
 have hnew:frAt (Zf s i { Za s i with frames:=(Za s i).frames++[f] }) i n=f:=by
  unfold frAt; rw [hfs,← hn]; exact Kt _ _ _
 have hlv:∀ k,live (Zf s i { Za s i with frames:=(Za s i).frames++[f] }) k→k=.locals i n∨k=.stack i n∨(live s k∧∀ t q,(k=.locals t q∨k=.stack t q)→i=t→q < n):=by
  intro k hk
  cases k using Key.by with
  | fibers=>exact .inr (.inr ⟨trivial,fun t q h=>by simp at h⟩)
  | out=>exact .inr (.inr ⟨trivial,fun t q h=>by simp at h⟩)
  | frames t=>exact .inr (.inr ⟨by simpa only [live,hlen] using hk,fun t q h=>by simp at h⟩)
  | locals t q =>
   simp only [live,hlen] at hk
   by_cases e:i=t
   ·subst e
    rw [hfs] at hk
    simp only [List.length_append,List.length_cons,List.length_nil,hn] at hk
    by_cases e:q=n
    ·left; rw [e]
    ·exact .inr (.inr ⟨⟨hi,by omega⟩,fun t' q' h _=>by simp at h; omega⟩)
   ·rw [hfn t e] at hk
    exact .inr (.inr ⟨hk,fun t' q' h e'=>by simp at h; omega⟩)
  | stack t q =>
   simp only [live,hlen] at hk
   by_cases e:i=t
   ·subst e
    rw [hfs] at hk
    simp only [List.length_append,List.length_cons,List.length_nil,hn] at hk
    by_cases e:q=n
    ·right; left; rw [e]
    ·exact .inr (.inr ⟨⟨hi,by omega⟩,fun t' q' h _=>by simp at h; omega⟩)
   ·rw [hfn t e] at hk
    exact .inr (.inr ⟨hk,fun t' q' h e'=>by simp at h; omega⟩)
 have hdead1:¬ live s (.locals i n):=fun hh=>by have:=hh.2; omega
 have hdead2:¬ live s (.stack i n):=fun hh=>by have:=hh.2; omega
 have hVold:∀ k,live s k→k≠.frames i→upd (upd (upd V (.frames i) vf) (.locals i n) vl) (.stack i n) vs k=V k:=fun k hk e=>by
  rw [Zl _ _ (fun (e:k=.stack i n)=>hdead2 (e ▸ hk)),Zl _ _ (fun (e:k=.locals i n)=>hdead1 (e ▸ hk)),Zl _ _ e]
 have hVf:upd (upd (upd V (.frames i) vf) (.locals i n) vl) (.stack i n) vs (.frames i)=vf:=by
  rw [Zl _ _ (by simp),Zl _ _ (by simp),Xk]
 have hVl:upd (upd (upd V (.frames i) vf) (.locals i n) vl) (.stack i n) vs (.locals i n)=vl:=by
  rw [Zl _ _ (by simp),Xk]
 have hVs:upd (upd (upd V (.frames i) vf) (.locals i n) vl) (.stack i n) vs (.stack i n)=vs:=Xk _ _ _
 generalize upd (upd (upd V (.frames i) vf) (.locals i n) vl) (.stack i n) vs=V' at *
 refine h.turned (fun k hk=>?_) (fun k b hk e=>?_) (fun k k' b hk hk' ho e e'=>?_)
 ·rcases hlv k hk with rfl | rfl | ⟨hlk,hq⟩
  ·left
   show World.ownsRow _ _ _ _ _ _ _
   rw [hVl,hnew]
   exact ownsRow_setCell_other hloc hvlF _
  ·left
   show World.ownsRow _ _ _ _ _ _ _
   rw [hVs,hnew]
   exact ownsRow_setCell_other hstk hvsF _
  ·by_cases hkF:k=.fibers
   ·subst hkF
    left
    obtain ⟨xs,h1,h2⟩:=h.piece .fibers trivial
    rw [hF] at h1
    have h1':w1.ownsRow base 46 2 (.slice (some ⟨gF,0,none⟩) s.fibers.length capF) s.fibers.length xs:=Qr h1 (fun b e=>by cases e; exact hgrow gF hgFw hfrn)
    refine ⟨xs.set (i * 2) vf,?_,fun t ht=>?_⟩
    ·rw [hVold .fibers trivial (by simp),hF,hlen]; exact (h1'.stored _ _).1
    ·rw [hlen] at ht
     obtain ⟨h3,h4⟩:=h2 t ht
     have hx:i * 2 < xs.length:=by rw [h1.1]; omega
     by_cases e:i=t
     ·subst e
      refine ⟨by rw [List.getElem?_set,if_pos rfl,if_pos hx,hVf],?_⟩
      rw [List.getElem?_set,if_neg (by omega),hfs]
      exact h4
     ·refine ⟨by rw [List.getElem?_set,if_neg (by omega),hVold (.frames t) ht (by simp; exact fun h=>e h.symm)]; exact h3,?_⟩
      rw [List.getElem?_set,if_neg (by omega),hfn t e]
      exact h4
   ·by_cases hkf:k=.frames i
    ·subst hkf
     left
     obtain ⟨xs,h1,h2⟩:=h.piece _ hlvF
     rw [hn] at h1 h2
     have h1':=hown xs h1
     refine ⟨_,by rw [hVf,hfs]; simp only [List.length_append,List.length_cons,List.length_nil,hn]; exact ownsRow_setCell_other h1' hvfF _,fun t ht=>?_⟩
     rw [hfs] at ht
     simp only [List.length_append,List.length_cons,List.length_nil,hn] at ht
     have hxl:xs.length=n * 4:=h1.1
     by_cases e:t=n
     ·subst e
      rw [hnew,hVl,hVs]
      refine ⟨?_,?_,?_,?_⟩ <;> rw [List.getElem?_append_right (by omega),hxl]
      ·rw [show t * 4 - t * 4=0 by omega]; rfl
      ·rw [show t * 4 + 1 - t * 4=1 by omega]; rfl
      ·rw [show t * 4 + 2 - t * 4=2 by omega]; rfl
      ·rw [show t * 4 + 3 - t * 4=3 by omega]; rfl
     ·have htn:t < n:=by omega
      obtain ⟨q0,q1,q2,q3⟩:=h2 t htn
      rw [hold i t (fun _=>htn),hVold (.locals i t) ⟨hi,by omega⟩ (by simp),hVold (.stack i t) ⟨hi,by omega⟩ (by simp)]
      refine ⟨?_,?_,?_,?_⟩ <;> rw [List.getElem?_append_left (by omega)] <;> assumption
    ·right
     refine ⟨hlk,hVold k hlk hkf,fun hp=>?_,fun b e=>?_⟩
     ·cases k using Key.by with
      | fibers=>exact absurd rfl hkF
      | out=>simp only [Piece] at hp ⊢; rw [hVold .out trivial (by simp)]; exact hp
      | frames t =>
       have hne:i≠t:=fun e=>hkf (by rw [e])
       obtain ⟨xs,r1,r2⟩:=hp
       refine ⟨xs,by rw [hfn t hne,hVold _ hlk hkf]; exact r1,fun q hq'=>?_⟩
       rw [hfn t hne] at hq'
       rw [hold t q (fun e=>absurd e hne),hVold (.locals t q) ⟨hlk,hq'⟩ (by simp),hVold (.stack t q) ⟨hlk,hq'⟩ (by simp)]
       exact r2 q hq'
      | locals t q=>simp only [Piece] at hp ⊢; rw [hVold _ hlk (by simp),hold t q (hq t q (.inl rfl))]; exact hp
      | stack t q=>simp only [Piece] at hp ⊢; rw [hVold _ hlk (by simp),hold t q (hq t q (.inr rfl))]; exact hp
     ·rw [Below.heap_setCell w1 _ _ b (fun e'=>hkF (h.apart k _ b hlk trivial e (by rw [hFb,e'])))]
      exact hgrow b ((h.piece k hlk).block b e).2 (fun e'=>hkf (h.apart k _ b hlk hlvF e e'))
 ·rcases hlv k hk with rfl | rfl | ⟨hlk,hq⟩
  ·right
   rw [hVl,hgl] at e
   cases e; exact hoff
  ·right
   rw [hVs,hgs] at e
   cases e; exact hoffs
  ·by_cases hkf:k=.frames i
   ·subst hkf
    rw [hVf] at e
    rcases hat with e' | e'
    ·exact .inl ⟨hlk,by rw [← e',e]⟩
    ·rw [e] at e'; cases e'
     exact .inr (h.new_off (.inl (Nat.le_refl _)))
   ·rw [hVold k hlk hkf] at e
    exact .inl ⟨hlk,e⟩
 ·have hwhich:∀ k,live (Zf s i { Za s i with frames:=(Za s i).frames++[f] }) k→(V' k).ownBlock=some b→(k=.locals i n∧b=gl)∨(k=.stack i n∧b=gs)∨(k=.frames i∧b=w.heap.size):=by
   intro k hk e
   rcases hlv k hk with rfl | rfl | ⟨hlk,hq⟩
   ·left
    rw [hVl,hgl] at e
    cases e; exact ⟨rfl,rfl⟩
   ·right; left
    rw [hVs,hgs] at e
    cases e; exact ⟨rfl,rfl⟩
   ·by_cases hkf:k=.frames i
    ·subst hkf
     right; right
     rw [hVf] at e
     rcases hat with e' | e'
     ·exact absurd (by rw [← e',e]) (ho (.frames i) hlk)
     ·rw [e] at e'; cases e'; exact ⟨rfl,rfl⟩
    ·rw [hVold k hlk hkf] at e
     exact absurd e (ho k hlk)
  rcases hwhich k hk e with ⟨h1,h2⟩ | ⟨h1,h2⟩ | ⟨h1,h2⟩ <;> rcases hwhich k' hk' e' with ⟨h3,h4⟩ | ⟨h3,h4⟩ | ⟨h3,h4⟩ <;> first | exact h1.trans h3.symm | (exfalso; omega)
end Go.Proofs.YtblihfpigjiahaaGreatDoor
