/- StepM3, StepM4, StepM5, StepN -/
import Derived.Test.YtblihfpigjiahaaGreatDoorZB32
import Derived.Deep.RegionHeld3
import Derived.Test.YtblihfpigjiahaaGreatDoorZB22
import Derived.Test.YtblihfpigjiahaaGreatDoorZB18
set_option maxRecDepth 100000
set_option maxHeartbeats 8000000
namespace Go.Proofs.YtblihfpigjiahaaGreatDoor
open Go.RowKit
theorem done_two (base bs:Nat) (V:Key→Value) (s:St) (i cp bp op n fi ai cb co cl cc:Nat) (KD:Int) (a:Int) (w:World) (h:OwnVar base w bs V s) (hd:DoAt base w s i bp op n fi ai cb co cl cc KD a) (hk0:KD≠0) (hk1:KD≠1) (hk2:KD≠2) (hk3:KD≠3) (hk9:KD≠9) (hk10:KD≠10) (hk11:KD≠11) (hk12:KD≠12) (hk13:KD≠13) (hk14:KD≠14) (hk15:KD≠15) (hk16:KD≠16) (hst2:1 < (frAt s i ((Za s i).frames.length - 1)).stack.length) :
  Calls Tryz.prog 61 #[.slice (some ⟨bp,op,none⟩) n cp,.pointer (some ⟨bs,0,none⟩)] w fun e w'=>Qc base bs (Zp (Zc (Zc (Ze s i ai))) i (Qd KD (Zh (Zc (Ze s i ai))) (Zh (Ze s i ai))),0) w e w':=by
 generalize hR:(Zp (Zc (Zc (Ze s i ai))) i (Qd KD (Zh (Zc (Ze s i ai))) (Zh (Ze s i ai))),(0:Int))=R
 have HR:=hide hR
 clear hR
 obtain ⟨hn,hr,hfn,hat,hfin,hain,hcl,hpc⟩:=hd
 have hj:(Za s i).frames.length - 1 < (Za s i).frames.length:=by have:=hr.fr; omega
 obtain ⟨g,cap,eg,htop⟩:=Qs h hr.lt hr.fr hr.frs
 obtain ⟨b0,b1,_,_⟩:=h.cells
 rw [hn] at b1
 have HTOP:=hide htop
 have HO:=hide h
 have HPC:=hide hpc
 have HRU:=hide hr
 have HNX:=hide (Qv hn hr ai)
 have HEG:=hide eg
 have hf1:(fi:Int) < (n:Int):=by omega
 have hf0:(0:Int)≤(fi:Int):=by omega
 have ha1:(ai:Int) < (cl:Int):=by omega
 have ha0:(0:Int)≤(ai:Int):=by omega
 have hwa:IntKind.i64.wrap ((ai:Int) + 1)=(ai:Int) + 1:=by rw [IntKind.wrap_i64]; omega
 generalize hjj:(Za s i).frames.length - 1=j at *
 have HJJ:=hide hjj
 clear htop h hpc hr eg hjj
 go_enter Tryz.func61,Tryz.ntmps61
 go_wp2_with fail
 refine (un HTOP).mono ?_
 rintro _ _ ⟨rfl,m0,rfl⟩
 have ho1:OwnVar base (w.drewN m0) bs V s:=(un HO).same rfl
 have hb1:Below base w (w.drewN m0):=below_drewN (Below.refl _ _) m0
 generalize w.drewN m0=w1 at ho1 hb1 ⊢
 obtain ⟨g',cap',eg',hcap,k0,k1,k2,k3,fz,hbg⟩:=ho1.own.fr (i:=i) (j:=j) (un HRU).lt hj
 have hVg:V (.frames i)=.slice (some ⟨g,0,none⟩) (Za s i).frames.length cap:=un HEG
 obtain ⟨rfl,rfl⟩:g=g'∧cap=cap':=by rw [hVg] at eg'; simpa using eg'
 rw [hfn] at k0
 rw [hat] at k1
 obtain ⟨x0,x1,x2⟩:=(un HPC) w1 hb1
 have HY:Hid (∀ u,Kept w1 u→u.cell? ⟨g,j * 4,none⟩=some (.int .i64 fi)∧u.cell? ⟨g,j * 4 + 1,none⟩=some (.int .i64 ai)∧u.cell? ⟨bp,op + fi * 3 + 2,none⟩=some (.slice (some ⟨cb,co,none⟩) cl cc)∧u.cell? ⟨cb,co + ai * 2,none⟩=some (.int .i64 KD)∧u.cell? ⟨cb,co + ai * 2 + 1,none⟩=some (.int .i64 a)):=hide (fun u hu=>⟨hu.cell k0,hu.cell k1,hu.cell x0,hu.cell x1,hu.cell x2⟩)
 have HO1:=hide ho1
 have HB1:=hide hb1
 have hgl:=Xd k0
 simp only at hgl
 have HGL:=hide hgl
 have hlow:=ho1.low
 have hbw:=lt_of_block ho1.var
 clear ho1 hb1 k0 k1 k2 k3 x0 x1 x2 fz eg' hgl HTOP
 go_wp2_with fail
 go_region_held3 (fun u=>u.cell? ⟨g,j * 4,none⟩=some (.int .i64 fi)∧u.cell? ⟨g,j * 4 + 1,none⟩=some (.int .i64 ai)∧u.cell? ⟨bp,op + fi * 3 + 2,none⟩=some (.slice (some ⟨cb,co,none⟩) cl cc)∧u.cell? ⟨cb,co + ai * 2,none⟩=some (.int .i64 KD)∧u.cell? ⟨cb,co + ai * 2 + 1,none⟩=some (.int .i64 a)) (exact (un HY) _ (by repeat (first | exact Kept.refl _ | refine Kept.drew ?_ | refine Kept.alloc ?_ _ | refine Kept.setCell ?_ (by simp) _))) (fail)
 rename_i hheld
 clear hheld HY
 have LX:(w1.alloc (.cells #[.int .i64 KD,.int .i64 a] 66)).drew.heap[w1.heap.size]?=some (.cells #[.int .i64 KD,.int .i64 a] 66):=Zt (Zd rfl)
 have ho2:OwnVar base (w1.alloc (.cells #[.int .i64 KD,.int .i64 a] 66)).drew bs V s:=((un HO1).alloc _).same rfl
 have hb2:Below base w (w1.alloc (.cells #[.int .i64 KD,.int .i64 a] 66)).drew:=(Below.alloc (un HB1) (by omega) _).drew
 have hoffX:Own.off V s w1.heap.size:=(un HO1).own.new_off (.inl (Nat.le_refl _))
 have hXb:base≤w1.heap.size:=by omega
 have hXs:bs≠w1.heap.size:=by omega
 have hXg:w1.heap.size≠g:=by have:=un HGL; omega
 generalize (w1.alloc (.cells #[.int .i64 KD,.int .i64 a] 66)).drew=w2 at LX ho2 hb2 ⊢
 generalize w1.heap.size=X at LX hoffX hXb hXs hXg ⊢
 obtain ⟨_,_,eg2,_,_,k1,k2,_,fz,hbg2⟩:=ho2.own.fr (i:=i) (j:=j) (un HRU).lt hj
 obtain ⟨rfl,rfl⟩:=(by rw [hVg] at eg2; simpa using eg2:g=_∧cap=_)
 rw [hat] at k1
 have fz1:=fz (j * 4 + 1)
 obtain ⟨ho3,hb3⟩:=ho2.setAt (un HRU).lt hj hVg ((ai:Int) + 1)
 have ho3':OwnVar base (w2.setCell ⟨g,j * 4 + 1,none⟩ (.int .i64 ((ai:Int) + 1))) bs V (Ze s i ai):=by unfold Ze; rw [un HJJ]; exact ho3
 have LX3:=Xz LX (a:=⟨g,j * 4 + 1,none⟩) hXg (.int .i64 ((ai:Int) + 1))
 have y0:=Zb LX3 0
 have y1:=Zb LX3 1
 have HO3:=hide ho3'
 have HB3:=hide (Below.trans hb2 hb3)
 have HLX:=hide LX3
 have HOX:=hide hoffX
 clear ho2 hb2 ho3 ho3' hb3 LX LX3 fz eg2 HO1 HB1 HO hoffX
 have bk0:(KD == 0)=false:=beq_eq_false_iff_ne.2 hk0
 have bk1:(KD == 1)=false:=beq_eq_false_iff_ne.2 hk1
 have bk2:(KD == 2)=false:=beq_eq_false_iff_ne.2 hk2
 have bk3:(KD == 3)=false:=beq_eq_false_iff_ne.2 hk3
 have bk9:(KD == 9)=false:=beq_eq_false_iff_ne.2 hk9
 have bk10:(KD == 10)=false:=beq_eq_false_iff_ne.2 hk10
 have bk11:(KD == 11)=false:=beq_eq_false_iff_ne.2 hk11
 have bk12:(KD == 12)=false:=beq_eq_false_iff_ne.2 hk12
 have bk13:(KD == 13)=false:=beq_eq_false_iff_ne.2 hk13
 have bk14:(KD == 14)=false:=beq_eq_false_iff_ne.2 hk14
 have bk15:(KD == 15)=false:=beq_eq_false_iff_ne.2 hk15
 have bk16:(KD == 16)=false:=beq_eq_false_iff_ne.2 hk16
 clear hk0 hk1 hk2 hk3 hk9 hk10 hk11 hk12 hk13 hk14 hk15 hk16
 go_wp2_with fail
 generalize w2.setCell ⟨g,j * 4 + 1,none⟩ (.int .i64 ((ai:Int) + 1))=w3 at HO3 HB3 y0 y1 HLX ⊢
 have hgb:(V (.frames i)).ownBlock=some g:=by rw [hVg]; rfl
 have HGB:=hide hgb
 clear hgb
 obtain ⟨n1,n2,n3,n4,n5,n6,n7,n8⟩:=un HNX
 have hjn:(Za (Ze s i ai) i).frames.length - 1=j:=by rw [n5]; exact un HJJ
 have hsl:1 < (frAt (Ze s i ai) i ((Za (Ze s i ai) i).frames.length - 1)).stack.length:=by rw [hjn,n6]; exact hst2
 have HPL:=hide (Kj base bs V (Ze s i ai) i w3 (un HO3) n1 n8.lt n8.fr n8.frs n8.st (by omega))
 obtain ⟨p1,p2,p3,p4,p5,p6,p7⟩:=Jv n1 n8.lt n8.fr
 have r1:=n8.pull n1
 have hsl1:0 < (frAt (Zc (Ze s i ai)) i ((Za (Zc (Ze s i ai)) i).frames.length - 1)).stack.length:=by rw [p5,p6,List.length_dropLast]; omega
 obtain ⟨q1,q2,q3,q4,q5,q6,q7⟩:=Jv p2 r1.lt r1.fr
 have r2:=r1.pull p2
 have HP2:=hide (fun (V4:Key→Value) (w4:World) (h4:OwnVar base w4 bs V4 (Zc (Ze s i ai)))=>Kj base bs V4 (Zc (Ze s i ai)) i w4 h4 p2 r1.lt r1.fr r1.frs r1.st hsl1)
 have HPU:=hide (fun (V5:Key→Value) (w5:World) (z:Int) (h5:OwnVar base w5 bs V5 (Zc (Zc (Ze s i ai))))=>push_any base bs V5 (Zc (Zc (Ze s i ai))) i z w5 h5 r2.lt r2.fr r2.frs r2.st)
 have hq2:(Zc (Zc (Ze s i ai))).now=i:=q2
 generalize Zh (Zc (Ze s i ai))=va at HP2 HR
 generalize Zh (Ze s i ai)=vb at HPL HR
 generalize Zc (Zc (Ze s i ai))=s2 at HP2 HPU hq2 HR
 generalize Zc (Ze s i ai)=s1 at HPL HP2
 clear n1 n2 n3 n4 n5 n6 n7 n8 p1 p2 p3 p4 p5 p6 p7 q1 q2 q3 q4 q5 q6 q7 r1 r2 hsl hsl1 y0 y1
 refine (un HPL).mono ?_
 rintro _ w4 ⟨rfl,V4,ho4,hb4,hf4,_,hh4⟩
 have LX4:w4.heap[X]?=_:=(hh4 X (by rw [un HGB]; intro e; exact hXg (Option.some.inj e).symm)).trans (un HLX)
 have HLX4:=hide LX4
 have HB4:=hide (Below.trans (un HB3) hb4)
 have HC2:=hide ((un HP2) V4 w4 ho4)
 have HG4:Hid ((V4 (.frames i)).ownBlock=some g):=hide (by rw [hf4]; exact un HGB)
 clear ho4 hb4 hf4 hh4 LX4 HP2 HPL
 go_wp2_with fail
 refine (un HC2).mono ?_
 rintro _ w5 ⟨rfl,V5,ho5,hb5,hf5,_,hh5⟩
 have LX5:w5.heap[X]?=_:=(hh5 X (by rw [un HG4]; intro e; exact hXg (Option.some.inj e).symm)).trans (un HLX4)
 have z0:=Zb LX5 0
 obtain ⟨_,c1,_,_⟩:=ho5.cells
 rw [hq2] at c1
 have HPU5:=hide (fun (u:World) (hu:u.heap=w5.heap) (z:Int)=>(un HPU) V5 u z (ho5.same hu))
 have HB5:=hide (Below.trans (un HB4) hb5)
 have HYS:Hid (∀ u,Kept w5 u→u.cell? ⟨bs,1,none⟩=some (.int .i64 i)∧u.cell? ⟨X,0,none⟩=some (.int .i64 KD)):=hide (fun u hu=>⟨hu.cell c1,hu.cell z0⟩)
 clear ho5 hb5 hf5 hh5 LX5 HC2 z0 c1 HPU
 go_wp2_with fail
 refine Kf 10 (fun u=>u.cell? ⟨bs,1,none⟩=some (.int .i64 i)∧u.cell? ⟨X,0,none⟩=some (.int .i64 KD)) (by kernel_rfl) ?_
 have hHeld:=(un HYS) _ (Kept.refl w5).drew
 refine Zq (i:=0) (v:=?_) rfl (by kernel_rfl) (by kernel_rfl) (by kernel_rfl) (by kernel_rfl) (fun _ _ _ h=>h) (by rfl) (fun u hSu=>?_) hHeld ?_
 rotate_left
 ·((try dsimp only at hSu); go_simp) <;> with_reducible rfl
 try simp only [PS]
 refine Zq (i:=1) (v:=?_) rfl (by kernel_rfl) (by kernel_rfl) (by kernel_rfl) (by kernel_rfl) (fun _ _ _ h=>h) (by rfl) (fun u hSu=>?_) hHeld ?_
 rotate_left
 ·((try dsimp only at hSu); go_simp) <;> with_reducible rfl
 try simp only [PS]
 refine Zq (i:=2) (v:=?_) rfl (by kernel_rfl) (by kernel_rfl) (by kernel_rfl) (by kernel_rfl) (fun _ _ _ h=>h) (by rfl) (fun u hSu=>?_) hHeld ?_
 rotate_left
 ·((try dsimp only at hSu); go_simp) <;> with_reducible rfl
 try simp only [PS]
 refine Zq (i:=3) (v:=?_) rfl (by kernel_rfl) (by kernel_rfl) (by kernel_rfl) (by kernel_rfl) (fun _ _ _ h=>h) (by rfl) (fun u hSu=>?_) hHeld ?_
 rotate_left
 ·((try dsimp only at hSu); go_simp) <;> with_reducible rfl
 try simp only [PS]
 refine Zq (i:=4) (v:=?_) rfl (by kernel_rfl) (by kernel_rfl) (by kernel_rfl) (by kernel_rfl) (fun _ _ _ h=>h) (by rfl) (fun u hSu=>?_) hHeld ?_
 rotate_left
 ·((try dsimp only at hSu); go_simp) <;> with_reducible rfl
 try simp only [PS]
 refine Zq (i:=5) (v:=?_) rfl (by kernel_rfl) (by kernel_rfl) (by kernel_rfl) (by kernel_rfl) (fun _ _ _ h=>h) (by rfl) (fun u hSu=>?_) hHeld ?_
 rotate_left
 ·((try dsimp only at hSu); go_simp) <;> with_reducible rfl
 try simp only [PS]
 refine Zq (i:=6) (v:=?_) rfl (by kernel_rfl) (by kernel_rfl) (by kernel_rfl) (by kernel_rfl) (fun _ _ _ h=>h) (by rfl) (fun u hSu=>?_) hHeld ?_
 rotate_left
 ·((try dsimp only at hSu); go_simp) <;> with_reducible rfl
 try simp only [PS]
 refine Zq (i:=7) (v:=?_) rfl (by kernel_rfl) (by kernel_rfl) (by kernel_rfl) (by kernel_rfl) (fun _ _ _ h=>h) (by rfl) (fun u hSu=>?_) hHeld ?_
 rotate_left
 ·((try dsimp only at hSu); go_simp) <;> with_reducible rfl
 try simp only [PS]
 refine Zq (i:=8) (v:=?_) rfl (by kernel_rfl) (by kernel_rfl) (by kernel_rfl) (by kernel_rfl) (fun _ _ _ h=>h) (by rfl) (fun u hSu=>?_) hHeld ?_
 rotate_left
 ·((try dsimp only at hSu); go_simp) <;> with_reducible rfl
 try simp only [PS]
 refine Zn (i:=9) rfl (by kernel_rfl) (fun K hK=>?_)
 go_simp
 refine (reckoned_any _ _ _ _).mono ?_
 rintro _ _ ⟨rfl,rfl⟩
 refine hK.out _ _ (fun _=>hHeld) ?_
 clear hK K
 generalize hz:Qd KD va vb=zz
 have HZ:=hide hz
 clear hz
 try simp only [PS]
 refine Zn (i:=10) rfl (by kernel_rfl) (fun K hK=>?_)
 go_simp
 refine ((un HPU5) w5.drew rfl zz).mono ?_
 rintro _ w6 ⟨rfl,V6,ho6,hb6⟩
 refine hK.out _ _ (fun h=>absurd rfl h) ?_
 clear hK K
 refine Xx (by kernel_rfl) ?_ _
 clear hHeld
 have HO6:=hide ho6
 have HB6:=hide (Below.trans (un HB5) (Below.trans (Below.drew (Below.refl _ w5)) hb6))
 clear ho6 hb6 HPU5 HYS
 go_wp2
 go_ret
 unfold Qc
 rw [← un HR,un HZ]
 exact ⟨rfl,un HB6,fun _=>⟨V6,un HO6⟩⟩
theorem done_zero (base bs:Nat) (V:Key→Value) (s:St) (i cp bp op n fi ai cb co cl cc:Nat) (a:Int) (w:World) (h:OwnVar base w bs V s) (hd:DoAt base w s i bp op n fi ai cb co cl cc 10 a) (hst0:0 < (frAt s i ((Za s i).frames.length - 1)).stack.length) :
  Calls Tryz.prog 61 #[.slice (some ⟨bp,op,none⟩) n cp,.pointer (some ⟨bs,0,none⟩)] w fun e w'=>Qc base bs (if Zh (Ze s i ai)=0 then setAt (Zc (Ze s i ai)) a else Zc (Ze s i ai),0) w e w':=by
 generalize hR:((if Zh (Ze s i ai)=0 then setAt (Zc (Ze s i ai)) a else Zc (Ze s i ai)),(0:Int))=R
 have HR:=hide hR
 clear hR
 obtain ⟨hn,hr,hfn,hat,hfin,hain,hcl,hpc⟩:=hd
 have hj:(Za s i).frames.length - 1 < (Za s i).frames.length:=by have:=hr.fr; omega
 obtain ⟨g,cap,eg,htop⟩:=Qs h hr.lt hr.fr hr.frs
 obtain ⟨b0,b1,_,_⟩:=h.cells
 rw [hn] at b1
 have HTOP:=hide htop
 have HO:=hide h
 have HPC:=hide hpc
 have HRU:=hide hr
 have HNX:=hide (Qv hn hr ai)
 have HEG:=hide eg
 have hf1:(fi:Int) < (n:Int):=by omega
 have hf0:(0:Int)≤(fi:Int):=by omega
 have ha1:(ai:Int) < (cl:Int):=by omega
 have ha0:(0:Int)≤(ai:Int):=by omega
 have hwa:IntKind.i64.wrap ((ai:Int) + 1)=(ai:Int) + 1:=by rw [IntKind.wrap_i64]; omega
 generalize hjj:(Za s i).frames.length - 1=j at *
 have HJJ:=hide hjj
 clear htop h hpc hr eg hjj
 go_enter Tryz.func61,Tryz.ntmps61
 go_wp2_with fail
 refine (un HTOP).mono ?_
 rintro _ _ ⟨rfl,m0,rfl⟩
 have ho1:OwnVar base (w.drewN m0) bs V s:=(un HO).same rfl
 have hb1:Below base w (w.drewN m0):=below_drewN (Below.refl _ _) m0
 generalize w.drewN m0=w1 at ho1 hb1 ⊢
 obtain ⟨g',cap',eg',hcap,k0,k1,k2,k3,fz,hbg⟩:=ho1.own.fr (i:=i) (j:=j) (un HRU).lt hj
 have hVg:V (.frames i)=.slice (some ⟨g,0,none⟩) (Za s i).frames.length cap:=un HEG
 obtain ⟨rfl,rfl⟩:g=g'∧cap=cap':=by rw [hVg] at eg'; simpa using eg'
 rw [hfn] at k0
 rw [hat] at k1
 obtain ⟨x0,x1,x2⟩:=(un HPC) w1 hb1
 have HY:Hid (∀ u,Kept w1 u→u.cell? ⟨g,j * 4,none⟩=some (.int .i64 fi)∧u.cell? ⟨g,j * 4 + 1,none⟩=some (.int .i64 ai)∧u.cell? ⟨bp,op + fi * 3 + 2,none⟩=some (.slice (some ⟨cb,co,none⟩) cl cc)∧u.cell? ⟨cb,co + ai * 2,none⟩=some (.int .i64 10)∧u.cell? ⟨cb,co + ai * 2 + 1,none⟩=some (.int .i64 a)):=hide (fun u hu=>⟨hu.cell k0,hu.cell k1,hu.cell x0,hu.cell x1,hu.cell x2⟩)
 have HO1:=hide ho1
 have HB1:=hide hb1
 have hgl:=Xd k0
 simp only at hgl
 have HGL:=hide hgl
 have hlow:=ho1.low
 have hbw:=lt_of_block ho1.var
 clear ho1 hb1 k0 k1 k2 k3 x0 x1 x2 fz eg' hgl HTOP
 go_wp2_with fail
 go_region_held3 (fun u=>u.cell? ⟨g,j * 4,none⟩=some (.int .i64 fi)∧u.cell? ⟨g,j * 4 + 1,none⟩=some (.int .i64 ai)∧u.cell? ⟨bp,op + fi * 3 + 2,none⟩=some (.slice (some ⟨cb,co,none⟩) cl cc)∧u.cell? ⟨cb,co + ai * 2,none⟩=some (.int .i64 10)∧u.cell? ⟨cb,co + ai * 2 + 1,none⟩=some (.int .i64 a)) (exact (un HY) _ (by repeat (first | exact Kept.refl _ | refine Kept.drew ?_ | refine Kept.alloc ?_ _ | refine Kept.setCell ?_ (by simp) _))) (fail)
 rename_i hheld
 clear hheld HY
 have LX:(w1.alloc (.cells #[.int .i64 10,.int .i64 a] 66)).drew.heap[w1.heap.size]?=some (.cells #[.int .i64 10,.int .i64 a] 66):=Zt (Zd rfl)
 have ho2:OwnVar base (w1.alloc (.cells #[.int .i64 10,.int .i64 a] 66)).drew bs V s:=((un HO1).alloc _).same rfl
 have hb2:Below base w (w1.alloc (.cells #[.int .i64 10,.int .i64 a] 66)).drew:=(Below.alloc (un HB1) (by omega) _).drew
 have hoffX:Own.off V s w1.heap.size:=(un HO1).own.new_off (.inl (Nat.le_refl _))
 have hXb:base≤w1.heap.size:=by omega
 have hXs:bs≠w1.heap.size:=by omega
 have hXg:w1.heap.size≠g:=by have:=un HGL; omega
 generalize (w1.alloc (.cells #[.int .i64 10,.int .i64 a] 66)).drew=w2 at LX ho2 hb2 ⊢
 generalize w1.heap.size=X at LX hoffX hXb hXs hXg ⊢
 obtain ⟨_,_,eg2,_,_,k1,k2,_,fz,hbg2⟩:=ho2.own.fr (i:=i) (j:=j) (un HRU).lt hj
 obtain ⟨rfl,rfl⟩:=(by rw [hVg] at eg2; simpa using eg2:g=_∧cap=_)
 rw [hat] at k1
 have fz1:=fz (j * 4 + 1)
 obtain ⟨ho3,hb3⟩:=ho2.setAt (un HRU).lt hj hVg ((ai:Int) + 1)
 have ho3':OwnVar base (w2.setCell ⟨g,j * 4 + 1,none⟩ (.int .i64 ((ai:Int) + 1))) bs V (Ze s i ai):=by unfold Ze; rw [un HJJ]; exact ho3
 have LX3:=Xz LX (a:=⟨g,j * 4 + 1,none⟩) hXg (.int .i64 ((ai:Int) + 1))
 have y0:=Zb LX3 0
 have y1:=Zb LX3 1
 have HO3:=hide ho3'
 have HB3:=hide (Below.trans hb2 hb3)
 have HLX:=hide LX3
 have HOX:=hide hoffX
 clear ho2 hb2 ho3 ho3' hb3 LX LX3 fz eg2 HO1 HB1 HO hoffX
 go_wp2_with fail
 generalize w2.setCell ⟨g,j * 4 + 1,none⟩ (.int .i64 ((ai:Int) + 1))=w3 at HO3 HB3 y0 y1 HLX ⊢
 have hgb:(V (.frames i)).ownBlock=some g:=by rw [hVg]; rfl
 have HGB:=hide hgb
 clear hgb
 obtain ⟨n1,n2,n3,n4,n5,n6,n7,n8⟩:=un HNX
 have hjn:(Za (Ze s i ai) i).frames.length - 1=j:=by rw [n5]; exact un HJJ
 have HPL:=hide (Kj base bs V (Ze s i ai) i w3 (un HO3) n1 n8.lt n8.fr n8.frs n8.st (by rw [hjn,n6]; exact hst0))
 obtain ⟨p1,p2,p3,p4,p5,p6,p7⟩:=Jv n1 n8.lt n8.fr
 have r1:=n8.pull n1
 have hjp:(Za (Zc (Ze s i ai)) i).frames.length - 1=j:=by rw [p5]; exact hjn
 have hjp':j < (Za (Zc (Ze s i ai)) i).frames.length:=by rw [p5,n5]; exact hj
 have hlp:(Za (Zc (Ze s i ai)) i).frames.length=(Za s i).frames.length:=by rw [p5,n5]
 generalize Zh (Ze s i ai)=z at HPL HR
 generalize Zc (Ze s i ai)=s1 at HPL HR p2 r1 hjp hjp' hlp
 clear n1 n2 n3 n4 n5 n6 n7 n8 p1 p3 p4 p5 p6 p7 y0 y1 hjn
 refine (un HPL).mono ?_
 rintro _ w4 ⟨rfl,V4,ho4,hb4,hf4,_,hh4⟩
 have LX4:w4.heap[X]?=_:=(hh4 X (by rw [un HGB]; intro e; exact hXg (Option.some.inj e).symm)).trans (un HLX)
 have z1:=Zb LX4 1
 have hV4:V4 (.frames i)=.slice (some ⟨g,0,none⟩) (Za s1 i).frames.length cap:=by rw [hf4,hVg,hlp]
 obtain ⟨g4,cap4,eg4,_,_,m1,_,_,fz4,_⟩:=ho4.own.fr (i:=i) (j:=j) r1.lt hjp'
 obtain ⟨rfl,rfl⟩:g=g4∧cap=cap4:=by rw [hV4] at eg4; simpa using eg4
 have fzj:=fz4 (j * 4 + 1)
 obtain ⟨ho5,hb5⟩:=ho4.setAt r1.lt hjp' hV4 a
 have HO4:=hide ho4
 have HB4:=hide (Below.trans (un HB3) hb4)
 have HO5:Hid (OwnVar base (w4.setCell ⟨g,j * 4 + 1,none⟩ (.int .i64 a)) bs V4 (setAt s1 a)):=hide (by rw [setAt_setFr p2,hjp]; exact ho5)
 have HB5:=hide (Below.trans (Below.trans (un HB3) hb4) hb5)
 clear ho4 hb4 hf4 hh4 LX4 HPL hV4 eg4 fz4 ho5 hb5
 by_cases hz:z=0
 ·have hR:=un HR
  rw [if_pos hz] at hR
  subst hR hz
  go_wp2
  go_ret
  exact ⟨rfl,un HB5,fun _=>⟨V4,un HO5⟩⟩
 ·have hR:=un HR
  rw [if_neg hz] at hR
  subst hR
  have bz:(z == 0)=false:=beq_eq_false_iff_ne.2 hz
  go_wp2
  go_ret
  exact ⟨rfl,un HB4,fun _=>⟨V4,un HO4⟩⟩
theorem done_load (base bs:Nat) (V:Key→Value) (s:St) (i cp bp op n fi ai cb co cl cc:Nat) (a:Int) (w:World) (h:OwnVar base w bs V s) (hd:DoAt base w s i bp op n fi ai cb co cl cc 2 a) (al:Nat) (hal:a=al) (hlt:al < (frAt s i ((Za s i).frames.length - 1)).locals.length) :
  Calls Tryz.prog 61 #[.slice (some ⟨bp,op,none⟩) n cp,.pointer (some ⟨bs,0,none⟩)] w fun e w'=>Qc base bs (Zp (Ze s i ai) i ((Ze s i ai).top.locals.getD a.toNat 0),0) w e w':=by
 subst hal
 generalize hR:(Zp (Ze s i ai) i ((Ze s i ai).top.locals.getD (al:Int).toNat 0),(0:Int))=R
 have HR:=hide hR
 clear hR
 obtain ⟨hn,hr,hfn,hat,hfin,hain,hcl,hpc⟩:=hd
 have hj:(Za s i).frames.length - 1 < (Za s i).frames.length:=by have:=hr.fr; omega
 obtain ⟨g,cap,eg,htop⟩:=Qs h hr.lt hr.fr hr.frs
 obtain ⟨b0,b1,_,_⟩:=h.cells
 rw [hn] at b1
 have HTOP:=hide htop
 have HO:=hide h
 have HPC:=hide hpc
 have HRU:=hide hr
 have HNX:=hide (Qv hn hr ai)
 have HEG:=hide eg
 have hf1:(fi:Int) < (n:Int):=by omega
 have hf0:(0:Int)≤(fi:Int):=by omega
 have ha1:(ai:Int) < (cl:Int):=by omega
 have ha0:(0:Int)≤(ai:Int):=by omega
 have hwa:IntKind.i64.wrap ((ai:Int) + 1)=(ai:Int) + 1:=by rw [IntKind.wrap_i64]; omega
 generalize hjj:(Za s i).frames.length - 1=j at *
 have HJJ:=hide hjj
 clear htop h hpc hr eg hjj
 go_enter Tryz.func61,Tryz.ntmps61
 go_wp2_with fail
 refine (un HTOP).mono ?_
 rintro _ _ ⟨rfl,m0,rfl⟩
 have ho1:OwnVar base (w.drewN m0) bs V s:=(un HO).same rfl
 have hb1:Below base w (w.drewN m0):=below_drewN (Below.refl _ _) m0
 generalize w.drewN m0=w1 at ho1 hb1 ⊢
 obtain ⟨g',cap',eg',hcap,k0,k1,k2,k3,fz,hbg⟩:=ho1.own.fr (i:=i) (j:=j) (un HRU).lt hj
 have hVg:V (.frames i)=.slice (some ⟨g,0,none⟩) (Za s i).frames.length cap:=un HEG
 obtain ⟨rfl,rfl⟩:g=g'∧cap=cap':=by rw [hVg] at eg'; simpa using eg'
 rw [hfn] at k0
 rw [hat] at k1
 obtain ⟨x0,x1,x2⟩:=(un HPC) w1 hb1
 have HY:Hid (∀ u,Kept w1 u→u.cell? ⟨g,j * 4,none⟩=some (.int .i64 fi)∧u.cell? ⟨g,j * 4 + 1,none⟩=some (.int .i64 ai)∧u.cell? ⟨bp,op + fi * 3 + 2,none⟩=some (.slice (some ⟨cb,co,none⟩) cl cc)∧u.cell? ⟨cb,co + ai * 2,none⟩=some (.int .i64 2)∧u.cell? ⟨cb,co + ai * 2 + 1,none⟩=some (.int .i64 (al:Int))):=hide (fun u hu=>⟨hu.cell k0,hu.cell k1,hu.cell x0,hu.cell x1,hu.cell x2⟩)
 have HO1:=hide ho1
 have HB1:=hide hb1
 have hgl:=Xd k0
 simp only at hgl
 have HGL:=hide hgl
 have hlow:=ho1.low
 have hbw:=lt_of_block ho1.var
 clear ho1 hb1 k0 k1 k2 k3 x0 x1 x2 fz eg' hgl HTOP
 go_wp2_with fail
 go_region_held3 (fun u=>u.cell? ⟨g,j * 4,none⟩=some (.int .i64 fi)∧u.cell? ⟨g,j * 4 + 1,none⟩=some (.int .i64 ai)∧u.cell? ⟨bp,op + fi * 3 + 2,none⟩=some (.slice (some ⟨cb,co,none⟩) cl cc)∧u.cell? ⟨cb,co + ai * 2,none⟩=some (.int .i64 2)∧u.cell? ⟨cb,co + ai * 2 + 1,none⟩=some (.int .i64 (al:Int))) (exact (un HY) _ (by repeat (first | exact Kept.refl _ | refine Kept.drew ?_ | refine Kept.alloc ?_ _ | refine Kept.setCell ?_ (by simp) _))) (fail)
 rename_i hheld
 clear hheld HY
 have LX:(w1.alloc (.cells #[.int .i64 2,.int .i64 (al:Int)] 66)).drew.heap[w1.heap.size]?=some (.cells #[.int .i64 2,.int .i64 (al:Int)] 66):=Zt (Zd rfl)
 have ho2:OwnVar base (w1.alloc (.cells #[.int .i64 2,.int .i64 (al:Int)] 66)).drew bs V s:=((un HO1).alloc _).same rfl
 have hb2:Below base w (w1.alloc (.cells #[.int .i64 2,.int .i64 (al:Int)] 66)).drew:=(Below.alloc (un HB1) (by omega) _).drew
 have hoffX:Own.off V s w1.heap.size:=(un HO1).own.new_off (.inl (Nat.le_refl _))
 have hXb:base≤w1.heap.size:=by omega
 have hXs:bs≠w1.heap.size:=by omega
 have hXg:w1.heap.size≠g:=by have:=un HGL; omega
 generalize (w1.alloc (.cells #[.int .i64 2,.int .i64 (al:Int)] 66)).drew=w2 at LX ho2 hb2 ⊢
 generalize w1.heap.size=X at LX hoffX hXb hXs hXg ⊢
 obtain ⟨_,_,eg2,_,_,k1,k2,_,fz,hbg2⟩:=ho2.own.fr (i:=i) (j:=j) (un HRU).lt hj
 obtain ⟨rfl,rfl⟩:=(by rw [hVg] at eg2; simpa using eg2:g=_∧cap=_)
 rw [hat] at k1
 have fz1:=fz (j * 4 + 1)
 obtain ⟨ho3,hb3⟩:=ho2.setAt (un HRU).lt hj hVg ((ai:Int) + 1)
 have ho3':OwnVar base (w2.setCell ⟨g,j * 4 + 1,none⟩ (.int .i64 ((ai:Int) + 1))) bs V (Ze s i ai):=by unfold Ze; rw [un HJJ]; exact ho3
 have LX3:=Xz LX (a:=⟨g,j * 4 + 1,none⟩) hXg (.int .i64 ((ai:Int) + 1))
 have y0:=Zb LX3 0
 have y1:=Zb LX3 1
 have HO3:=hide ho3'
 have HB3:=hide (Below.trans hb2 hb3)
 have HLX:=hide LX3
 have HOX:=hide hoffX
 clear ho2 hb2 ho3 ho3' hb3 LX LX3 fz eg2 HO1 HB1 HO hoffX
 go_wp2_with fail
 generalize w2.setCell ⟨g,j * 4 + 1,none⟩ (.int .i64 ((ai:Int) + 1))=w3 at HO3 HB3 y0 y1 HLX ⊢
 obtain ⟨n1,n2,n3,n4,n5,n6,n7,n8⟩:=un HNX
 obtain ⟨_,c1,_,_⟩:=(un HO3).cells
 rw [n1] at c1
 have hjn:(Za (Ze s i ai) i).frames.length - 1=j:=by rw [n5]; exact un HJJ
 have hjn':j < (Za (Ze s i ai) i).frames.length:=by rw [n5]; exact hj
 have hloc:(Ze s i ai).top.locals.getD (al:Int).toNat 0=(frAt s i j).locals.getD al 0:=by rw [top_at n1,hjn,n6,Int.toNat_natCast]
 obtain ⟨g3,cap3,eg3,_,_,_,m2,_,_,_⟩:=(un HO3).own.fr (i:=i) (j:=j) n8.lt hjn'
 obtain ⟨rfl,rfl⟩:g=g3∧cap=cap3:=by rw [hVg,n5] at eg3; simpa using eg3
 have hrow:=(un HO3).own.loc (i:=i) (j:=j) n8.lt hjn'
 rw [n6] at hrow
 simp only [] at hrow
 obtain ⟨gl,cpl,el,_,hcell,_,_⟩:=Jr hrow (by omega)
 have hv:=hcell al _ (ints_at (Zm (frAt s i j).locals al 0 hlt))
 rw [el] at m2
 generalize (frAt s i j).locals.length=ll at hlt m2
 generalize hq:(frAt s i j).locals.getD al 0=q at hv hloc
 rw [hloc] at HR
 have HPU:=hide (fun (u:World) (hu:u.heap=w3.heap)=>push_any base bs V (Ze s i ai) i q u ((un HO3).same hu) n8.lt n8.fr n8.frs n8.st)
 have hl1:(al:Int) < (ll:Int):=by omega
 have hl0:(0:Int)≤(al:Int):=by omega
 have HYS:Hid (∀ u,Kept w3 u→u.cell? ⟨bs,1,none⟩=some (.int .i64 i)∧u.cell? ⟨X,1,none⟩=some (.int .i64 al)∧u.cell? ⟨g,j * 4 + 2,none⟩=some (.slice (some ⟨gl,0,none⟩) ll cpl)∧u.cell? ⟨gl,al,none⟩=some (.int .i64 q)):=hide (fun u hu=>⟨hu.cell c1,hu.cell y1,hu.cell m2,hu.cell hv⟩)
 clear c1 n1 n2 n3 n4 n5 n6 n7 n8 y0 y1 m2 hv hcell hrow el eg3 hloc hq
 refine Kf 13 (fun u=>u.cell? ⟨bs,1,none⟩=some (.int .i64 i)∧u.cell? ⟨X,1,none⟩=some (.int .i64 al)∧u.cell? ⟨g,j * 4 + 2,none⟩=some (.slice (some ⟨gl,0,none⟩) ll cpl)∧u.cell? ⟨gl,al,none⟩=some (.int .i64 q)) (by kernel_rfl) ?_
 have hHeld:=(un HYS) _ (Kept.refl w3).drew
 refine Zq (i:=0) (v:=?_) rfl (by kernel_rfl) (by kernel_rfl) (by kernel_rfl) (by kernel_rfl) (fun _ _ _ h=>h) (by rfl) (fun u hSu=>?_) hHeld ?_
 rotate_left
 ·((try dsimp only at hSu); go_simp) <;> with_reducible rfl
 try simp only [PS]
 refine Zq (i:=1) (v:=?_) rfl (by kernel_rfl) (by kernel_rfl) (by kernel_rfl) (by kernel_rfl) (fun _ _ _ h=>h) (by rfl) (fun u hSu=>?_) hHeld ?_
 rotate_left
 ·((try dsimp only at hSu); go_simp) <;> with_reducible rfl
 try simp only [PS]
 refine Zq (i:=2) (v:=?_) rfl (by kernel_rfl) (by kernel_rfl) (by kernel_rfl) (by kernel_rfl) (fun _ _ _ h=>h) (by rfl) (fun u hSu=>?_) hHeld ?_
 rotate_left
 ·((try dsimp only at hSu); go_simp) <;> with_reducible rfl
 try simp only [PS]
 refine Zq (i:=3) (v:=?_) rfl (by kernel_rfl) (by kernel_rfl) (by kernel_rfl) (by kernel_rfl) (fun _ _ _ h=>h) (by rfl) (fun u hSu=>?_) hHeld ?_
 rotate_left
 ·((try dsimp only at hSu); go_simp) <;> with_reducible rfl
 try simp only [PS]
 refine Zq (i:=4) (v:=?_) rfl (by kernel_rfl) (by kernel_rfl) (by kernel_rfl) (by kernel_rfl) (fun _ _ _ h=>h) (by rfl) (fun u hSu=>?_) hHeld ?_
 rotate_left
 ·((try dsimp only at hSu); go_simp) <;> with_reducible rfl
 try simp only [PS]
 refine Zq (i:=5) (v:=?_) rfl (by kernel_rfl) (by kernel_rfl) (by kernel_rfl) (by kernel_rfl) (fun _ _ _ h=>h) (by rfl) (fun u hSu=>?_) hHeld ?_
 rotate_left
 ·((try dsimp only at hSu); go_simp) <;> with_reducible rfl
 try simp only [PS]
 refine Zq (i:=6) (v:=?_) rfl (by kernel_rfl) (by kernel_rfl) (by kernel_rfl) (by kernel_rfl) (fun _ _ _ h=>h) (by rfl) (fun u hSu=>?_) hHeld ?_
 rotate_left
 ·((try dsimp only at hSu); go_simp) <;> with_reducible rfl
 try simp only [PS]
 refine Zq (i:=7) (v:=?_) rfl (by kernel_rfl) (by kernel_rfl) (by kernel_rfl) (by kernel_rfl) (fun _ _ _ h=>h) (by rfl) (fun u hSu=>?_) hHeld ?_
 rotate_left
 ·((try dsimp only at hSu); go_simp) <;> with_reducible rfl
 try simp only [PS]
 refine Zq (i:=8) (v:=?_) rfl (by kernel_rfl) (by kernel_rfl) (by kernel_rfl) (by kernel_rfl) (fun _ _ _ h=>h) (by rfl) (fun u hSu=>?_) hHeld ?_
 rotate_left
 ·((try dsimp only at hSu); go_simp) <;> with_reducible rfl
 try simp only [PS]
 refine Zq (i:=9) (v:=?_) rfl (by kernel_rfl) (by kernel_rfl) (by kernel_rfl) (by kernel_rfl) (fun _ _ _ h=>h) (by rfl) (fun u hSu=>?_) hHeld ?_
 rotate_left
 ·((try dsimp only at hSu); go_simp) <;> with_reducible rfl
 try simp only [PS]
 refine Zq (i:=10) (v:=?_) rfl (by kernel_rfl) (by kernel_rfl) (by kernel_rfl) (by kernel_rfl) (fun _ _ _ h=>h) (by rfl) (fun u hSu=>?_) hHeld ?_
 rotate_left
 ·((try dsimp only at hSu); go_simp) <;> with_reducible rfl
 try simp only [PS]
 refine Zq (i:=11) (v:=?_) rfl (by kernel_rfl) (by kernel_rfl) (by kernel_rfl) (by kernel_rfl) (fun _ _ _ h=>h) (by rfl) (fun u hSu=>?_) hHeld ?_
 rotate_left
 ·((try dsimp only at hSu); go_simp) <;> with_reducible rfl
 try simp only [PS]
 refine Zq (i:=12) (v:=?_) rfl (by kernel_rfl) (by kernel_rfl) (by kernel_rfl) (by kernel_rfl) (fun _ _ _ h=>h) (by rfl) (fun u hSu=>?_) hHeld ?_
 rotate_left
 ·((try dsimp only at hSu); go_simp) <;> with_reducible rfl
 try simp only [PS]
 refine Zn (i:=13) rfl (by kernel_rfl) (fun K hK=>?_)
 go_simp
 refine ((un HPU) w3.drew rfl).mono ?_
 rintro _ w4 ⟨rfl,V4,ho4,hb4⟩
 refine hK.out _ _ (fun h=>absurd rfl h) ?_
 clear hK K
 refine Xx (by kernel_rfl) ?_ _
 clear hHeld
 have HO4:=hide ho4
 have HB4:=hide (Below.trans (Below.drew (Below.refl _ w3)) hb4)
 clear ho4 hb4 HPU HYS
 go_wp2
 go_ret
 unfold Qc
 rw [← un HR]
 exact ⟨rfl,Below.trans (un HB3) (un HB4),fun _=>⟨V4,un HO4⟩⟩
theorem row_eq {w w':World} {base base':Nat} {e:TypeId} {size n:Nat} {v v':Value} {xs xs':List Value} (h:w.ownsRow base e size v n xs) (h':w'.ownsRow base' e size v' n xs') (hn:0 < n) (hs:0 < size) (hb:v'.ownBlock=v.ownBlock) (hg:∀ g,v.ownBlock=some g→w'.heap[g]?=w.heap[g]?):v'=v:=by
 rcases h.2 with ⟨_,h0⟩ | ⟨g,cap,cur,rfl,_,hgg,_,_,hsz,_⟩
 ·omega
 ·rcases h'.2 with ⟨_,h0⟩ | ⟨g',cap',cur',rfl,_,hgg',_,_,hsz',_⟩
  ·omega
  ·simp only [Value.ownBlock,Option.some.injEq] at hb
   subst hb
   rw [hg _ rfl,hgg] at hgg'
   obtain rfl:cur=cur':=by simpa using hgg'
   have:cap' * size=cap * size:=by rw [← hsz,← hsz']
   rw [Nat.eq_of_mul_eq_mul_right hs this]
theorem done_store (base bs:Nat) (V:Key→Value) (s:St) (i cp bp op n fi ai cb co cl cc:Nat) (a:Int) (w:World) (h:OwnVar base w bs V s) (hd:DoAt base w s i bp op n fi ai cb co cl cc 3 a) (hst0:0 < (frAt s i ((Za s i).frames.length - 1)).stack.length) (al:Nat) (hal:a=al) (hlt:al < (frAt s i ((Za s i).frames.length - 1)).locals.length) :
  Calls Tryz.prog 61 #[.slice (some ⟨bp,op,none⟩) n cp,.pointer (some ⟨bs,0,none⟩)] w fun e w'=>Qc base bs ((Zc (Ze s i ai)).turnTop i fun f=>{ f with locals:=f.locals.set a.toNat (Zh (Ze s i ai)) },0) w e w':=by
 subst hal
 generalize hR:(((Zc (Ze s i ai)).turnTop i fun f=>{ f with locals:=f.locals.set (al:Int).toNat (Zh (Ze s i ai)) }),(0:Int))=R
 have HR:=hide hR
 clear hR
 obtain ⟨hn,hr,hfn,hat,hfin,hain,hcl,hpc⟩:=hd
 have hj:(Za s i).frames.length - 1 < (Za s i).frames.length:=by have:=hr.fr; omega
 obtain ⟨g,cap,eg,htop⟩:=Qs h hr.lt hr.fr hr.frs
 obtain ⟨b0,b1,_,_⟩:=h.cells
 rw [hn] at b1
 have HTOP:=hide htop
 have HO:=hide h
 have HPC:=hide hpc
 have HRU:=hide hr
 have HNX:=hide (Qv hn hr ai)
 have HEG:=hide eg
 have hf1:(fi:Int) < (n:Int):=by omega
 have hf0:(0:Int)≤(fi:Int):=by omega
 have ha1:(ai:Int) < (cl:Int):=by omega
 have ha0:(0:Int)≤(ai:Int):=by omega
 have hwa:IntKind.i64.wrap ((ai:Int) + 1)=(ai:Int) + 1:=by rw [IntKind.wrap_i64]; omega
 generalize hjj:(Za s i).frames.length - 1=j at *
 have HJJ:=hide hjj
 clear htop h hpc hr eg hjj
 go_enter Tryz.func61,Tryz.ntmps61
 go_wp2_with fail
 refine (un HTOP).mono ?_
 rintro _ _ ⟨rfl,m0,rfl⟩
 have ho1:OwnVar base (w.drewN m0) bs V s:=(un HO).same rfl
 have hb1:Below base w (w.drewN m0):=below_drewN (Below.refl _ _) m0
 generalize w.drewN m0=w1 at ho1 hb1 ⊢
 obtain ⟨g',cap',eg',hcap,k0,k1,k2,k3,fz,hbg⟩:=ho1.own.fr (i:=i) (j:=j) (un HRU).lt hj
 have hVg:V (.frames i)=.slice (some ⟨g,0,none⟩) (Za s i).frames.length cap:=un HEG
 obtain ⟨rfl,rfl⟩:g=g'∧cap=cap':=by rw [hVg] at eg'; simpa using eg'
 rw [hfn] at k0
 rw [hat] at k1
 obtain ⟨x0,x1,x2⟩:=(un HPC) w1 hb1
 have HY:Hid (∀ u,Kept w1 u→u.cell? ⟨g,j * 4,none⟩=some (.int .i64 fi)∧u.cell? ⟨g,j * 4 + 1,none⟩=some (.int .i64 ai)∧u.cell? ⟨bp,op + fi * 3 + 2,none⟩=some (.slice (some ⟨cb,co,none⟩) cl cc)∧u.cell? ⟨cb,co + ai * 2,none⟩=some (.int .i64 3)∧u.cell? ⟨cb,co + ai * 2 + 1,none⟩=some (.int .i64 (al:Int))):=hide (fun u hu=>⟨hu.cell k0,hu.cell k1,hu.cell x0,hu.cell x1,hu.cell x2⟩)
 have HO1:=hide ho1
 have HB1:=hide hb1
 have hgl:=Xd k0
 simp only at hgl
 have HGL:=hide hgl
 have hlow:=ho1.low
 have hbw:=lt_of_block ho1.var
 clear ho1 hb1 k0 k1 k2 k3 x0 x1 x2 fz eg' hgl HTOP
 go_wp2_with fail
 go_region_held3 (fun u=>u.cell? ⟨g,j * 4,none⟩=some (.int .i64 fi)∧u.cell? ⟨g,j * 4 + 1,none⟩=some (.int .i64 ai)∧u.cell? ⟨bp,op + fi * 3 + 2,none⟩=some (.slice (some ⟨cb,co,none⟩) cl cc)∧u.cell? ⟨cb,co + ai * 2,none⟩=some (.int .i64 3)∧u.cell? ⟨cb,co + ai * 2 + 1,none⟩=some (.int .i64 (al:Int))) (exact (un HY) _ (by repeat (first | exact Kept.refl _ | refine Kept.drew ?_ | refine Kept.alloc ?_ _ | refine Kept.setCell ?_ (by simp) _))) (fail)
 rename_i hheld
 clear hheld HY
 have LX:(w1.alloc (.cells #[.int .i64 3,.int .i64 (al:Int)] 66)).drew.heap[w1.heap.size]?=some (.cells #[.int .i64 3,.int .i64 (al:Int)] 66):=Zt (Zd rfl)
 have ho2:OwnVar base (w1.alloc (.cells #[.int .i64 3,.int .i64 (al:Int)] 66)).drew bs V s:=((un HO1).alloc _).same rfl
 have hb2:Below base w (w1.alloc (.cells #[.int .i64 3,.int .i64 (al:Int)] 66)).drew:=(Below.alloc (un HB1) (by omega) _).drew
 have hoffX:Own.off V s w1.heap.size:=(un HO1).own.new_off (.inl (Nat.le_refl _))
 have hXb:base≤w1.heap.size:=by omega
 have hXs:bs≠w1.heap.size:=by omega
 have hXg:w1.heap.size≠g:=by have:=un HGL; omega
 generalize (w1.alloc (.cells #[.int .i64 3,.int .i64 (al:Int)] 66)).drew=w2 at LX ho2 hb2 ⊢
 generalize w1.heap.size=X at LX hoffX hXb hXs hXg ⊢
 obtain ⟨_,_,eg2,_,_,k1,k2,_,fz,hbg2⟩:=ho2.own.fr (i:=i) (j:=j) (un HRU).lt hj
 obtain ⟨rfl,rfl⟩:=(by rw [hVg] at eg2; simpa using eg2:g=_∧cap=_)
 rw [hat] at k1
 have fz1:=fz (j * 4 + 1)
 obtain ⟨ho3,hb3⟩:=ho2.setAt (un HRU).lt hj hVg ((ai:Int) + 1)
 have ho3':OwnVar base (w2.setCell ⟨g,j * 4 + 1,none⟩ (.int .i64 ((ai:Int) + 1))) bs V (Ze s i ai):=by unfold Ze; rw [un HJJ]; exact ho3
 have LX3:=Xz LX (a:=⟨g,j * 4 + 1,none⟩) hXg (.int .i64 ((ai:Int) + 1))
 have y0:=Zb LX3 0
 have y1:=Zb LX3 1
 have HO3:=hide ho3'
 have HB3:=hide (Below.trans hb2 hb3)
 have HLX:=hide LX3
 have HOX:=hide hoffX
 clear ho2 hb2 ho3 ho3' hb3 LX LX3 fz eg2 HO1 HB1 HO hoffX
 go_wp2_with fail
 generalize w2.setCell ⟨g,j * 4 + 1,none⟩ (.int .i64 ((ai:Int) + 1))=w3 at HO3 HB3 y0 y1 HLX ⊢
 have hgb:(V (.frames i)).ownBlock=some g:=by rw [hVg]; rfl
 have HGB:=hide hgb
 clear hgb
 obtain ⟨n1,n2,n3,n4,n5,n6,n7,n8⟩:=un HNX
 have hjn:(Za (Ze s i ai) i).frames.length - 1=j:=by rw [n5]; exact un HJJ
 have HPL:=hide (Kj base bs V (Ze s i ai) i w3 (un HO3) n1 n8.lt n8.fr n8.frs n8.st (by rw [hjn,n6]; exact hst0))
 have hjn':j < (Za (Ze s i ai) i).frames.length:=by rw [n5]; exact hj
 obtain ⟨g3,cap3,eg3,_,_,_,m2,_,_,_⟩:=(un HO3).own.fr (i:=i) (j:=j) n8.lt hjn'
 obtain ⟨rfl,rfl⟩:g=g3∧cap=cap3:=by rw [hVg,n5] at eg3; simpa using eg3
 have hrow:=(un HO3).own.loc (i:=i) (j:=j) n8.lt hjn'
 rw [n6] at hrow
 simp only [] at hrow
 obtain ⟨gl,cpl,el,_,_,_,_⟩:=Jr hrow (by omega)
 have hglg:gl≠g:=fun e=>by have:=(un HO3).own.apart (.locals i j) (.frames i) g ⟨n8.lt,hjn'⟩ n8.lt (by rw [el,e]; rfl) (un HGB); cases this
 rw [el] at m2
 obtain ⟨p1,p2,p3,p4,p5,p6,p7⟩:=Jv n1 n8.lt n8.fr
 have r1:=n8.pull n1
 have hlp:(Za (Zc (Ze s i ai)) i).frames.length=(Za s i).frames.length:=by rw [p5,n5]
 have hjp':j < (Za (Zc (Ze s i ai)) i).frames.length:=by rw [hlp]; exact hj
 have hlo:(frAt (Zc (Ze s i ai)) i j).locals=(frAt s i j).locals:=by
  rw [Qn n1,hjn,Jb _ n8.lt hjn',n6]
 have hturn:∀ z,((Zc (Ze s i ai)).turnTop (i:Int) fun f=>{ f with locals:=f.locals.set (al:Int).toNat z })=Xl (Zc (Ze s i ai)) i j { frAt (Zc (Ze s i ai)) i j with locals:=(frAt (Zc (Ze s i ai)) i j).locals.set al z }:=fun z=>by
  rw [Jm,hlp,un HJJ,Int.toNat_natCast]
 rw [hturn] at HR
 have HY3:Hid (∀ u,Kept w3 u→u.cell? ⟨X,1,none⟩=some (.int .i64 al)∧u.cell? ⟨g,j * 4 + 2,none⟩=some (.slice (some ⟨gl,0,none⟩) (frAt s i j).locals.length cpl)):=hide (fun u hu=>⟨hu.cell y1,hu.cell m2⟩)
 have HROW:=hide hrow
 have HEL:=hide el
 have HGG:=hide hglg
 have hPD:=fun (u:World) (hu:u.heap=w3.heap)=>Kj base bs V (Ze s i ai) i u ((un HO3).same hu) n1 n8.lt n8.fr n8.frs n8.st (by rw [hjn,n6]; exact hst0)
 have HPD:=hide hPD
 generalize Zh (Ze s i ai)=z at HPD HR
 generalize Zc (Ze s i ai)=s1 at HPD HR p2 r1 hjp' hlp hlo
 have HLO:=hide hlo
 have HR1:=hide r1
 have hl1:(al:Int) < ((frAt s i j).locals.length:Int):=by omega
 have hl0:(0:Int)≤(al:Int):=by omega
 generalize hll:(frAt s i j).locals.length=ll at *
 have HLL:=hide hll
 clear n1 n2 n3 n4 n5 n6 n7 n8 p1 p3 p4 p5 p6 p7 y0 y1 hjn m2 hrow el eg3 hturn hPD HPL hlo r1 hll hglg
 refine Kf 9 (fun u=>u.cell? ⟨X,1,none⟩=some (.int .i64 al)∧u.cell? ⟨g,j * 4 + 2,none⟩=some (.slice (some ⟨gl,0,none⟩) ll cpl)) (by kernel_rfl) ?_
 have hHeld:=(un HY3) _ (Kept.refl w3).drew
 refine Zq (i:=0) (v:=?_) rfl (by kernel_rfl) (by kernel_rfl) (by kernel_rfl) (by kernel_rfl) (fun _ _ _ h=>h) (by rfl) (fun u hSu=>?_) hHeld ?_
 rotate_left
 ·((try dsimp only at hSu); go_simp) <;> with_reducible rfl
 try simp only [PS]
 refine Zq (i:=1) (v:=?_) rfl (by kernel_rfl) (by kernel_rfl) (by kernel_rfl) (by kernel_rfl) (fun _ _ _ h=>h) (by rfl) (fun u hSu=>?_) hHeld ?_
 rotate_left
 ·((try dsimp only at hSu); go_simp) <;> with_reducible rfl
 try simp only [PS]
 refine Zq (i:=2) (v:=?_) rfl (by kernel_rfl) (by kernel_rfl) (by kernel_rfl) (by kernel_rfl) (fun _ _ _ h=>h) (by rfl) (fun u hSu=>?_) hHeld ?_
 rotate_left
 ·((try dsimp only at hSu); go_simp) <;> with_reducible rfl
 try simp only [PS]
 refine Zq (i:=3) (v:=?_) rfl (by kernel_rfl) (by kernel_rfl) (by kernel_rfl) (by kernel_rfl) (fun _ _ _ h=>h) (by rfl) (fun u hSu=>?_) hHeld ?_
 rotate_left
 ·((try dsimp only at hSu); go_simp) <;> with_reducible rfl
 try simp only [PS]
 refine Zq (i:=4) (v:=?_) rfl (by kernel_rfl) (by kernel_rfl) (by kernel_rfl) (by kernel_rfl) (fun _ _ _ h=>h) (by rfl) (fun u hSu=>?_) hHeld ?_
 rotate_left
 ·((try dsimp only at hSu); go_simp) <;> with_reducible rfl
 try simp only [PS]
 refine Zq (i:=5) (v:=?_) rfl (by kernel_rfl) (by kernel_rfl) (by kernel_rfl) (by kernel_rfl) (fun _ _ _ h=>h) (by rfl) (fun u hSu=>?_) hHeld ?_
 rotate_left
 ·((try dsimp only at hSu); go_simp) <;> with_reducible rfl
 try simp only [PS]
 refine Zq (i:=6) (v:=?_) rfl (by kernel_rfl) (by kernel_rfl) (by kernel_rfl) (by kernel_rfl) (fun _ _ _ h=>h) (by rfl) (fun u hSu=>?_) hHeld ?_
 rotate_left
 ·((try dsimp only at hSu); go_simp) <;> with_reducible rfl
 try simp only [PS]
 refine Zn (i:=7) rfl (by kernel_rfl) (fun K hK=>?_)
 go_simp
 refine ((un HPD) w3.drew rfl).mono ?_
 rintro _ w4 ⟨rfl,V4,ho4,hb4,hf4,hvb4,hh4⟩
 have hV4:V4 (.frames i)=.slice (some ⟨g,0,none⟩) (Za s1 i).frames.length cap:=by rw [hf4,hVg,hlp]
 have LX4:w4.heap[X]?=_:=(hh4 X (by rw [un HGB]; intro e; exact hXg (Option.some.inj e).symm)).trans (un HLX)
 have hrow4:=ho4.own.loc (i:=i) (j:=j) (un HR1).lt hjp'
 rw [un HLO,un HLL] at hrow4
 have hVl:V4 (.locals i j)=V (.locals i j):=row_eq (un HROW) hrow4 (by omega) (by decide) (hvb4 _) (fun gg hgg=>hh4 gg (by rw [un HGB]; intro e; rw [un HEL] at hgg; exact un HGG (by have h1:=Option.some.inj e; have h2:gl=gg:=Option.some.inj hgg; rw [h2,h1])))
 obtain ⟨g4,cap4,eg4,_,_,_,m4,_,_,_⟩:=ho4.own.fr (i:=i) (j:=j) (un HR1).lt hjp'
 obtain ⟨rfl,rfl⟩:g=g4∧cap=cap4:=by rw [hV4] at eg4; simpa using eg4
 rw [hVl,un HEL] at m4
 obtain ⟨gl',cpl',el',_,hcell4,hfz4,_⟩:=Jr hrow4 (by omega)
 obtain ⟨rfl,rfl⟩:gl=gl'∧cpl=cpl':=by rw [hVl,un HEL] at el'; simpa using el'
 have hv4:=hcell4 al _ (ints_at (Zm (frAt s i j).locals al 0 (by rw [un HLL]; exact hlt)))
 have hfz:=hfz4 al
 obtain ⟨ho5,hb5⟩:=ho4.setLocal (q:=al) (un HR1).lt hjp' (show V4 (.locals i j)=.slice (some ⟨gl,0,none⟩) (frAt s1 i j).locals.length cpl by rw [un HLO,un HLL]; exact el') z
 have HO5:=hide ho5
 have HB5:=hide (Below.trans (Below.trans (un HB3) (Below.trans (Below.drew (Below.refl _ w3)) hb4)) hb5)
 have HS4:=hide (And.intro (Zb LX4 1) m4)
 refine hK.out _ _ (fun _=>un HS4) ?_
 clear hK K ho4 hb4 hf4 hvb4 hh4 hV4 LX4 hrow4 hVl eg4 m4 el' hcell4 hfz4 ho5 hb5 hHeld
 try simp only [PS]
 refine Zn (i:=8) rfl (by kernel_rfl) (fun K hK=>?_)
 go_simp
 refine hK.out _ _ (fun _=>un HS4) ?_
 clear hK K
 try simp only [PS]
 refine Zn (i:=9) rfl (by kernel_rfl) (fun K hK=>?_)
 go_simp
 refine hK.out _ _ (fun h=>absurd rfl h) ?_
 clear hK K
 refine Xx (by kernel_rfl) ?_ _
 go_wp2
 go_ret
 unfold Qc
 rw [← un HR]
 exact ⟨rfl,un HB5,fun _=>⟨V4,un HO5⟩⟩
theorem fiber_added (base bs:Nat) (V:Key→Value) (s:St) (fn:Int) (lo:Nat) (w:World) (h:OwnVar base w bs V s) (hfr:s.fibers.length≤1000) (hlo:lo≤1000) :
  ∃ v' w',(Builtin.append_ #[23,23] 23 #[V .fibers,.slice (some ⟨w.heap.size + 1 + 1,0,none⟩) 1 1]).run Tryz.prog
    (((w.alloc (.cells ((List.replicate lo (0:Int)).map (fun z=>Value.int .i64 z)).toArray 3)).alloc (.cells #[.int .i64 fn,.int .i64 0,.slice (some ⟨w.heap.size,0,none⟩) lo lo,.slice none 0 0] 48)).alloc (.cells #[.slice (some ⟨w.heap.size + 1,0,none⟩) 1 1,.int .i64 (-1)] 46)).drew=.ok v' w' ∧
   (∃ o c,v'=.slice o (s.fibers.length + 1) c)∧(∃ V',OwnVar base (w'.setCell ⟨bs,0,none⟩ v') bs V' { s with fibers:=s.fibers++[⟨[⟨fn,0,List.replicate lo 0,[]⟩],-1⟩] })∧Below base w w' ∧
   (∀ b,b < w.heap.size→(V .fibers).ownBlock≠some b→w'.heap[b]?=w.heap[b]?):=by
 generalize hoL:Obj.cells ((List.replicate lo (0:Int)).map (fun z=>Value.int .i64 z)).toArray 3=oL
 generalize hoF:Obj.cells #[.int .i64 fn,.int .i64 0,.slice (some ⟨w.heap.size,0,none⟩) lo lo,.slice none 0 0] 48=oF
 generalize hoB:Obj.cells #[.slice (some ⟨w.heap.size + 1,0,none⟩) 1 1,.int .i64 (-1)] 46=oB
 have lL:(((w.alloc oL).alloc oF).alloc oB).drew.heap[w.heap.size]?=some (.cells (ints (List.replicate lo 0)).toArray 3):=by rw [← hoL]; exact Zt (Zg (Zg (Zd rfl) _) _)
 have lF:(((w.alloc oL).alloc oF).alloc oB).drew.heap[w.heap.size + 1]?=some (.cells #[.int .i64 fn,.int .i64 0,.slice (some ⟨w.heap.size,0,none⟩) (List.replicate lo (0:Int)).length (List.replicate lo (0:Int)).length,.slice none 0 0] 48):=by rw [List.length_replicate,hoF]; exact Zt (Zg (Zd (by simp)) _)
 have lB:(((w.alloc oL).alloc oF).alloc oB).drew.heap[w.heap.size + 1 + 1]?=some (.cells #[.slice (some ⟨w.heap.size + 1,0,none⟩) 1 1,.int .i64 (-1)] 46):=by rw [hoB]; exact Zt (Zd (by simp))
 have hku:Kept w (((w.alloc oL).alloc oF).alloc oB).drew:=((((Kept.refl w).alloc _).alloc _).alloc _).drew
 have hu:=h.kept hku
 have hbw:=lt_of_block h.var
 have hlow:=h.low
 obtain ⟨v',w',V',h1,h2,h3,h4,_⟩:=fiber_comes hu hfr ⟨fn,0,List.replicate lo 0,[]⟩ (-1) rfl (by simpa using hlo) lL (h.own.new_off (.inl (Nat.le_refl _))) (by omega) (by omega) lF (h.own.new_off (.inl (by omega))) (by omega) (by omega) (by omega) lB
 exact ⟨v',w',h1,h2,⟨V',h3⟩,Below.grown (h.below hku) h4 (by have:=lt_of_block hu.var; omega) (fun r hr=>((hu.own.piece .fibers trivial).block r hr).1),fun b hb hne=>(h4.block b (Nat.lt_of_lt_of_le hb hku.size) (fun e=>hne e.symm)).trans (hku.block b hb)⟩
end Go.Proofs.YtblihfpigjiahaaGreatDoor
