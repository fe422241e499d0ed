/- StepM0, StepM1, StepM2 -/
import Derived.Test.YtblihfpigjiahaaGreatDoorZB32
import Derived.Deep.RegionHeld3
import Derived.Test.YtblihfpigjiahaaGreatDoorZB22
import Derived.Test.YtblihfpigjiahaaGreatDoorZB18
set_option maxRecDepth 100000
set_option maxHeartbeats 8000000
namespace Go.Proofs.YtblihfpigjiahaaGreatDoor
open Go.RowKit
theorem done_push (base bs:Nat) (V:Key→Value) (s:St) (i cp bp op n fi ai cb co cl cc:Nat) (a:Int) (w:World) (h:OwnVar base w bs V s) (hd:DoAt base w s i bp op n fi ai cb co cl cc 0 a) :
  Calls Tryz.prog 61 #[.slice (some ⟨bp,op,none⟩) n cp,.pointer (some ⟨bs,0,none⟩)] w fun e w'=>Qc base bs  (Zp (Ze s i ai) i a,0) w e w':=by
 obtain ⟨hn,hr,hfn,hat,hfin,hain,hcl,hpc⟩:=hd
 have hj:(Za s i).frames.length - 1 < (Za s i).frames.length:=by have:=hr.fr; omega
 obtain ⟨g,cap,eg,htop⟩:=Qs h hr.lt hr.fr hr.frs
 obtain ⟨b0,b1,_,_⟩:=h.cells
 rw [hn] at b1
 have HTOP:=hide htop
 have HO:=hide h
 have HPC:=hide hpc
 have HRU:=hide hr
 have HNX:=hide (Qv hn hr ai)
 have HEG:=hide eg
 have hf1:(fi:Int) < (n:Int):=by omega
 have hf0:(0:Int)≤(fi:Int):=by omega
 have ha1:(ai:Int) < (cl:Int):=by omega
 have ha0:(0:Int)≤(ai:Int):=by omega
 have hwa:IntKind.i64.wrap ((ai:Int) + 1)=(ai:Int) + 1:=by rw [IntKind.wrap_i64]; omega
 generalize hjj:(Za s i).frames.length - 1=j at *
 have HJJ:=hide hjj
 clear htop h hpc hr eg hjj
 go_enter Tryz.func61,Tryz.ntmps61
 go_wp2_with fail
 refine (un HTOP).mono ?_
 rintro _ _ ⟨rfl,m0,rfl⟩
 have ho1:OwnVar base (w.drewN m0) bs V s:=(un HO).same rfl
 have hb1:Below base w (w.drewN m0):=below_drewN (Below.refl _ _) m0
 generalize w.drewN m0=w1 at ho1 hb1 ⊢
 obtain ⟨g',cap',eg',hcap,k0,k1,k2,k3,fz,hbg⟩:=ho1.own.fr (i:=i) (j:=j) (un HRU).lt hj
 have hVg:V (.frames i)=.slice (some ⟨g,0,none⟩) (Za s i).frames.length cap:=un HEG
 obtain ⟨rfl,rfl⟩:g=g'∧cap=cap':=by rw [hVg] at eg'; simpa using eg'
 rw [hfn] at k0
 rw [hat] at k1
 obtain ⟨x0,x1,x2⟩:=(un HPC) w1 hb1
 have HY:Hid (∀ u,Kept w1 u→u.cell? ⟨g,j * 4,none⟩=some (.int .i64 fi)∧u.cell? ⟨g,j * 4 + 1,none⟩=some (.int .i64 ai)∧u.cell? ⟨bp,op + fi * 3 + 2,none⟩=some (.slice (some ⟨cb,co,none⟩) cl cc)∧u.cell? ⟨cb,co + ai * 2,none⟩=some (.int .i64 0)∧u.cell? ⟨cb,co + ai * 2 + 1,none⟩=some (.int .i64 a)):=hide (fun u hu=>⟨hu.cell k0,hu.cell k1,hu.cell x0,hu.cell x1,hu.cell x2⟩)
 have HO1:=hide ho1
 have HB1:=hide hb1
 have hgl:=Xd k0
 simp only at hgl
 have HGL:=hide hgl
 have hlow:=ho1.low
 have hbw:=lt_of_block ho1.var
 clear ho1 hb1 k0 k1 k2 k3 x0 x1 x2 fz eg' hgl HTOP
 go_wp2_with fail
 go_region_held3 (fun u=>u.cell? ⟨g,j * 4,none⟩=some (.int .i64 fi)∧u.cell? ⟨g,j * 4 + 1,none⟩=some (.int .i64 ai)∧u.cell? ⟨bp,op + fi * 3 + 2,none⟩=some (.slice (some ⟨cb,co,none⟩) cl cc)∧u.cell? ⟨cb,co + ai * 2,none⟩=some (.int .i64 0)∧u.cell? ⟨cb,co + ai * 2 + 1,none⟩=some (.int .i64 a)) (exact (un HY) _ (by repeat (first | exact Kept.refl _ | refine Kept.drew ?_ | refine Kept.alloc ?_ _ | refine Kept.setCell ?_ (by simp) _))) (fail)
 rename_i hheld
 clear hheld HY
 have LX:(w1.alloc (.cells #[.int .i64 0,.int .i64 a] 66)).drew.heap[w1.heap.size]?=some (.cells #[.int .i64 0,.int .i64 a] 66):=Zt (Zd rfl)
 have ho2:OwnVar base (w1.alloc (.cells #[.int .i64 0,.int .i64 a] 66)).drew bs V s:=((un HO1).alloc _).same rfl
 have hb2:Below base w (w1.alloc (.cells #[.int .i64 0,.int .i64 a] 66)).drew:=(Below.alloc (un HB1) (by omega) _).drew
 have hoffX:Own.off V s w1.heap.size:=(un HO1).own.new_off (.inl (Nat.le_refl _))
 have hXb:base≤w1.heap.size:=by omega
 have hXs:bs≠w1.heap.size:=by omega
 have hXg:w1.heap.size≠g:=by have:=un HGL; omega
 generalize (w1.alloc (.cells #[.int .i64 0,.int .i64 a] 66)).drew=w2 at LX ho2 hb2 ⊢
 generalize w1.heap.size=X at LX hoffX hXb hXs hXg ⊢
 obtain ⟨_,_,eg2,_,_,k1,k2,_,fz,hbg2⟩:=ho2.own.fr (i:=i) (j:=j) (un HRU).lt hj
 obtain ⟨rfl,rfl⟩:=(by rw [hVg] at eg2; simpa using eg2:g=_∧cap=_)
 rw [hat] at k1
 have fz1:=fz (j * 4 + 1)
 obtain ⟨ho3,hb3⟩:=ho2.setAt (un HRU).lt hj hVg ((ai:Int) + 1)
 have ho3':OwnVar base (w2.setCell ⟨g,j * 4 + 1,none⟩ (.int .i64 ((ai:Int) + 1))) bs V (Ze s i ai):=by unfold Ze; rw [un HJJ]; exact ho3
 have LX3:=Xz LX (a:=⟨g,j * 4 + 1,none⟩) hXg (.int .i64 ((ai:Int) + 1))
 have y0:=Zb LX3 0
 have y1:=Zb LX3 1
 have HO3:=hide ho3'
 have HB3:=hide (Below.trans hb2 hb3)
 have HLX:=hide LX3
 have HOX:=hide hoffX
 clear ho2 hb2 ho3 ho3' hb3 LX LX3 fz eg2 HO1 HB1 HO hoffX
 go_wp2_with fail
 generalize w2.setCell ⟨g,j * 4 + 1,none⟩ (.int .i64 ((ai:Int) + 1))=w3 at HO3 HB3 y0 y1 HLX ⊢
 obtain ⟨n1,n2,n3,n4,n5,n6,n7,n8⟩:=un HNX
 obtain ⟨_,c1,_,_⟩:=(un HO3).cells
 rw [n1] at c1
 have HPU:=hide (fun (u:World) (hu:u.heap=w3.heap)=>push_any base bs V (Ze s i ai) i a u ((un HO3).same hu) n8.lt n8.fr n8.frs n8.st)
 have HYS:Hid (∀ u,Kept w3 u→u.cell? ⟨bs,1,none⟩=some (.int .i64 i)∧u.cell? ⟨X,1,none⟩=some (.int .i64 a)):=hide (fun u hu=>⟨hu.cell c1,hu.cell y1⟩)
 clear c1 n1 n2 n3 n4 n5 n6 n7 n8 y0 y1
 refine Kf 7 (fun u=>u.cell? ⟨bs,1,none⟩=some (.int .i64 i)∧u.cell? ⟨X,1,none⟩=some (.int .i64 a)) (by kernel_rfl) ?_
 have hHeld:=(un HYS) _ (Kept.refl w3).drew
 refine Zq (i:=0) (v:=?_) rfl (by kernel_rfl) (by kernel_rfl) (by kernel_rfl) (by kernel_rfl) (fun _ _ _ h=>h) (by rfl) (fun u hSu=>?_) hHeld ?_
 rotate_left
 ·((try dsimp only at hSu); go_simp) <;> with_reducible rfl
 try simp only [PS]
 refine Zq (i:=1) (v:=?_) rfl (by kernel_rfl) (by kernel_rfl) (by kernel_rfl) (by kernel_rfl) (fun _ _ _ h=>h) (by rfl) (fun u hSu=>?_) hHeld ?_
 rotate_left
 ·((try dsimp only at hSu); go_simp) <;> with_reducible rfl
 try simp only [PS]
 refine Zq (i:=2) (v:=?_) rfl (by kernel_rfl) (by kernel_rfl) (by kernel_rfl) (by kernel_rfl) (fun _ _ _ h=>h) (by rfl) (fun u hSu=>?_) hHeld ?_
 rotate_left
 ·((try dsimp only at hSu); go_simp) <;> with_reducible rfl
 try simp only [PS]
 refine Zq (i:=3) (v:=?_) rfl (by kernel_rfl) (by kernel_rfl) (by kernel_rfl) (by kernel_rfl) (fun _ _ _ h=>h) (by rfl) (fun u hSu=>?_) hHeld ?_
 rotate_left
 ·((try dsimp only at hSu); go_simp) <;> with_reducible rfl
 try simp only [PS]
 refine Zq (i:=4) (v:=?_) rfl (by kernel_rfl) (by kernel_rfl) (by kernel_rfl) (by kernel_rfl) (fun _ _ _ h=>h) (by rfl) (fun u hSu=>?_) hHeld ?_
 rotate_left
 ·((try dsimp only at hSu); go_simp) <;> with_reducible rfl
 try simp only [PS]
 refine Zq (i:=5) (v:=?_) rfl (by kernel_rfl) (by kernel_rfl) (by kernel_rfl) (by kernel_rfl) (fun _ _ _ h=>h) (by rfl) (fun u hSu=>?_) hHeld ?_
 rotate_left
 ·((try dsimp only at hSu); go_simp) <;> with_reducible rfl
 try simp only [PS]
 refine Zq (i:=6) (v:=?_) rfl (by kernel_rfl) (by kernel_rfl) (by kernel_rfl) (by kernel_rfl) (fun _ _ _ h=>h) (by rfl) (fun u hSu=>?_) hHeld ?_
 rotate_left
 ·((try dsimp only at hSu); go_simp) <;> with_reducible rfl
 try simp only [PS]
 refine Zn (i:=7) rfl (by kernel_rfl) (fun K hK=>?_)
 go_simp
 refine ((un HPU) w3.drew rfl).mono ?_
 rintro _ w4 ⟨rfl,V4,ho4,hb4⟩
 refine hK.out _ _ (fun h=>absurd rfl h) ?_
 clear hK K
 refine Xx (by kernel_rfl) ?_ _
 clear hHeld
 have HO4:=hide ho4
 have HB4:=hide (Below.trans (Below.drew (Below.refl _ w3)) hb4)
 clear ho4 hb4 HPU HYS
 go_wp2
 go_ret
 exact ⟨rfl,Below.trans (un HB3) (un HB4),fun _=>⟨V4,un HO4⟩⟩
theorem done_pop (base bs:Nat) (V:Key→Value) (s:St) (i cp bp op n fi ai cb co cl cc:Nat) (a:Int) (w:World) (h:OwnVar base w bs V s) (hd:DoAt base w s i bp op n fi ai cb co cl cc 1 a) (hst0:0 < (frAt s i ((Za s i).frames.length - 1)).stack.length) :
  Calls Tryz.prog 61 #[.slice (some ⟨bp,op,none⟩) n cp,.pointer (some ⟨bs,0,none⟩)] w fun e w'=>Qc base bs (Zc (Ze s i ai),0) w e w':=by
 obtain ⟨hn,hr,hfn,hat,hfin,hain,hcl,hpc⟩:=hd
 have hj:(Za s i).frames.length - 1 < (Za s i).frames.length:=by have:=hr.fr; omega
 obtain ⟨g,cap,eg,htop⟩:=Qs h hr.lt hr.fr hr.frs
 obtain ⟨b0,b1,_,_⟩:=h.cells
 rw [hn] at b1
 have HTOP:=hide htop
 have HO:=hide h
 have HPC:=hide hpc
 have HRU:=hide hr
 have HNX:=hide (Qv hn hr ai)
 have HEG:=hide eg
 have hf1:(fi:Int) < (n:Int):=by omega
 have hf0:(0:Int)≤(fi:Int):=by omega
 have ha1:(ai:Int) < (cl:Int):=by omega
 have ha0:(0:Int)≤(ai:Int):=by omega
 have hwa:IntKind.i64.wrap ((ai:Int) + 1)=(ai:Int) + 1:=by rw [IntKind.wrap_i64]; omega
 generalize hjj:(Za s i).frames.length - 1=j at *
 have HJJ:=hide hjj
 clear htop h hpc hr eg hjj
 go_enter Tryz.func61,Tryz.ntmps61
 go_wp2_with fail
 refine (un HTOP).mono ?_
 rintro _ _ ⟨rfl,m0,rfl⟩
 have ho1:OwnVar base (w.drewN m0) bs V s:=(un HO).same rfl
 have hb1:Below base w (w.drewN m0):=below_drewN (Below.refl _ _) m0
 generalize w.drewN m0=w1 at ho1 hb1 ⊢
 obtain ⟨g',cap',eg',hcap,k0,k1,k2,k3,fz,hbg⟩:=ho1.own.fr (i:=i) (j:=j) (un HRU).lt hj
 have hVg:V (.frames i)=.slice (some ⟨g,0,none⟩) (Za s i).frames.length cap:=un HEG
 obtain ⟨rfl,rfl⟩:g=g'∧cap=cap':=by rw [hVg] at eg'; simpa using eg'
 rw [hfn] at k0
 rw [hat] at k1
 obtain ⟨x0,x1,x2⟩:=(un HPC) w1 hb1
 have HY:Hid (∀ u,Kept w1 u→u.cell? ⟨g,j * 4,none⟩=some (.int .i64 fi)∧u.cell? ⟨g,j * 4 + 1,none⟩=some (.int .i64 ai)∧u.cell? ⟨bp,op + fi * 3 + 2,none⟩=some (.slice (some ⟨cb,co,none⟩) cl cc)∧u.cell? ⟨cb,co + ai * 2,none⟩=some (.int .i64 1)∧u.cell? ⟨cb,co + ai * 2 + 1,none⟩=some (.int .i64 a)):=hide (fun u hu=>⟨hu.cell k0,hu.cell k1,hu.cell x0,hu.cell x1,hu.cell x2⟩)
 have HO1:=hide ho1
 have HB1:=hide hb1
 have hgl:=Xd k0
 simp only at hgl
 have HGL:=hide hgl
 have hlow:=ho1.low
 have hbw:=lt_of_block ho1.var
 clear ho1 hb1 k0 k1 k2 k3 x0 x1 x2 fz eg' hgl HTOP
 go_wp2_with fail
 go_region_held3 (fun u=>u.cell? ⟨g,j * 4,none⟩=some (.int .i64 fi)∧u.cell? ⟨g,j * 4 + 1,none⟩=some (.int .i64 ai)∧u.cell? ⟨bp,op + fi * 3 + 2,none⟩=some (.slice (some ⟨cb,co,none⟩) cl cc)∧u.cell? ⟨cb,co + ai * 2,none⟩=some (.int .i64 1)∧u.cell? ⟨cb,co + ai * 2 + 1,none⟩=some (.int .i64 a)) (exact (un HY) _ (by repeat (first | exact Kept.refl _ | refine Kept.drew ?_ | refine Kept.alloc ?_ _ | refine Kept.setCell ?_ (by simp) _))) (fail)
 rename_i hheld
 clear hheld HY
 have LX:(w1.alloc (.cells #[.int .i64 1,.int .i64 a] 66)).drew.heap[w1.heap.size]?=some (.cells #[.int .i64 1,.int .i64 a] 66):=Zt (Zd rfl)
 have ho2:OwnVar base (w1.alloc (.cells #[.int .i64 1,.int .i64 a] 66)).drew bs V s:=((un HO1).alloc _).same rfl
 have hb2:Below base w (w1.alloc (.cells #[.int .i64 1,.int .i64 a] 66)).drew:=(Below.alloc (un HB1) (by omega) _).drew
 have hoffX:Own.off V s w1.heap.size:=(un HO1).own.new_off (.inl (Nat.le_refl _))
 have hXb:base≤w1.heap.size:=by omega
 have hXs:bs≠w1.heap.size:=by omega
 have hXg:w1.heap.size≠g:=by have:=un HGL; omega
 generalize (w1.alloc (.cells #[.int .i64 1,.int .i64 a] 66)).drew=w2 at LX ho2 hb2 ⊢
 generalize w1.heap.size=X at LX hoffX hXb hXs hXg ⊢
 obtain ⟨_,_,eg2,_,_,k1,k2,_,fz,hbg2⟩:=ho2.own.fr (i:=i) (j:=j) (un HRU).lt hj
 obtain ⟨rfl,rfl⟩:=(by rw [hVg] at eg2; simpa using eg2:g=_∧cap=_)
 rw [hat] at k1
 have fz1:=fz (j * 4 + 1)
 obtain ⟨ho3,hb3⟩:=ho2.setAt (un HRU).lt hj hVg ((ai:Int) + 1)
 have ho3':OwnVar base (w2.setCell ⟨g,j * 4 + 1,none⟩ (.int .i64 ((ai:Int) + 1))) bs V (Ze s i ai):=by unfold Ze; rw [un HJJ]; exact ho3
 have LX3:=Xz LX (a:=⟨g,j * 4 + 1,none⟩) hXg (.int .i64 ((ai:Int) + 1))
 have y0:=Zb LX3 0
 have y1:=Zb LX3 1
 have HO3:=hide ho3'
 have HB3:=hide (Below.trans hb2 hb3)
 have HLX:=hide LX3
 have HOX:=hide hoffX
 clear ho2 hb2 ho3 ho3' hb3 LX LX3 fz eg2 HO1 HB1 HO hoffX
 go_wp2_with fail
 generalize w2.setCell ⟨g,j * 4 + 1,none⟩ (.int .i64 ((ai:Int) + 1))=w3 at HO3 HB3 y0 y1 HLX ⊢
 obtain ⟨n1,n2,n3,n4,n5,n6,n7,n8⟩:=un HNX
 have hjn:(Za (Ze s i ai) i).frames.length - 1=j:=by rw [n5]; exact un HJJ
 have HPL:=hide (Kj base bs V (Ze s i ai) i w3 (un HO3) n1 n8.lt n8.fr n8.frs n8.st (by rw [hjn,n6]; exact hst0))
 clear n1 n2 n3 n4 n5 n6 n7 n8 y0 y1
 refine (un HPL).mono ?_
 rintro _ w4 ⟨rfl,V4,ho4,hb4,_,_,_⟩
 have HO4:=hide ho4
 have HB4:=hide hb4
 clear ho4 hb4 HPL
 go_wp2
 go_ret
 exact ⟨rfl,Below.trans (un HB3) (un HB4),fun _=>⟨V4,un HO4⟩⟩
theorem done_jump (base bs:Nat) (V:Key→Value) (s:St) (i cp bp op n fi ai cb co cl cc:Nat) (a:Int) (w:World) (h:OwnVar base w bs V s) (hd:DoAt base w s i bp op n fi ai cb co cl cc 9 a) :
  Calls Tryz.prog 61 #[.slice (some ⟨bp,op,none⟩) n cp,.pointer (some ⟨bs,0,none⟩)] w fun e w'=>Qc base bs (setAt (Ze s i ai) a,0) w e w':=by
 obtain ⟨hn,hr,hfn,hat,hfin,hain,hcl,hpc⟩:=hd
 have hj:(Za s i).frames.length - 1 < (Za s i).frames.length:=by have:=hr.fr; omega
 obtain ⟨g,cap,eg,htop⟩:=Qs h hr.lt hr.fr hr.frs
 obtain ⟨b0,b1,_,_⟩:=h.cells
 rw [hn] at b1
 have HTOP:=hide htop
 have HO:=hide h
 have HPC:=hide hpc
 have HRU:=hide hr
 have HNX:=hide (Qv hn hr ai)
 have HEG:=hide eg
 have hf1:(fi:Int) < (n:Int):=by omega
 have hf0:(0:Int)≤(fi:Int):=by omega
 have ha1:(ai:Int) < (cl:Int):=by omega
 have ha0:(0:Int)≤(ai:Int):=by omega
 have hwa:IntKind.i64.wrap ((ai:Int) + 1)=(ai:Int) + 1:=by rw [IntKind.wrap_i64]; omega
 generalize hjj:(Za s i).frames.length - 1=j at *
 have HJJ:=hide hjj
 clear htop h hpc hr eg hjj
 go_enter Tryz.func61,Tryz.ntmps61
 go_wp2_with fail
 refine (un HTOP).mono ?_
 rintro _ _ ⟨rfl,m0,rfl⟩
 have ho1:OwnVar base (w.drewN m0) bs V s:=(un HO).same rfl
 have hb1:Below base w (w.drewN m0):=below_drewN (Below.refl _ _) m0
 generalize w.drewN m0=w1 at ho1 hb1 ⊢
 obtain ⟨g',cap',eg',hcap,k0,k1,k2,k3,fz,hbg⟩:=ho1.own.fr (i:=i) (j:=j) (un HRU).lt hj
 have hVg:V (.frames i)=.slice (some ⟨g,0,none⟩) (Za s i).frames.length cap:=un HEG
 obtain ⟨rfl,rfl⟩:g=g'∧cap=cap':=by rw [hVg] at eg'; simpa using eg'
 rw [hfn] at k0
 rw [hat] at k1
 obtain ⟨x0,x1,x2⟩:=(un HPC) w1 hb1
 have HY:Hid (∀ u,Kept w1 u→u.cell? ⟨g,j * 4,none⟩=some (.int .i64 fi)∧u.cell? ⟨g,j * 4 + 1,none⟩=some (.int .i64 ai)∧u.cell? ⟨bp,op + fi * 3 + 2,none⟩=some (.slice (some ⟨cb,co,none⟩) cl cc)∧u.cell? ⟨cb,co + ai * 2,none⟩=some (.int .i64 9)∧u.cell? ⟨cb,co + ai * 2 + 1,none⟩=some (.int .i64 a)):=hide (fun u hu=>⟨hu.cell k0,hu.cell k1,hu.cell x0,hu.cell x1,hu.cell x2⟩)
 have HO1:=hide ho1
 have HB1:=hide hb1
 have hgl:=Xd k0
 simp only at hgl
 have HGL:=hide hgl
 have hlow:=ho1.low
 have hbw:=lt_of_block ho1.var
 clear ho1 hb1 k0 k1 k2 k3 x0 x1 x2 fz eg' hgl HTOP
 go_wp2_with fail
 go_region_held3 (fun u=>u.cell? ⟨g,j * 4,none⟩=some (.int .i64 fi)∧u.cell? ⟨g,j * 4 + 1,none⟩=some (.int .i64 ai)∧u.cell? ⟨bp,op + fi * 3 + 2,none⟩=some (.slice (some ⟨cb,co,none⟩) cl cc)∧u.cell? ⟨cb,co + ai * 2,none⟩=some (.int .i64 9)∧u.cell? ⟨cb,co + ai * 2 + 1,none⟩=some (.int .i64 a)) (exact (un HY) _ (by repeat (first | exact Kept.refl _ | refine Kept.drew ?_ | refine Kept.alloc ?_ _ | refine Kept.setCell ?_ (by simp) _))) (fail)
 rename_i hheld
 clear hheld HY
 have LX:(w1.alloc (.cells #[.int .i64 9,.int .i64 a] 66)).drew.heap[w1.heap.size]?=some (.cells #[.int .i64 9,.int .i64 a] 66):=Zt (Zd rfl)
 have ho2:OwnVar base (w1.alloc (.cells #[.int .i64 9,.int .i64 a] 66)).drew bs V s:=((un HO1).alloc _).same rfl
 have hb2:Below base w (w1.alloc (.cells #[.int .i64 9,.int .i64 a] 66)).drew:=(Below.alloc (un HB1) (by omega) _).drew
 have hoffX:Own.off V s w1.heap.size:=(un HO1).own.new_off (.inl (Nat.le_refl _))
 have hXb:base≤w1.heap.size:=by omega
 have hXs:bs≠w1.heap.size:=by omega
 have hXg:w1.heap.size≠g:=by have:=un HGL; omega
 generalize (w1.alloc (.cells #[.int .i64 9,.int .i64 a] 66)).drew=w2 at LX ho2 hb2 ⊢
 generalize w1.heap.size=X at LX hoffX hXb hXs hXg ⊢
 obtain ⟨_,_,eg2,_,_,k1,k2,_,fz,hbg2⟩:=ho2.own.fr (i:=i) (j:=j) (un HRU).lt hj
 obtain ⟨rfl,rfl⟩:=(by rw [hVg] at eg2; simpa using eg2:g=_∧cap=_)
 rw [hat] at k1
 have fz1:=fz (j * 4 + 1)
 obtain ⟨ho3,hb3⟩:=ho2.setAt (un HRU).lt hj hVg ((ai:Int) + 1)
 have ho3':OwnVar base (w2.setCell ⟨g,j * 4 + 1,none⟩ (.int .i64 ((ai:Int) + 1))) bs V (Ze s i ai):=by unfold Ze; rw [un HJJ]; exact ho3
 have LX3:=Xz LX (a:=⟨g,j * 4 + 1,none⟩) hXg (.int .i64 ((ai:Int) + 1))
 have y0:=Zb LX3 0
 have y1:=Zb LX3 1
 have HO3:=hide ho3'
 have HB3:=hide (Below.trans hb2 hb3)
 have HLX:=hide LX3
 have HOX:=hide hoffX
 clear ho2 hb2 ho3 ho3' hb3 LX LX3 fz eg2 HO1 HB1 HO hoffX
 obtain ⟨n1,n2,n3,n4,n5,n6,n7,n8⟩:=un HNX
 have hjn:(Za (Ze s i ai) i).frames.length - 1=j:=by rw [n5]; exact un HJJ
 have hjn':j < (Za (Ze s i ai) i).frames.length:=by rw [n5]; exact hj
 obtain ⟨g3,cap3,eg3,_,_,m1,_,_,fz3,_⟩:=(un HO3).own.fr (i:=i) (j:=j) n8.lt hjn'
 obtain ⟨rfl,rfl⟩:g=g3∧cap=cap3:=by rw [hVg,n5] at eg3; simpa using eg3
 have fzj:=fz3 (j * 4 + 1)
 obtain ⟨ho4,hb4⟩:=(un HO3).setAt n8.lt hjn' (show V (.frames i)=.slice (some ⟨g,0,none⟩) (Za (Ze s i ai) i).frames.length cap by rw [n5]; exact hVg) a
 have HO4:Hid (OwnVar base ((w2.setCell ⟨g,j * 4 + 1,none⟩ (.int .i64 ((ai:Int) + 1))).setCell ⟨g,j * 4 + 1,none⟩ (.int .i64 a)) bs V (setAt (Ze s i ai) a)):=hide (by rw [setAt_setFr n1,hjn]; exact ho4)
 have HB4:=hide (Below.trans (un HB3) hb4)
 clear n1 n2 n3 n4 n5 n6 n7 n8 ho4 hb4 eg3 fz3
 go_wp2
 go_ret
 exact ⟨rfl,un HB4,fun _=>⟨V,un HO4⟩⟩
theorem done_yield (base bs:Nat) (V:Key→Value) (s:St) (i cp bp op n fi ai cb co cl cc:Nat) (a:Int) (w:World) (h:OwnVar base w bs V s) (hd:DoAt base w s i bp op n fi ai cb co cl cc 15 a) (hst0:0 < (frAt s i ((Za s i).frames.length - 1)).stack.length) (hc:∀ c:Int,(Za s i).caller=c→0≤c→∃ k:Nat,c=k∧k≠i∧Runs s k) :
  Calls Tryz.prog 61 #[.slice (some ⟨bp,op,none⟩) n cp,.pointer (some ⟨bs,0,none⟩)] w fun e w'=>Qc base bs (Je (Ze s i ai)) w e w':=by
 obtain ⟨hn,hr,hfn,hat,hfin,hain,hcl,hpc⟩:=hd
 have hj:(Za s i).frames.length - 1 < (Za s i).frames.length:=by have:=hr.fr; omega
 obtain ⟨g,cap,eg,htop⟩:=Qs h hr.lt hr.fr hr.frs
 obtain ⟨b0,b1,_,_⟩:=h.cells
 rw [hn] at b1
 have HTOP:=hide htop
 have HO:=hide h
 have HPC:=hide hpc
 have HRU:=hide hr
 have HNX:=hide (Qv hn hr ai)
 have HEG:=hide eg
 have hf1:(fi:Int) < (n:Int):=by omega
 have hf0:(0:Int)≤(fi:Int):=by omega
 have ha1:(ai:Int) < (cl:Int):=by omega
 have ha0:(0:Int)≤(ai:Int):=by omega
 have hwa:IntKind.i64.wrap ((ai:Int) + 1)=(ai:Int) + 1:=by rw [IntKind.wrap_i64]; omega
 generalize hjj:(Za s i).frames.length - 1=j at *
 have HJJ:=hide hjj
 clear htop h hpc hr eg hjj
 go_enter Tryz.func61,Tryz.ntmps61
 go_wp2_with fail
 refine (un HTOP).mono ?_
 rintro _ _ ⟨rfl,m0,rfl⟩
 have ho1:OwnVar base (w.drewN m0) bs V s:=(un HO).same rfl
 have hb1:Below base w (w.drewN m0):=below_drewN (Below.refl _ _) m0
 generalize w.drewN m0=w1 at ho1 hb1 ⊢
 obtain ⟨g',cap',eg',hcap,k0,k1,k2,k3,fz,hbg⟩:=ho1.own.fr (i:=i) (j:=j) (un HRU).lt hj
 have hVg:V (.frames i)=.slice (some ⟨g,0,none⟩) (Za s i).frames.length cap:=un HEG
 obtain ⟨rfl,rfl⟩:g=g'∧cap=cap':=by rw [hVg] at eg'; simpa using eg'
 rw [hfn] at k0
 rw [hat] at k1
 obtain ⟨x0,x1,x2⟩:=(un HPC) w1 hb1
 have HY:Hid (∀ u,Kept w1 u→u.cell? ⟨g,j * 4,none⟩=some (.int .i64 fi)∧u.cell? ⟨g,j * 4 + 1,none⟩=some (.int .i64 ai)∧u.cell? ⟨bp,op + fi * 3 + 2,none⟩=some (.slice (some ⟨cb,co,none⟩) cl cc)∧u.cell? ⟨cb,co + ai * 2,none⟩=some (.int .i64 15)∧u.cell? ⟨cb,co + ai * 2 + 1,none⟩=some (.int .i64 a)):=hide (fun u hu=>⟨hu.cell k0,hu.cell k1,hu.cell x0,hu.cell x1,hu.cell x2⟩)
 have HO1:=hide ho1
 have HB1:=hide hb1
 have hgl:=Xd k0
 simp only at hgl
 have HGL:=hide hgl
 have hlow:=ho1.low
 have hbw:=lt_of_block ho1.var
 clear ho1 hb1 k0 k1 k2 k3 x0 x1 x2 fz eg' hgl HTOP
 go_wp2_with fail
 go_region_held3 (fun u=>u.cell? ⟨g,j * 4,none⟩=some (.int .i64 fi)∧u.cell? ⟨g,j * 4 + 1,none⟩=some (.int .i64 ai)∧u.cell? ⟨bp,op + fi * 3 + 2,none⟩=some (.slice (some ⟨cb,co,none⟩) cl cc)∧u.cell? ⟨cb,co + ai * 2,none⟩=some (.int .i64 15)∧u.cell? ⟨cb,co + ai * 2 + 1,none⟩=some (.int .i64 a)) (exact (un HY) _ (by repeat (first | exact Kept.refl _ | refine Kept.drew ?_ | refine Kept.alloc ?_ _ | refine Kept.setCell ?_ (by simp) _))) (fail)
 rename_i hheld
 clear hheld HY
 have LX:(w1.alloc (.cells #[.int .i64 15,.int .i64 a] 66)).drew.heap[w1.heap.size]?=some (.cells #[.int .i64 15,.int .i64 a] 66):=Zt (Zd rfl)
 have ho2:OwnVar base (w1.alloc (.cells #[.int .i64 15,.int .i64 a] 66)).drew bs V s:=((un HO1).alloc _).same rfl
 have hb2:Below base w (w1.alloc (.cells #[.int .i64 15,.int .i64 a] 66)).drew:=(Below.alloc (un HB1) (by omega) _).drew
 have hoffX:Own.off V s w1.heap.size:=(un HO1).own.new_off (.inl (Nat.le_refl _))
 have hXb:base≤w1.heap.size:=by omega
 have hXs:bs≠w1.heap.size:=by omega
 have hXg:w1.heap.size≠g:=by have:=un HGL; omega
 generalize (w1.alloc (.cells #[.int .i64 15,.int .i64 a] 66)).drew=w2 at LX ho2 hb2 ⊢
 generalize w1.heap.size=X at LX hoffX hXb hXs hXg ⊢
 obtain ⟨_,_,eg2,_,_,k1,k2,_,fz,hbg2⟩:=ho2.own.fr (i:=i) (j:=j) (un HRU).lt hj
 obtain ⟨rfl,rfl⟩:=(by rw [hVg] at eg2; simpa using eg2:g=_∧cap=_)
 rw [hat] at k1
 have fz1:=fz (j * 4 + 1)
 obtain ⟨ho3,hb3⟩:=ho2.setAt (un HRU).lt hj hVg ((ai:Int) + 1)
 have ho3':OwnVar base (w2.setCell ⟨g,j * 4 + 1,none⟩ (.int .i64 ((ai:Int) + 1))) bs V (Ze s i ai):=by unfold Ze; rw [un HJJ]; exact ho3
 have LX3:=Xz LX (a:=⟨g,j * 4 + 1,none⟩) hXg (.int .i64 ((ai:Int) + 1))
 have y0:=Zb LX3 0
 have y1:=Zb LX3 1
 have HO3:=hide ho3'
 have HB3:=hide (Below.trans hb2 hb3)
 have HLX:=hide LX3
 have HOX:=hide hoffX
 clear ho2 hb2 ho3 ho3' hb3 LX LX3 fz eg2 HO1 HB1 HO hoffX
 go_wp2_with fail
 generalize w2.setCell ⟨g,j * 4 + 1,none⟩ (.int .i64 ((ai:Int) + 1))=w3 at HO3 HB3 y0 y1 HLX ⊢
 obtain ⟨n1,n2,n3,n4,n5,n6,n7,n8⟩:=un HNX
 have hjn:(Za (Ze s i ai) i).frames.length - 1=j:=by rw [n5]; exact un HJJ
 have hcn:∀ c:Int,(Za (Ze s i ai) i).caller=c→0≤c→∃ k:Nat,c=k∧k≠i∧Runs (Ze s i ai) k:=fun c h1 h2=>by
  rw [n4] at h1
  obtain ⟨k,h3,h4,h5⟩:=hc c h1 h2
  exact ⟨k,h3,h4,next_other ai k h4 h5⟩
 have HC:=hide (yielded_any base bs V (Ze s i ai) i w3 (un HO3) n1 n8 (by rw [hjn,n6]; exact hst0) hcn)
 clear n1 n2 n3 n4 n5 n6 n7 n8 y0 y1
 refine (un HC).mono ?_
 rintro _ w4 ⟨rfl,hb4,ho4⟩
 have HB4:=hide hb4
 have HO4:=hide ho4
 clear hb4 ho4 HC
 generalize hRR:(Je (Ze s i ai))=RR at HO4 ⊢
 have HRR:=hide hRR
 clear hRR
 go_wp2
 go_ret
 unfold Qc
 rw [un HRR]
 exact ⟨rfl,Below.trans (un HB3) (un HB4),un HO4⟩
theorem done_return (base bs:Nat) (V:Key→Value) (s:St) (i cp bp op n fi ai cb co cl cc:Nat) (a:Int) (w:World) (h:OwnVar base w bs V s) (hd:DoAt base w s i bp op n fi ai cb co cl cc 12 a) (hst0:0 < (frAt s i ((Za s i).frames.length - 1)).stack.length) (ho:s.out.length≤30) (hbel:1 < (Za s i).frames.length→(frAt s i ((Za s i).frames.length - 2)).stack.length≤1000) (hc:∀ c:Int,(Za s i).caller=c→0≤c→∃ k:Nat,c=k∧k≠i∧Runs s k) :
  Calls Tryz.prog 61 #[.slice (some ⟨bp,op,none⟩) n cp,.pointer (some ⟨bs,0,none⟩)] w fun e w'=>Qc base bs (givenS (Ze s i ai)) w e w':=by
 obtain ⟨hn,hr,hfn,hat,hfin,hain,hcl,hpc⟩:=hd
 have hj:(Za s i).frames.length - 1 < (Za s i).frames.length:=by have:=hr.fr; omega
 obtain ⟨g,cap,eg,htop⟩:=Qs h hr.lt hr.fr hr.frs
 obtain ⟨b0,b1,_,_⟩:=h.cells
 rw [hn] at b1
 have HTOP:=hide htop
 have HO:=hide h
 have HPC:=hide hpc
 have HRU:=hide hr
 have HNX:=hide (Qv hn hr ai)
 have HEG:=hide eg
 have hf1:(fi:Int) < (n:Int):=by omega
 have hf0:(0:Int)≤(fi:Int):=by omega
 have ha1:(ai:Int) < (cl:Int):=by omega
 have ha0:(0:Int)≤(ai:Int):=by omega
 have hwa:IntKind.i64.wrap ((ai:Int) + 1)=(ai:Int) + 1:=by rw [IntKind.wrap_i64]; omega
 generalize hjj:(Za s i).frames.length - 1=j at *
 have HJJ:=hide hjj
 clear htop h hpc hr eg hjj
 go_enter Tryz.func61,Tryz.ntmps61
 go_wp2_with fail
 refine (un HTOP).mono ?_
 rintro _ _ ⟨rfl,m0,rfl⟩
 have ho1:OwnVar base (w.drewN m0) bs V s:=(un HO).same rfl
 have hb1:Below base w (w.drewN m0):=below_drewN (Below.refl _ _) m0
 generalize w.drewN m0=w1 at ho1 hb1 ⊢
 obtain ⟨g',cap',eg',hcap,k0,k1,k2,k3,fz,hbg⟩:=ho1.own.fr (i:=i) (j:=j) (un HRU).lt hj
 have hVg:V (.frames i)=.slice (some ⟨g,0,none⟩) (Za s i).frames.length cap:=un HEG
 obtain ⟨rfl,rfl⟩:g=g'∧cap=cap':=by rw [hVg] at eg'; simpa using eg'
 rw [hfn] at k0
 rw [hat] at k1
 obtain ⟨x0,x1,x2⟩:=(un HPC) w1 hb1
 have HY:Hid (∀ u,Kept w1 u→u.cell? ⟨g,j * 4,none⟩=some (.int .i64 fi)∧u.cell? ⟨g,j * 4 + 1,none⟩=some (.int .i64 ai)∧u.cell? ⟨bp,op + fi * 3 + 2,none⟩=some (.slice (some ⟨cb,co,none⟩) cl cc)∧u.cell? ⟨cb,co + ai * 2,none⟩=some (.int .i64 12)∧u.cell? ⟨cb,co + ai * 2 + 1,none⟩=some (.int .i64 a)):=hide (fun u hu=>⟨hu.cell k0,hu.cell k1,hu.cell x0,hu.cell x1,hu.cell x2⟩)
 have HO1:=hide ho1
 have HB1:=hide hb1
 have hgl:=Xd k0
 simp only at hgl
 have HGL:=hide hgl
 have hlow:=ho1.low
 have hbw:=lt_of_block ho1.var
 clear ho1 hb1 k0 k1 k2 k3 x0 x1 x2 fz eg' hgl HTOP
 go_wp2_with fail
 go_region_held3 (fun u=>u.cell? ⟨g,j * 4,none⟩=some (.int .i64 fi)∧u.cell? ⟨g,j * 4 + 1,none⟩=some (.int .i64 ai)∧u.cell? ⟨bp,op + fi * 3 + 2,none⟩=some (.slice (some ⟨cb,co,none⟩) cl cc)∧u.cell? ⟨cb,co + ai * 2,none⟩=some (.int .i64 12)∧u.cell? ⟨cb,co + ai * 2 + 1,none⟩=some (.int .i64 a)) (exact (un HY) _ (by repeat (first | exact Kept.refl _ | refine Kept.drew ?_ | refine Kept.alloc ?_ _ | refine Kept.setCell ?_ (by simp) _))) (fail)
 rename_i hheld
 clear hheld HY
 have LX:(w1.alloc (.cells #[.int .i64 12,.int .i64 a] 66)).drew.heap[w1.heap.size]?=some (.cells #[.int .i64 12,.int .i64 a] 66):=Zt (Zd rfl)
 have ho2:OwnVar base (w1.alloc (.cells #[.int .i64 12,.int .i64 a] 66)).drew bs V s:=((un HO1).alloc _).same rfl
 have hb2:Below base w (w1.alloc (.cells #[.int .i64 12,.int .i64 a] 66)).drew:=(Below.alloc (un HB1) (by omega) _).drew
 have hoffX:Own.off V s w1.heap.size:=(un HO1).own.new_off (.inl (Nat.le_refl _))
 have hXb:base≤w1.heap.size:=by omega
 have hXs:bs≠w1.heap.size:=by omega
 have hXg:w1.heap.size≠g:=by have:=un HGL; omega
 generalize (w1.alloc (.cells #[.int .i64 12,.int .i64 a] 66)).drew=w2 at LX ho2 hb2 ⊢
 generalize w1.heap.size=X at LX hoffX hXb hXs hXg ⊢
 obtain ⟨_,_,eg2,_,_,k1,k2,_,fz,hbg2⟩:=ho2.own.fr (i:=i) (j:=j) (un HRU).lt hj
 obtain ⟨rfl,rfl⟩:=(by rw [hVg] at eg2; simpa using eg2:g=_∧cap=_)
 rw [hat] at k1
 have fz1:=fz (j * 4 + 1)
 obtain ⟨ho3,hb3⟩:=ho2.setAt (un HRU).lt hj hVg ((ai:Int) + 1)
 have ho3':OwnVar base (w2.setCell ⟨g,j * 4 + 1,none⟩ (.int .i64 ((ai:Int) + 1))) bs V (Ze s i ai):=by unfold Ze; rw [un HJJ]; exact ho3
 have LX3:=Xz LX (a:=⟨g,j * 4 + 1,none⟩) hXg (.int .i64 ((ai:Int) + 1))
 have y0:=Zb LX3 0
 have y1:=Zb LX3 1
 have HO3:=hide ho3'
 have HB3:=hide (Below.trans hb2 hb3)
 have HLX:=hide LX3
 have HOX:=hide hoffX
 clear ho2 hb2 ho3 ho3' hb3 LX LX3 fz eg2 HO1 HB1 HO hoffX
 go_wp2_with fail
 generalize w2.setCell ⟨g,j * 4 + 1,none⟩ (.int .i64 ((ai:Int) + 1))=w3 at HO3 HB3 y0 y1 HLX ⊢
 obtain ⟨n1,n2,n3,n4,n5,n6,n7,n8⟩:=un HNX
 have hjn:(Za (Ze s i ai) i).frames.length - 1=j:=by rw [n5]; exact un HJJ
 have hcn:∀ c:Int,(Za (Ze s i ai) i).caller=c→0≤c→∃ k:Nat,c=k∧k≠i∧Runs (Ze s i ai) k:=fun c h1 h2=>by
  rw [n4] at h1
  obtain ⟨k,h3,h4,h5⟩:=hc c h1 h2
  exact ⟨k,h3,h4,next_other ai k h4 h5⟩
 have HC:=hide (given_any base bs V (Ze s i ai) i w3 (un HO3) n1 n8 (by rw [hjn,n6]; exact hst0) (by rw [n3]; exact ho) (fun h=>by rw [n5] at h ⊢; rw [(next_fr (un HRU) ai i _).1]; exact hbel h) hcn)
 clear n1 n2 n3 n4 n5 n6 n7 n8 y0 y1
 refine (un HC).mono ?_
 rintro _ w4 ⟨rfl,hb4,ho4⟩
 have HB4:=hide hb4
 have HO4:=hide ho4
 clear hb4 ho4 HC
 generalize hRR:(givenS (Ze s i ai))=RR at HO4 ⊢
 have HRR:=hide hRR
 clear hRR
 go_wp2
 go_ret
 unfold Qc
 rw [un HRR]
 exact ⟨rfl,Below.trans (un HB3) (un HB4),un HO4⟩
theorem done_resume (base bs:Nat) (V:Key→Value) (s:St) (i cp bp op n fi ai cb co cl cc:Nat) (a:Int) (w:World) (h:OwnVar base w bs V s) (hd:DoAt base w s i bp op n fi ai cb co cl cc 14 a) (hst2:1 < (frAt s i ((Za s i).frames.length - 1)).stack.length) (l:List Int) (hft:Fits s) (hcal:∀ b,b∈s.fibers→-1≤b.caller∧b.caller < s.fibers.length) (hl:Xm s=some l) (hil:(i:Int)∈l) (hloc:∀ k:Nat,k < s.fibers.length→(k:Int) ∉ l→0 < (Za s k).frames.length→(frAt s k ((Za s k).frames.length - 1)).at_=0→0 < (frAt s k ((Za s k).frames.length - 1)).locals.length) :
  Calls Tryz.prog 61 #[.slice (some ⟨bp,op,none⟩) n cp,.pointer (some ⟨bs,0,none⟩)] w fun e w'=>Qc base bs (Jo (Ze s i ai)) w e w':=by
 obtain ⟨hn,hr,hfn,hat,hfin,hain,hcl,hpc⟩:=hd
 have hj:(Za s i).frames.length - 1 < (Za s i).frames.length:=by have:=hr.fr; omega
 obtain ⟨g,cap,eg,htop⟩:=Qs h hr.lt hr.fr hr.frs
 obtain ⟨b0,b1,_,_⟩:=h.cells
 rw [hn] at b1
 have HTOP:=hide htop
 have HO:=hide h
 have HPC:=hide hpc
 have HRU:=hide hr
 have HNX:=hide (Qv hn hr ai)
 have HEG:=hide eg
 have hf1:(fi:Int) < (n:Int):=by omega
 have hf0:(0:Int)≤(fi:Int):=by omega
 have ha1:(ai:Int) < (cl:Int):=by omega
 have ha0:(0:Int)≤(ai:Int):=by omega
 have hwa:IntKind.i64.wrap ((ai:Int) + 1)=(ai:Int) + 1:=by rw [IntKind.wrap_i64]; omega
 generalize hjj:(Za s i).frames.length - 1=j at *
 have HJJ:=hide hjj
 clear htop h hpc hr eg hjj
 go_enter Tryz.func61,Tryz.ntmps61
 go_wp2_with fail
 refine (un HTOP).mono ?_
 rintro _ _ ⟨rfl,m0,rfl⟩
 have ho1:OwnVar base (w.drewN m0) bs V s:=(un HO).same rfl
 have hb1:Below base w (w.drewN m0):=below_drewN (Below.refl _ _) m0
 generalize w.drewN m0=w1 at ho1 hb1 ⊢
 obtain ⟨g',cap',eg',hcap,k0,k1,k2,k3,fz,hbg⟩:=ho1.own.fr (i:=i) (j:=j) (un HRU).lt hj
 have hVg:V (.frames i)=.slice (some ⟨g,0,none⟩) (Za s i).frames.length cap:=un HEG
 obtain ⟨rfl,rfl⟩:g=g'∧cap=cap':=by rw [hVg] at eg'; simpa using eg'
 rw [hfn] at k0
 rw [hat] at k1
 obtain ⟨x0,x1,x2⟩:=(un HPC) w1 hb1
 have HY:Hid (∀ u,Kept w1 u→u.cell? ⟨g,j * 4,none⟩=some (.int .i64 fi)∧u.cell? ⟨g,j * 4 + 1,none⟩=some (.int .i64 ai)∧u.cell? ⟨bp,op + fi * 3 + 2,none⟩=some (.slice (some ⟨cb,co,none⟩) cl cc)∧u.cell? ⟨cb,co + ai * 2,none⟩=some (.int .i64 14)∧u.cell? ⟨cb,co + ai * 2 + 1,none⟩=some (.int .i64 a)):=hide (fun u hu=>⟨hu.cell k0,hu.cell k1,hu.cell x0,hu.cell x1,hu.cell x2⟩)
 have HO1:=hide ho1
 have HB1:=hide hb1
 have hgl:=Xd k0
 simp only at hgl
 have HGL:=hide hgl
 have hlow:=ho1.low
 have hbw:=lt_of_block ho1.var
 clear ho1 hb1 k0 k1 k2 k3 x0 x1 x2 fz eg' hgl HTOP
 go_wp2_with fail
 go_region_held3 (fun u=>u.cell? ⟨g,j * 4,none⟩=some (.int .i64 fi)∧u.cell? ⟨g,j * 4 + 1,none⟩=some (.int .i64 ai)∧u.cell? ⟨bp,op + fi * 3 + 2,none⟩=some (.slice (some ⟨cb,co,none⟩) cl cc)∧u.cell? ⟨cb,co + ai * 2,none⟩=some (.int .i64 14)∧u.cell? ⟨cb,co + ai * 2 + 1,none⟩=some (.int .i64 a)) (exact (un HY) _ (by repeat (first | exact Kept.refl _ | refine Kept.drew ?_ | refine Kept.alloc ?_ _ | refine Kept.setCell ?_ (by simp) _))) (fail)
 rename_i hheld
 clear hheld HY
 have LX:(w1.alloc (.cells #[.int .i64 14,.int .i64 a] 66)).drew.heap[w1.heap.size]?=some (.cells #[.int .i64 14,.int .i64 a] 66):=Zt (Zd rfl)
 have ho2:OwnVar base (w1.alloc (.cells #[.int .i64 14,.int .i64 a] 66)).drew bs V s:=((un HO1).alloc _).same rfl
 have hb2:Below base w (w1.alloc (.cells #[.int .i64 14,.int .i64 a] 66)).drew:=(Below.alloc (un HB1) (by omega) _).drew
 have hoffX:Own.off V s w1.heap.size:=(un HO1).own.new_off (.inl (Nat.le_refl _))
 have hXb:base≤w1.heap.size:=by omega
 have hXs:bs≠w1.heap.size:=by omega
 have hXg:w1.heap.size≠g:=by have:=un HGL; omega
 generalize (w1.alloc (.cells #[.int .i64 14,.int .i64 a] 66)).drew=w2 at LX ho2 hb2 ⊢
 generalize w1.heap.size=X at LX hoffX hXb hXs hXg ⊢
 obtain ⟨_,_,eg2,_,_,k1,k2,_,fz,hbg2⟩:=ho2.own.fr (i:=i) (j:=j) (un HRU).lt hj
 obtain ⟨rfl,rfl⟩:=(by rw [hVg] at eg2; simpa using eg2:g=_∧cap=_)
 rw [hat] at k1
 have fz1:=fz (j * 4 + 1)
 obtain ⟨ho3,hb3⟩:=ho2.setAt (un HRU).lt hj hVg ((ai:Int) + 1)
 have ho3':OwnVar base (w2.setCell ⟨g,j * 4 + 1,none⟩ (.int .i64 ((ai:Int) + 1))) bs V (Ze s i ai):=by unfold Ze; rw [un HJJ]; exact ho3
 have LX3:=Xz LX (a:=⟨g,j * 4 + 1,none⟩) hXg (.int .i64 ((ai:Int) + 1))
 have y0:=Zb LX3 0
 have y1:=Zb LX3 1
 have HO3:=hide ho3'
 have HB3:=hide (Below.trans hb2 hb3)
 have HLX:=hide LX3
 have HOX:=hide hoffX
 clear ho2 hb2 ho3 ho3' hb3 LX LX3 fz eg2 HO1 HB1 HO hoffX
 go_wp2_with fail
 generalize w2.setCell ⟨g,j * 4 + 1,none⟩ (.int .i64 ((ai:Int) + 1))=w3 at HO3 HB3 y0 y1 HLX ⊢
 obtain ⟨n1,n2,n3,n4,n5,n6,n7,n8⟩:=un HNX
 have hjn:(Za (Ze s i ai) i).frames.length - 1=j:=by rw [n5]; exact un HJJ
 have hlon:∀ k:Nat,k < (Ze s i ai).fibers.length→(k:Int) ∉ l→0 < (Za (Ze s i ai) k).frames.length→(frAt (Ze s i ai) k ((Za (Ze s i ai) k).frames.length - 1)).at_=0→0 < (frAt (Ze s i ai) k ((Za (Ze s i ai) k).frames.length - 1)).locals.length:=fun k hk hkl hf hat0=>by
  have hki:k≠i:=fun e=>hkl (by rw [e]; exact hil)
  have hfk:∀ t,frAt (Ze s i ai) k t=frAt s k t:=fun t=>by unfold frAt; rw [n7 k hki]
  rw [hfk,n5] at hat0
  rw [n5] at hf
  rw [hfk,n5]
  exact hloc k (by rw [← n2]; exact hk) hkl hf hat0
 have HC:=hide (resumed_any base bs V (Ze s i ai) i w3 l (un HO3) n1 n8 (by rw [hjn,n6]; exact hst2) (next_fits hn (un HRU) ai hft) (next_callers hn (un HRU) ai hcal) (by rw [next_line hn (un HRU) ai]; exact hl) hil hlon)
 clear n1 n2 n3 n4 n5 n6 n7 n8 y0 y1
 refine (un HC).mono ?_
 rintro _ w4 ⟨rfl,hb4,ho4⟩
 have HB4:=hide hb4
 have HO4:=hide ho4
 clear hb4 ho4 HC
 generalize hRR:(Jo (Ze s i ai))=RR at HO4 ⊢
 have HRR:=hide hRR
 clear hRR
 go_wp2
 go_ret
 unfold Qc
 rw [un HRR]
 exact ⟨rfl,Below.trans (un HB3) (un HB4),un HO4⟩
theorem done_put (base bs:Nat) (V:Key→Value) (s:St) (i cp bp op n fi ai cb co cl cc:Nat) (a:Int) (w:World) (h:OwnVar base w bs V s) (hd:DoAt base w s i bp op n fi ai cb co cl cc 16 a) (hst0:0 < (frAt s i ((Za s i).frames.length - 1)).stack.length) (ho:s.out.length≤30) :
  Calls Tryz.prog 61 #[.slice (some ⟨bp,op,none⟩) n cp,.pointer (some ⟨bs,0,none⟩)] w fun e w'=>Qc base bs (putS (Zc (Ze s i ai)) (Zh (Ze s i ai))) w e w':=by
 obtain ⟨hn,hr,hfn,hat,hfin,hain,hcl,hpc⟩:=hd
 have hj:(Za s i).frames.length - 1 < (Za s i).frames.length:=by have:=hr.fr; omega
 obtain ⟨g,cap,eg,htop⟩:=Qs h hr.lt hr.fr hr.frs
 obtain ⟨b0,b1,_,_⟩:=h.cells
 rw [hn] at b1
 have HTOP:=hide htop
 have HO:=hide h
 have HPC:=hide hpc
 have HRU:=hide hr
 have HNX:=hide (Qv hn hr ai)
 have HEG:=hide eg
 have hf1:(fi:Int) < (n:Int):=by omega
 have hf0:(0:Int)≤(fi:Int):=by omega
 have ha1:(ai:Int) < (cl:Int):=by omega
 have ha0:(0:Int)≤(ai:Int):=by omega
 have hwa:IntKind.i64.wrap ((ai:Int) + 1)=(ai:Int) + 1:=by rw [IntKind.wrap_i64]; omega
 generalize hjj:(Za s i).frames.length - 1=j at *
 have HJJ:=hide hjj
 clear htop h hpc hr eg hjj
 go_enter Tryz.func61,Tryz.ntmps61
 go_wp2_with fail
 refine (un HTOP).mono ?_
 rintro _ _ ⟨rfl,m0,rfl⟩
 have ho1:OwnVar base (w.drewN m0) bs V s:=(un HO).same rfl
 have hb1:Below base w (w.drewN m0):=below_drewN (Below.refl _ _) m0
 generalize w.drewN m0=w1 at ho1 hb1 ⊢
 obtain ⟨g',cap',eg',hcap,k0,k1,k2,k3,fz,hbg⟩:=ho1.own.fr (i:=i) (j:=j) (un HRU).lt hj
 have hVg:V (.frames i)=.slice (some ⟨g,0,none⟩) (Za s i).frames.length cap:=un HEG
 obtain ⟨rfl,rfl⟩:g=g'∧cap=cap':=by rw [hVg] at eg'; simpa using eg'
 rw [hfn] at k0
 rw [hat] at k1
 obtain ⟨x0,x1,x2⟩:=(un HPC) w1 hb1
 have HY:Hid (∀ u,Kept w1 u→u.cell? ⟨g,j * 4,none⟩=some (.int .i64 fi)∧u.cell? ⟨g,j * 4 + 1,none⟩=some (.int .i64 ai)∧u.cell? ⟨bp,op + fi * 3 + 2,none⟩=some (.slice (some ⟨cb,co,none⟩) cl cc)∧u.cell? ⟨cb,co + ai * 2,none⟩=some (.int .i64 16)∧u.cell? ⟨cb,co + ai * 2 + 1,none⟩=some (.int .i64 a)):=hide (fun u hu=>⟨hu.cell k0,hu.cell k1,hu.cell x0,hu.cell x1,hu.cell x2⟩)
 have HO1:=hide ho1
 have HB1:=hide hb1
 have hgl:=Xd k0
 simp only at hgl
 have HGL:=hide hgl
 have hlow:=ho1.low
 have hbw:=lt_of_block ho1.var
 clear ho1 hb1 k0 k1 k2 k3 x0 x1 x2 fz eg' hgl HTOP
 go_wp2_with fail
 go_region_held3 (fun u=>u.cell? ⟨g,j * 4,none⟩=some (.int .i64 fi)∧u.cell? ⟨g,j * 4 + 1,none⟩=some (.int .i64 ai)∧u.cell? ⟨bp,op + fi * 3 + 2,none⟩=some (.slice (some ⟨cb,co,none⟩) cl cc)∧u.cell? ⟨cb,co + ai * 2,none⟩=some (.int .i64 16)∧u.cell? ⟨cb,co + ai * 2 + 1,none⟩=some (.int .i64 a)) (exact (un HY) _ (by repeat (first | exact Kept.refl _ | refine Kept.drew ?_ | refine Kept.alloc ?_ _ | refine Kept.setCell ?_ (by simp) _))) (fail)
 rename_i hheld
 clear hheld HY
 have LX:(w1.alloc (.cells #[.int .i64 16,.int .i64 a] 66)).drew.heap[w1.heap.size]?=some (.cells #[.int .i64 16,.int .i64 a] 66):=Zt (Zd rfl)
 have ho2:OwnVar base (w1.alloc (.cells #[.int .i64 16,.int .i64 a] 66)).drew bs V s:=((un HO1).alloc _).same rfl
 have hb2:Below base w (w1.alloc (.cells #[.int .i64 16,.int .i64 a] 66)).drew:=(Below.alloc (un HB1) (by omega) _).drew
 have hoffX:Own.off V s w1.heap.size:=(un HO1).own.new_off (.inl (Nat.le_refl _))
 have hXb:base≤w1.heap.size:=by omega
 have hXs:bs≠w1.heap.size:=by omega
 have hXg:w1.heap.size≠g:=by have:=un HGL; omega
 generalize (w1.alloc (.cells #[.int .i64 16,.int .i64 a] 66)).drew=w2 at LX ho2 hb2 ⊢
 generalize w1.heap.size=X at LX hoffX hXb hXs hXg ⊢
 obtain ⟨_,_,eg2,_,_,k1,k2,_,fz,hbg2⟩:=ho2.own.fr (i:=i) (j:=j) (un HRU).lt hj
 obtain ⟨rfl,rfl⟩:=(by rw [hVg] at eg2; simpa using eg2:g=_∧cap=_)
 rw [hat] at k1
 have fz1:=fz (j * 4 + 1)
 obtain ⟨ho3,hb3⟩:=ho2.setAt (un HRU).lt hj hVg ((ai:Int) + 1)
 have ho3':OwnVar base (w2.setCell ⟨g,j * 4 + 1,none⟩ (.int .i64 ((ai:Int) + 1))) bs V (Ze s i ai):=by unfold Ze; rw [un HJJ]; exact ho3
 have LX3:=Xz LX (a:=⟨g,j * 4 + 1,none⟩) hXg (.int .i64 ((ai:Int) + 1))
 have y0:=Zb LX3 0
 have y1:=Zb LX3 1
 have HO3:=hide ho3'
 have HB3:=hide (Below.trans hb2 hb3)
 have HLX:=hide LX3
 have HOX:=hide hoffX
 clear ho2 hb2 ho3 ho3' hb3 LX LX3 fz eg2 HO1 HB1 HO hoffX
 go_wp2_with fail
 generalize w2.setCell ⟨g,j * 4 + 1,none⟩ (.int .i64 ((ai:Int) + 1))=w3 at HO3 HB3 y0 y1 HLX ⊢
 obtain ⟨n1,n2,n3,n4,n5,n6,n7,n8⟩:=un HNX
 have hjn:(Za (Ze s i ai) i).frames.length - 1=j:=by rw [n5]; exact un HJJ
 have HPL:=hide (Kj base bs V (Ze s i ai) i w3 (un HO3) n1 n8.lt n8.fr n8.frs n8.st (by rw [hjn,n6]; exact hst0))
 have hout:(Zc (Ze s i ai)).out.length≤30:=by rw [(Jv n1 n8.lt n8.fr).2.2.1,n3]; exact ho
 clear n1 n2 n3 n4 n5 n6 n7 n8 y0 y1
 refine (un HPL).mono ?_
 rintro _ w4 ⟨rfl,V4,ho4,hb4,_,_,_⟩
 have HP:=hide (put_any base bs V4 (Zc (Ze s i ai)) (Zh (Ze s i ai)) w4 ho4 hout)
 have HB4:=hide (Below.trans (un HB3) hb4)
 clear ho4 hb4 HPL
 go_wp2_with fail
 refine (un HP).mono ?_
 rintro _ w5 ⟨rfl,hb5,ho5⟩
 have HB5:=hide (Below.trans (un HB4) hb5)
 have HO5:=hide ho5
 clear hb5 ho5 HP
 generalize hRR:putS (Zc (Ze s i ai)) (Zh (Ze s i ai))=RR at HO5 ⊢
 have HRR:=hide hRR
 clear hRR
 go_wp2
 go_ret
 unfold Qc
 rw [un HRR]
 exact ⟨rfl,un HB5,un HO5⟩
end Go.Proofs.YtblihfpigjiahaaGreatDoor
