/- StepM2, StepM3, StepM4 -/
import Derived.Test.YtblihfpigjiahaaDoorWB34
import Derived.Deep.RegionHeld3
import Derived.Test.YtblihfpigjiahaaDoorWB26
import Derived.Test.YtblihfpigjiahaaDoorWB25
set_option maxRecDepth 100000
set_option maxHeartbeats 8000000
namespace Go.Proofs.YtblihfpigjiahaaDoor
open Go.RowKit
theorem Zwk (base bs:Nat) (V:Key→Value) (s:St) (i cp bp op n fi ai cb co cl cc:Nat) (a:Int) (w:World) (h:Zi base w bs V s) (hd:DoAt base w s i bp op n fi ai cb co cl cc 12 a) (hst0:0<(Ze s i ((Zc s i).frames.length - 1)).stack.length) (ho:s.out.length≤30) (hbel:1<(Zc s i).frames.length→(Ze s i ((Zc s i).frames.length - 2)).stack.length≤1000) (hc:∀ c:Int,(Zc s i).caller=c→0≤c→∃ k:Nat,c=k∧k≠i∧Qa s k) :
  Calls Tryd.prog 89 #[.slice (some ⟨bp,op,none⟩) n cp,.pointer (some ⟨bs,0,none⟩)] w fun e w'=>Jj base bs (Ub (Zf s i ai)) w e w':=by
 obtain ⟨hn,hr,hfn,hat,hfin,hain,hcl,hpc⟩:=hd
 have hj:(Zc s i).frames.length - 1<(Zc s i).frames.length:=by have:=hr.fr;omega
 obtain ⟨g,cap,eg,htop⟩:=Yu h hr.lt hr.fr hr.frs
 obtain ⟨b0,b1,_,_⟩:=h.cells
 rw [hn] at b1
 have HTOP:=Za htop
 have HO:=Za h
 have HPC:=Za hpc
 have HRU:=Za hr
 have HNX:=Za (Wb hn hr ai)
 have HEG:=Za eg
 have hf1:(fi:Int)<(n:Int):=by omega
 have hf0:(0:Int)≤(fi:Int):=by omega
 have ha1:(ai:Int)<(cl:Int):=by omega
 have ha0:(0:Int)≤(ai:Int):=by omega
 have hwa:IntKind.i64.wrap ((ai:Int)+1)=(ai:Int)+1:=by rw [IntKind.wrap_i64];omega
 generalize hjj:(Zc s i).frames.length - 1=j at *
 have HJJ:=Za hjj
 clear htop h hpc hr eg hjj
 go_enter Tryd.func89,Tryd.ntmps89
 go_wp2_with fail
 refine (un HTOP).mono ?_
 rintro _ _ ⟨rfl,m0,rfl⟩
 have ho1:Zi base (w.drewN m0) bs V s:=(un HO).same rfl
 have hb1:Below base w (w.drewN m0):=below_drewN (Below.refl _ _) m0
 generalize w.drewN m0=w1 at ho1 hb1 ⊢
 obtain ⟨g',cap',eg',hcap,k0,k1,k2,k3,fz,hbg⟩:=ho1.own.fr (i:=i) (j:=j) (un HRU).lt hj
 have hVg:V (.frames i)=.slice (some ⟨g,0,none⟩) (Zc s i).frames.length cap:=un HEG
 obtain ⟨rfl,rfl⟩:g=g'∧cap=cap':=by rw [hVg] at eg';simpa using eg'
 rw [hfn] at k0
 rw [hat] at k1
 obtain ⟨x0,x1,x2⟩:=(un HPC) w1 hb1
 have HY:Hid (∀ u,Zb w1 u→u.cell? ⟨g,j*4,none⟩=some (.int .i64 fi)∧u.cell? ⟨g,j*4+1,none⟩=some (.int .i64 ai)∧u.cell? ⟨bp,op+fi*3+2,none⟩=some (.slice (some ⟨cb,co,none⟩) cl cc)∧u.cell? ⟨cb,co+ai*2,none⟩=some (.int .i64 12)∧u.cell? ⟨cb,co+ai*2+1,none⟩=some (.int .i64 a)):=Za (fun u hu=>⟨hu.cell k0,hu.cell k1,hu.cell x0,hu.cell x1,hu.cell x2⟩)
 have HO1:=Za ho1
 have HB1:=Za hb1
 have hgl:=Xo k0
 simp only at hgl
 have HGL:=Za hgl
 have hlow:=ho1.low
 have hbw:=lt_of_block ho1.var
 clear ho1 hb1 k0 k1 k2 k3 x0 x1 x2 fz eg' hgl HTOP
 go_wp2_with fail
 go_region_held3 (fun u=>u.cell? ⟨g,j*4,none⟩=some (.int .i64 fi)∧u.cell? ⟨g,j*4+1,none⟩=some (.int .i64 ai)∧u.cell? ⟨bp,op+fi*3+2,none⟩=some (.slice (some ⟨cb,co,none⟩) cl cc)∧u.cell? ⟨cb,co+ai*2,none⟩=some (.int .i64 12)∧u.cell? ⟨cb,co+ai*2+1,none⟩=some (.int .i64 a)) (exact (un HY) _ (by repeat (first | exact Zb.refl _ | refine Zb.drew ?_ | refine Zb.alloc ?_ _ | refine Zb.setCell ?_ (by simp) _))) (fail)
 rename_i hheld
 clear hheld HY
 have LX:(w1.alloc (.cells #[.int .i64 12,.int .i64 a] 86)).drew.heap[w1.heap.size]?=some (.cells #[.int .i64 12,.int .i64 a] 86):=Xi (Zg rfl)
 have ho2:Zi base (w1.alloc (.cells #[.int .i64 12,.int .i64 a] 86)).drew bs V s:=((un HO1).alloc _).same rfl
 have hb2:Below base w (w1.alloc (.cells #[.int .i64 12,.int .i64 a] 86)).drew:=(Below.alloc (un HB1) (by omega) _).drew
 have hoffX:Own.off V s w1.heap.size:=(un HO1).own.new_off (.inl (Nat.le_refl _))
 have hXb:base≤w1.heap.size:=by omega
 have hXs:bs≠w1.heap.size:=by omega
 have hXg:w1.heap.size≠g:=by have:=un HGL;omega
 generalize (w1.alloc (.cells #[.int .i64 12,.int .i64 a] 86)).drew=w2 at LX ho2 hb2 ⊢
 generalize w1.heap.size=X at LX hoffX hXb hXs hXg ⊢
 obtain ⟨_,_,eg2,_,_,k1,k2,_,fz,hbg2⟩:=ho2.own.fr (i:=i) (j:=j) (un HRU).lt hj
 obtain ⟨rfl,rfl⟩:=(by rw [hVg] at eg2;simpa using eg2:g=_∧cap=_)
 rw [hat] at k1
 have fz1:=fz (j*4+1)
 obtain ⟨ho3,hb3⟩:=ho2.setAt (un HRU).lt hj hVg ((ai:Int)+1)
 have ho3':Zi base (w2.setCell ⟨g,j*4+1,none⟩ (.int .i64 ((ai:Int)+1))) bs V (Zf s i ai):=by unfold Zf;rw [un HJJ];exact ho3
 have LX3:=Zz LX (a:=⟨g,j*4+1,none⟩) hXg (.int .i64 ((ai:Int)+1))
 have y0:=Zd LX3 0
 have y1:=Zd LX3 1
 have HO3:=Za ho3'
 have HB3:=Za (Below.trans hb2 hb3)
 have HLX:=Za LX3
 have HOX:=Za hoffX
 clear ho2 hb2 ho3 ho3' hb3 LX LX3 fz eg2 HO1 HB1 HO hoffX
 go_wp2_with fail
 generalize w2.setCell ⟨g,j*4+1,none⟩ (.int .i64 ((ai:Int)+1))=w3 at HO3 HB3 y0 y1 HLX ⊢
 obtain ⟨n1,n2,n3,n4,n5,n6,n7,n8⟩:=un HNX
 have hjn:(Zc (Zf s i ai) i).frames.length - 1=j:=by rw [n5];exact un HJJ
 have hcn:∀ c:Int,(Zc (Zf s i ai) i).caller=c→0≤c→∃ k:Nat,c=k∧k≠i∧Qa (Zf s i ai) k:=fun c h1 h2=>by
  rw [n4] at h1
  obtain ⟨k,h3,h4,h5⟩:=hc c h1 h2
  exact ⟨k,h3,h4,Zkn ai k h4 h5⟩
 have HC:=Za (Zqb base bs V (Zf s i ai) i w3 (un HO3) n1 n8 (by rw [hjn,n6];exact hst0) (by rw [n3];exact ho) (fun h=>by rw [n5] at h ⊢;rw [(Zhs (un HRU) ai i _).1];exact hbel h) hcn)
 clear n1 n2 n3 n4 n5 n6 n7 n8 y0 y1
 refine (un HC).mono ?_
 rintro _ w4 ⟨rfl,hb4,ho4⟩
 have HB4:=Za hb4
 have HO4:=Za ho4
 clear hb4 ho4 HC
 generalize hRR:(Ub (Zf s i ai))=RR at HO4 ⊢
 have HRR:=Za hRR
 clear hRR
 go_wp2
 go_ret
 unfold Jj
 rw [un HRR]
 exact ⟨rfl,Below.trans (un HB3) (un HB4),un HO4⟩
theorem Zrq (base bs:Nat) (V:Key→Value) (s:St) (i cp bp op n fi ai cb co cl cc:Nat) (a:Int) (w:World) (h:Zi base w bs V s) (hd:DoAt base w s i bp op n fi ai cb co cl cc 14 a) (hst2:1<(Ze s i ((Zc s i).frames.length - 1)).stack.length) (l:List Int) (hft:Ph s) (hcal:∀ b,b∈s.fibers→-1≤b.caller∧b.caller<s.fibers.length) (hl:Qj s=some l) (hil:(i:Int)∈l) (hloc:∀ k:Nat,k<s.fibers.length→(k:Int) ∉ l→0<(Zc s k).frames.length→(Ze s k ((Zc s k).frames.length - 1)).at_=0→0<(Ze s k ((Zc s k).frames.length - 1)).locals.length) :
  Calls Tryd.prog 89 #[.slice (some ⟨bp,op,none⟩) n cp,.pointer (some ⟨bs,0,none⟩)] w fun e w'=>Jj base bs (Ux (Zf s i ai)) w e w':=by
 obtain ⟨hn,hr,hfn,hat,hfin,hain,hcl,hpc⟩:=hd
 have hj:(Zc s i).frames.length - 1<(Zc s i).frames.length:=by have:=hr.fr;omega
 obtain ⟨g,cap,eg,htop⟩:=Yu h hr.lt hr.fr hr.frs
 obtain ⟨b0,b1,_,_⟩:=h.cells
 rw [hn] at b1
 have HTOP:=Za htop
 have HO:=Za h
 have HPC:=Za hpc
 have HRU:=Za hr
 have HNX:=Za (Wb hn hr ai)
 have HEG:=Za eg
 have hf1:(fi:Int)<(n:Int):=by omega
 have hf0:(0:Int)≤(fi:Int):=by omega
 have ha1:(ai:Int)<(cl:Int):=by omega
 have ha0:(0:Int)≤(ai:Int):=by omega
 have hwa:IntKind.i64.wrap ((ai:Int)+1)=(ai:Int)+1:=by rw [IntKind.wrap_i64];omega
 generalize hjj:(Zc s i).frames.length - 1=j at *
 have HJJ:=Za hjj
 clear htop h hpc hr eg hjj
 go_enter Tryd.func89,Tryd.ntmps89
 go_wp2_with fail
 refine (un HTOP).mono ?_
 rintro _ _ ⟨rfl,m0,rfl⟩
 have ho1:Zi base (w.drewN m0) bs V s:=(un HO).same rfl
 have hb1:Below base w (w.drewN m0):=below_drewN (Below.refl _ _) m0
 generalize w.drewN m0=w1 at ho1 hb1 ⊢
 obtain ⟨g',cap',eg',hcap,k0,k1,k2,k3,fz,hbg⟩:=ho1.own.fr (i:=i) (j:=j) (un HRU).lt hj
 have hVg:V (.frames i)=.slice (some ⟨g,0,none⟩) (Zc s i).frames.length cap:=un HEG
 obtain ⟨rfl,rfl⟩:g=g'∧cap=cap':=by rw [hVg] at eg';simpa using eg'
 rw [hfn] at k0
 rw [hat] at k1
 obtain ⟨x0,x1,x2⟩:=(un HPC) w1 hb1
 have HY:Hid (∀ u,Zb w1 u→u.cell? ⟨g,j*4,none⟩=some (.int .i64 fi)∧u.cell? ⟨g,j*4+1,none⟩=some (.int .i64 ai)∧u.cell? ⟨bp,op+fi*3+2,none⟩=some (.slice (some ⟨cb,co,none⟩) cl cc)∧u.cell? ⟨cb,co+ai*2,none⟩=some (.int .i64 14)∧u.cell? ⟨cb,co+ai*2+1,none⟩=some (.int .i64 a)):=Za (fun u hu=>⟨hu.cell k0,hu.cell k1,hu.cell x0,hu.cell x1,hu.cell x2⟩)
 have HO1:=Za ho1
 have HB1:=Za hb1
 have hgl:=Xo k0
 simp only at hgl
 have HGL:=Za hgl
 have hlow:=ho1.low
 have hbw:=lt_of_block ho1.var
 clear ho1 hb1 k0 k1 k2 k3 x0 x1 x2 fz eg' hgl HTOP
 go_wp2_with fail
 go_region_held3 (fun u=>u.cell? ⟨g,j*4,none⟩=some (.int .i64 fi)∧u.cell? ⟨g,j*4+1,none⟩=some (.int .i64 ai)∧u.cell? ⟨bp,op+fi*3+2,none⟩=some (.slice (some ⟨cb,co,none⟩) cl cc)∧u.cell? ⟨cb,co+ai*2,none⟩=some (.int .i64 14)∧u.cell? ⟨cb,co+ai*2+1,none⟩=some (.int .i64 a)) (exact (un HY) _ (by repeat (first | exact Zb.refl _ | refine Zb.drew ?_ | refine Zb.alloc ?_ _ | refine Zb.setCell ?_ (by simp) _))) (fail)
 rename_i hheld
 clear hheld HY
 have LX:(w1.alloc (.cells #[.int .i64 14,.int .i64 a] 86)).drew.heap[w1.heap.size]?=some (.cells #[.int .i64 14,.int .i64 a] 86):=Xi (Zg rfl)
 have ho2:Zi base (w1.alloc (.cells #[.int .i64 14,.int .i64 a] 86)).drew bs V s:=((un HO1).alloc _).same rfl
 have hb2:Below base w (w1.alloc (.cells #[.int .i64 14,.int .i64 a] 86)).drew:=(Below.alloc (un HB1) (by omega) _).drew
 have hoffX:Own.off V s w1.heap.size:=(un HO1).own.new_off (.inl (Nat.le_refl _))
 have hXb:base≤w1.heap.size:=by omega
 have hXs:bs≠w1.heap.size:=by omega
 have hXg:w1.heap.size≠g:=by have:=un HGL;omega
 generalize (w1.alloc (.cells #[.int .i64 14,.int .i64 a] 86)).drew=w2 at LX ho2 hb2 ⊢
 generalize w1.heap.size=X at LX hoffX hXb hXs hXg ⊢
 obtain ⟨_,_,eg2,_,_,k1,k2,_,fz,hbg2⟩:=ho2.own.fr (i:=i) (j:=j) (un HRU).lt hj
 obtain ⟨rfl,rfl⟩:=(by rw [hVg] at eg2;simpa using eg2:g=_∧cap=_)
 rw [hat] at k1
 have fz1:=fz (j*4+1)
 obtain ⟨ho3,hb3⟩:=ho2.setAt (un HRU).lt hj hVg ((ai:Int)+1)
 have ho3':Zi base (w2.setCell ⟨g,j*4+1,none⟩ (.int .i64 ((ai:Int)+1))) bs V (Zf s i ai):=by unfold Zf;rw [un HJJ];exact ho3
 have LX3:=Zz LX (a:=⟨g,j*4+1,none⟩) hXg (.int .i64 ((ai:Int)+1))
 have y0:=Zd LX3 0
 have y1:=Zd LX3 1
 have HO3:=Za ho3'
 have HB3:=Za (Below.trans hb2 hb3)
 have HLX:=Za LX3
 have HOX:=Za hoffX
 clear ho2 hb2 ho3 ho3' hb3 LX LX3 fz eg2 HO1 HB1 HO hoffX
 go_wp2_with fail
 generalize w2.setCell ⟨g,j*4+1,none⟩ (.int .i64 ((ai:Int)+1))=w3 at HO3 HB3 y0 y1 HLX ⊢
 obtain ⟨n1,n2,n3,n4,n5,n6,n7,n8⟩:=un HNX
 have hjn:(Zc (Zf s i ai) i).frames.length - 1=j:=by rw [n5];exact un HJJ
 have hlon:∀ k:Nat,k<(Zf s i ai).fibers.length→(k:Int) ∉ l→0<(Zc (Zf s i ai) k).frames.length→(Ze (Zf s i ai) k ((Zc (Zf s i ai) k).frames.length - 1)).at_=0→0<(Ze (Zf s i ai) k ((Zc (Zf s i ai) k).frames.length - 1)).locals.length:=fun k hk hkl hf hat0=>by
  have hki:k≠i:=fun e=>hkl (by rw [e];exact hil)
  have hfk:∀ t,Ze (Zf s i ai) k t=Ze s k t:=fun t=>by unfold Ze;rw [n7 k hki]
  rw [hfk,n5] at hat0
  rw [n5] at hf
  rw [hfk,n5]
  exact hloc k (by rw [← n2];exact hk) hkl hf hat0
 have HC:=Za (Xbk base bs V (Zf s i ai) i w3 l (un HO3) n1 n8 (by rw [hjn,n6];exact hst2) (Xch hn (un HRU) ai hft) (Zwp hn (un HRU) ai hcal) (by rw [Zzq hn (un HRU) ai];exact hl) hil hlon)
 clear n1 n2 n3 n4 n5 n6 n7 n8 y0 y1
 refine (un HC).mono ?_
 rintro _ w4 ⟨rfl,hb4,ho4⟩
 have HB4:=Za hb4
 have HO4:=Za ho4
 clear hb4 ho4 HC
 generalize hRR:(Ux (Zf s i ai))=RR at HO4 ⊢
 have HRR:=Za hRR
 clear hRR
 go_wp2
 go_ret
 unfold Jj
 rw [un HRR]
 exact ⟨rfl,Below.trans (un HB3) (un HB4),un HO4⟩
theorem Zws (base bs:Nat) (V:Key→Value) (s:St) (i cp bp op n fi ai cb co cl cc:Nat) (a:Int) (w:World) (h:Zi base w bs V s) (hd:DoAt base w s i bp op n fi ai cb co cl cc 16 a) (hst0:0<(Ze s i ((Zc s i).frames.length - 1)).stack.length) (ho:s.out.length≤30) :
  Calls Tryd.prog 89 #[.slice (some ⟨bp,op,none⟩) n cp,.pointer (some ⟨bs,0,none⟩)] w fun e w'=>Jj base bs (Jv (Zj (Zf s i ai)) (Zv (Zf s i ai))) w e w':=by
 obtain ⟨hn,hr,hfn,hat,hfin,hain,hcl,hpc⟩:=hd
 have hj:(Zc s i).frames.length - 1<(Zc s i).frames.length:=by have:=hr.fr;omega
 obtain ⟨g,cap,eg,htop⟩:=Yu h hr.lt hr.fr hr.frs
 obtain ⟨b0,b1,_,_⟩:=h.cells
 rw [hn] at b1
 have HTOP:=Za htop
 have HO:=Za h
 have HPC:=Za hpc
 have HRU:=Za hr
 have HNX:=Za (Wb hn hr ai)
 have HEG:=Za eg
 have hf1:(fi:Int)<(n:Int):=by omega
 have hf0:(0:Int)≤(fi:Int):=by omega
 have ha1:(ai:Int)<(cl:Int):=by omega
 have ha0:(0:Int)≤(ai:Int):=by omega
 have hwa:IntKind.i64.wrap ((ai:Int)+1)=(ai:Int)+1:=by rw [IntKind.wrap_i64];omega
 generalize hjj:(Zc s i).frames.length - 1=j at *
 have HJJ:=Za hjj
 clear htop h hpc hr eg hjj
 go_enter Tryd.func89,Tryd.ntmps89
 go_wp2_with fail
 refine (un HTOP).mono ?_
 rintro _ _ ⟨rfl,m0,rfl⟩
 have ho1:Zi base (w.drewN m0) bs V s:=(un HO).same rfl
 have hb1:Below base w (w.drewN m0):=below_drewN (Below.refl _ _) m0
 generalize w.drewN m0=w1 at ho1 hb1 ⊢
 obtain ⟨g',cap',eg',hcap,k0,k1,k2,k3,fz,hbg⟩:=ho1.own.fr (i:=i) (j:=j) (un HRU).lt hj
 have hVg:V (.frames i)=.slice (some ⟨g,0,none⟩) (Zc s i).frames.length cap:=un HEG
 obtain ⟨rfl,rfl⟩:g=g'∧cap=cap':=by rw [hVg] at eg';simpa using eg'
 rw [hfn] at k0
 rw [hat] at k1
 obtain ⟨x0,x1,x2⟩:=(un HPC) w1 hb1
 have HY:Hid (∀ u,Zb w1 u→u.cell? ⟨g,j*4,none⟩=some (.int .i64 fi)∧u.cell? ⟨g,j*4+1,none⟩=some (.int .i64 ai)∧u.cell? ⟨bp,op+fi*3+2,none⟩=some (.slice (some ⟨cb,co,none⟩) cl cc)∧u.cell? ⟨cb,co+ai*2,none⟩=some (.int .i64 16)∧u.cell? ⟨cb,co+ai*2+1,none⟩=some (.int .i64 a)):=Za (fun u hu=>⟨hu.cell k0,hu.cell k1,hu.cell x0,hu.cell x1,hu.cell x2⟩)
 have HO1:=Za ho1
 have HB1:=Za hb1
 have hgl:=Xo k0
 simp only at hgl
 have HGL:=Za hgl
 have hlow:=ho1.low
 have hbw:=lt_of_block ho1.var
 clear ho1 hb1 k0 k1 k2 k3 x0 x1 x2 fz eg' hgl HTOP
 go_wp2_with fail
 go_region_held3 (fun u=>u.cell? ⟨g,j*4,none⟩=some (.int .i64 fi)∧u.cell? ⟨g,j*4+1,none⟩=some (.int .i64 ai)∧u.cell? ⟨bp,op+fi*3+2,none⟩=some (.slice (some ⟨cb,co,none⟩) cl cc)∧u.cell? ⟨cb,co+ai*2,none⟩=some (.int .i64 16)∧u.cell? ⟨cb,co+ai*2+1,none⟩=some (.int .i64 a)) (exact (un HY) _ (by repeat (first | exact Zb.refl _ | refine Zb.drew ?_ | refine Zb.alloc ?_ _ | refine Zb.setCell ?_ (by simp) _))) (fail)
 rename_i hheld
 clear hheld HY
 have LX:(w1.alloc (.cells #[.int .i64 16,.int .i64 a] 86)).drew.heap[w1.heap.size]?=some (.cells #[.int .i64 16,.int .i64 a] 86):=Xi (Zg rfl)
 have ho2:Zi base (w1.alloc (.cells #[.int .i64 16,.int .i64 a] 86)).drew bs V s:=((un HO1).alloc _).same rfl
 have hb2:Below base w (w1.alloc (.cells #[.int .i64 16,.int .i64 a] 86)).drew:=(Below.alloc (un HB1) (by omega) _).drew
 have hoffX:Own.off V s w1.heap.size:=(un HO1).own.new_off (.inl (Nat.le_refl _))
 have hXb:base≤w1.heap.size:=by omega
 have hXs:bs≠w1.heap.size:=by omega
 have hXg:w1.heap.size≠g:=by have:=un HGL;omega
 generalize (w1.alloc (.cells #[.int .i64 16,.int .i64 a] 86)).drew=w2 at LX ho2 hb2 ⊢
 generalize w1.heap.size=X at LX hoffX hXb hXs hXg ⊢
 obtain ⟨_,_,eg2,_,_,k1,k2,_,fz,hbg2⟩:=ho2.own.fr (i:=i) (j:=j) (un HRU).lt hj
 obtain ⟨rfl,rfl⟩:=(by rw [hVg] at eg2;simpa using eg2:g=_∧cap=_)
 rw [hat] at k1
 have fz1:=fz (j*4+1)
 obtain ⟨ho3,hb3⟩:=ho2.setAt (un HRU).lt hj hVg ((ai:Int)+1)
 have ho3':Zi base (w2.setCell ⟨g,j*4+1,none⟩ (.int .i64 ((ai:Int)+1))) bs V (Zf s i ai):=by unfold Zf;rw [un HJJ];exact ho3
 have LX3:=Zz LX (a:=⟨g,j*4+1,none⟩) hXg (.int .i64 ((ai:Int)+1))
 have y0:=Zd LX3 0
 have y1:=Zd LX3 1
 have HO3:=Za ho3'
 have HB3:=Za (Below.trans hb2 hb3)
 have HLX:=Za LX3
 have HOX:=Za hoffX
 clear ho2 hb2 ho3 ho3' hb3 LX LX3 fz eg2 HO1 HB1 HO hoffX
 go_wp2_with fail
 generalize w2.setCell ⟨g,j*4+1,none⟩ (.int .i64 ((ai:Int)+1))=w3 at HO3 HB3 y0 y1 HLX ⊢
 obtain ⟨n1,n2,n3,n4,n5,n6,n7,n8⟩:=un HNX
 have hjn:(Zc (Zf s i ai) i).frames.length - 1=j:=by rw [n5];exact un HJJ
 have HPL:=Za (Px base bs V (Zf s i ai) i w3 (un HO3) n1 n8.lt n8.fr n8.frs n8.st (by rw [hjn,n6];exact hst0))
 have hout:(Zj (Zf s i ai)).out.length≤30:=by rw [(Pa n1 n8.lt n8.fr).2.2.1,n3];exact ho
 clear n1 n2 n3 n4 n5 n6 n7 n8 y0 y1
 refine (un HPL).mono ?_
 rintro _ w4 ⟨rfl,V4,ho4,hb4,_,_,_⟩
 have HP:=Za (Zmh base bs V4 (Zj (Zf s i ai)) (Zv (Zf s i ai)) w4 ho4 hout)
 have HB4:=Za (Below.trans (un HB3) hb4)
 clear ho4 hb4 HPL
 go_wp2_with fail
 refine (un HP).mono ?_
 rintro _ w5 ⟨rfl,hb5,ho5⟩
 have HB5:=Za (Below.trans (un HB4) hb5)
 have HO5:=Za ho5
 clear hb5 ho5 HP
 generalize hRR:Jv (Zj (Zf s i ai)) (Zv (Zf s i ai))=RR at HO5 ⊢
 have HRR:=Za hRR
 clear hRR
 go_wp2
 go_ret
 unfold Jj
 rw [un HRR]
 exact ⟨rfl,un HB5,un HO5⟩
theorem Zwl (base bs:Nat) (V:Key→Value) (s:St) (i cp bp op n fi ai cb co cl cc:Nat) (KD:Int) (a:Int) (w:World) (h:Zi base w bs V s) (hd:DoAt base w s i bp op n fi ai cb co cl cc KD a) (hk0:KD≠0) (hk1:KD≠1) (hk2:KD≠2) (hk3:KD≠3) (hk9:KD≠9) (hk10:KD≠10) (hk11:KD≠11) (hk12:KD≠12) (hk13:KD≠13) (hk14:KD≠14) (hk15:KD≠15) (hk16:KD≠16) (hst2:1<(Ze s i ((Zc s i).frames.length - 1)).stack.length) :
  Calls Tryd.prog 89 #[.slice (some ⟨bp,op,none⟩) n cp,.pointer (some ⟨bs,0,none⟩)] w fun e w'=>Jj base bs (Qb (Zj (Zj (Zf s i ai))) i (Zaz KD (Zv (Zj (Zf s i ai))) (Zv (Zf s i ai))),0) w e w':=by
 generalize hR:(Qb (Zj (Zj (Zf s i ai))) i (Zaz KD (Zv (Zj (Zf s i ai))) (Zv (Zf s i ai))),(0:Int))=R
 have HR:=Za hR
 clear hR
 obtain ⟨hn,hr,hfn,hat,hfin,hain,hcl,hpc⟩:=hd
 have hj:(Zc s i).frames.length - 1<(Zc s i).frames.length:=by have:=hr.fr;omega
 obtain ⟨g,cap,eg,htop⟩:=Yu h hr.lt hr.fr hr.frs
 obtain ⟨b0,b1,_,_⟩:=h.cells
 rw [hn] at b1
 have HTOP:=Za htop
 have HO:=Za h
 have HPC:=Za hpc
 have HRU:=Za hr
 have HNX:=Za (Wb hn hr ai)
 have HEG:=Za eg
 have hf1:(fi:Int)<(n:Int):=by omega
 have hf0:(0:Int)≤(fi:Int):=by omega
 have ha1:(ai:Int)<(cl:Int):=by omega
 have ha0:(0:Int)≤(ai:Int):=by omega
 have hwa:IntKind.i64.wrap ((ai:Int)+1)=(ai:Int)+1:=by rw [IntKind.wrap_i64];omega
 generalize hjj:(Zc s i).frames.length - 1=j at *
 have HJJ:=Za hjj
 clear htop h hpc hr eg hjj
 go_enter Tryd.func89,Tryd.ntmps89
 go_wp2_with fail
 refine (un HTOP).mono ?_
 rintro _ _ ⟨rfl,m0,rfl⟩
 have ho1:Zi base (w.drewN m0) bs V s:=(un HO).same rfl
 have hb1:Below base w (w.drewN m0):=below_drewN (Below.refl _ _) m0
 generalize w.drewN m0=w1 at ho1 hb1 ⊢
 obtain ⟨g',cap',eg',hcap,k0,k1,k2,k3,fz,hbg⟩:=ho1.own.fr (i:=i) (j:=j) (un HRU).lt hj
 have hVg:V (.frames i)=.slice (some ⟨g,0,none⟩) (Zc s i).frames.length cap:=un HEG
 obtain ⟨rfl,rfl⟩:g=g'∧cap=cap':=by rw [hVg] at eg';simpa using eg'
 rw [hfn] at k0
 rw [hat] at k1
 obtain ⟨x0,x1,x2⟩:=(un HPC) w1 hb1
 have HY:Hid (∀ u,Zb w1 u→u.cell? ⟨g,j*4,none⟩=some (.int .i64 fi)∧u.cell? ⟨g,j*4+1,none⟩=some (.int .i64 ai)∧u.cell? ⟨bp,op+fi*3+2,none⟩=some (.slice (some ⟨cb,co,none⟩) cl cc)∧u.cell? ⟨cb,co+ai*2,none⟩=some (.int .i64 KD)∧u.cell? ⟨cb,co+ai*2+1,none⟩=some (.int .i64 a)):=Za (fun u hu=>⟨hu.cell k0,hu.cell k1,hu.cell x0,hu.cell x1,hu.cell x2⟩)
 have HO1:=Za ho1
 have HB1:=Za hb1
 have hgl:=Xo k0
 simp only at hgl
 have HGL:=Za hgl
 have hlow:=ho1.low
 have hbw:=lt_of_block ho1.var
 clear ho1 hb1 k0 k1 k2 k3 x0 x1 x2 fz eg' hgl HTOP
 go_wp2_with fail
 go_region_held3 (fun u=>u.cell? ⟨g,j*4,none⟩=some (.int .i64 fi)∧u.cell? ⟨g,j*4+1,none⟩=some (.int .i64 ai)∧u.cell? ⟨bp,op+fi*3+2,none⟩=some (.slice (some ⟨cb,co,none⟩) cl cc)∧u.cell? ⟨cb,co+ai*2,none⟩=some (.int .i64 KD)∧u.cell? ⟨cb,co+ai*2+1,none⟩=some (.int .i64 a)) (exact (un HY) _ (by repeat (first | exact Zb.refl _ | refine Zb.drew ?_ | refine Zb.alloc ?_ _ | refine Zb.setCell ?_ (by simp) _))) (fail)
 rename_i hheld
 clear hheld HY
 have LX:(w1.alloc (.cells #[.int .i64 KD,.int .i64 a] 86)).drew.heap[w1.heap.size]?=some (.cells #[.int .i64 KD,.int .i64 a] 86):=Xi (Zg rfl)
 have ho2:Zi base (w1.alloc (.cells #[.int .i64 KD,.int .i64 a] 86)).drew bs V s:=((un HO1).alloc _).same rfl
 have hb2:Below base w (w1.alloc (.cells #[.int .i64 KD,.int .i64 a] 86)).drew:=(Below.alloc (un HB1) (by omega) _).drew
 have hoffX:Own.off V s w1.heap.size:=(un HO1).own.new_off (.inl (Nat.le_refl _))
 have hXb:base≤w1.heap.size:=by omega
 have hXs:bs≠w1.heap.size:=by omega
 have hXg:w1.heap.size≠g:=by have:=un HGL;omega
 generalize (w1.alloc (.cells #[.int .i64 KD,.int .i64 a] 86)).drew=w2 at LX ho2 hb2 ⊢
 generalize w1.heap.size=X at LX hoffX hXb hXs hXg ⊢
 obtain ⟨_,_,eg2,_,_,k1,k2,_,fz,hbg2⟩:=ho2.own.fr (i:=i) (j:=j) (un HRU).lt hj
 obtain ⟨rfl,rfl⟩:=(by rw [hVg] at eg2;simpa using eg2:g=_∧cap=_)
 rw [hat] at k1
 have fz1:=fz (j*4+1)
 obtain ⟨ho3,hb3⟩:=ho2.setAt (un HRU).lt hj hVg ((ai:Int)+1)
 have ho3':Zi base (w2.setCell ⟨g,j*4+1,none⟩ (.int .i64 ((ai:Int)+1))) bs V (Zf s i ai):=by unfold Zf;rw [un HJJ];exact ho3
 have LX3:=Zz LX (a:=⟨g,j*4+1,none⟩) hXg (.int .i64 ((ai:Int)+1))
 have y0:=Zd LX3 0
 have y1:=Zd LX3 1
 have HO3:=Za ho3'
 have HB3:=Za (Below.trans hb2 hb3)
 have HLX:=Za LX3
 have HOX:=Za hoffX
 clear ho2 hb2 ho3 ho3' hb3 LX LX3 fz eg2 HO1 HB1 HO hoffX
 have bk0:(KD == 0)=false:=beq_eq_false_iff_ne.2 hk0
 have bk1:(KD == 1)=false:=beq_eq_false_iff_ne.2 hk1
 have bk2:(KD == 2)=false:=beq_eq_false_iff_ne.2 hk2
 have bk3:(KD == 3)=false:=beq_eq_false_iff_ne.2 hk3
 have bk9:(KD == 9)=false:=beq_eq_false_iff_ne.2 hk9
 have bk10:(KD == 10)=false:=beq_eq_false_iff_ne.2 hk10
 have bk11:(KD == 11)=false:=beq_eq_false_iff_ne.2 hk11
 have bk12:(KD == 12)=false:=beq_eq_false_iff_ne.2 hk12
 have bk13:(KD == 13)=false:=beq_eq_false_iff_ne.2 hk13
 have bk14:(KD == 14)=false:=beq_eq_false_iff_ne.2 hk14
 have bk15:(KD == 15)=false:=beq_eq_false_iff_ne.2 hk15
 have bk16:(KD == 16)=false:=beq_eq_false_iff_ne.2 hk16
 clear hk0 hk1 hk2 hk3 hk9 hk10 hk11 hk12 hk13 hk14 hk15 hk16
 go_wp2_with fail
 generalize w2.setCell ⟨g,j*4+1,none⟩ (.int .i64 ((ai:Int)+1))=w3 at HO3 HB3 y0 y1 HLX ⊢
 have hgb:(V (.frames i)).ownBlock=some g:=by rw [hVg];rfl
 have HGB:=Za hgb
 clear hgb
 obtain ⟨n1,n2,n3,n4,n5,n6,n7,n8⟩:=un HNX
 have hjn:(Zc (Zf s i ai) i).frames.length - 1=j:=by rw [n5];exact un HJJ
 have hsl:1<(Ze (Zf s i ai) i ((Zc (Zf s i ai) i).frames.length - 1)).stack.length:=by rw [hjn,n6];exact hst2
 have HPL:=Za (Px base bs V (Zf s i ai) i w3 (un HO3) n1 n8.lt n8.fr n8.frs n8.st (by omega))
 obtain ⟨p1,p2,p3,p4,p5,p6,p7⟩:=Pa n1 n8.lt n8.fr
 have r1:=n8.pull n1
 have hsl1:0<(Ze (Zj (Zf s i ai)) i ((Zc (Zj (Zf s i ai)) i).frames.length - 1)).stack.length:=by rw [p5,p6,List.length_dropLast];omega
 obtain ⟨q1,q2,q3,q4,q5,q6,q7⟩:=Pa p2 r1.lt r1.fr
 have r2:=r1.pull p2
 have HP2:=Za (fun (V4:Key→Value) (w4:World) (h4:Zi base w4 bs V4 (Zj (Zf s i ai)))=>Px base bs V4 (Zj (Zf s i ai)) i w4 h4 p2 r1.lt r1.fr r1.frs r1.st hsl1)
 have HPU:=Za (fun (V5:Key→Value) (w5:World) (z:Int) (h5:Zi base w5 bs V5 (Zj (Zj (Zf s i ai))))=>Zbd base bs V5 (Zj (Zj (Zf s i ai))) i z w5 h5 r2.lt r2.fr r2.frs r2.st)
 have hq2:(Zj (Zj (Zf s i ai))).now=i:=q2
 generalize Zv (Zj (Zf s i ai))=va at HP2 HR
 generalize Zv (Zf s i ai)=vb at HPL HR
 generalize Zj (Zj (Zf s i ai))=s2 at HP2 HPU hq2 HR
 generalize Zj (Zf s i ai)=s1 at HPL HP2
 clear n1 n2 n3 n4 n5 n6 n7 n8 p1 p2 p3 p4 p5 p6 p7 q1 q2 q3 q4 q5 q6 q7 r1 r2 hsl hsl1 y0 y1
 refine (un HPL).mono ?_
 rintro _ w4 ⟨rfl,V4,ho4,hb4,hf4,_,hh4⟩
 have LX4:w4.heap[X]?=_:=(hh4 X (by rw [un HGB];intro e;exact hXg (Option.some.inj e).symm)).trans (un HLX)
 have HLX4:=Za LX4
 have HB4:=Za (Below.trans (un HB3) hb4)
 have HC2:=Za ((un HP2) V4 w4 ho4)
 have HG4:Hid ((V4 (.frames i)).ownBlock=some g):=Za (by rw [hf4];exact un HGB)
 clear ho4 hb4 hf4 hh4 LX4 HP2 HPL
 go_wp2_with fail
 refine (un HC2).mono ?_
 rintro _ w5 ⟨rfl,V5,ho5,hb5,hf5,_,hh5⟩
 have LX5:w5.heap[X]?=_:=(hh5 X (by rw [un HG4];intro e;exact hXg (Option.some.inj e).symm)).trans (un HLX4)
 have z0:=Zd LX5 0
 obtain ⟨_,c1,_,_⟩:=ho5.cells
 rw [hq2] at c1
 have HPU5:=Za (fun (u:World) (hu:u.heap=w5.heap) (z:Int)=>(un HPU) V5 u z (ho5.same hu))
 have HB5:=Za (Below.trans (un HB4) hb5)
 have HYS:Hid (∀ u,Zb w5 u→u.cell? ⟨bs,1,none⟩=some (.int .i64 i)∧u.cell? ⟨X,0,none⟩=some (.int .i64 KD)):=Za (fun u hu=>⟨hu.cell c1,hu.cell z0⟩)
 clear ho5 hb5 hf5 hh5 LX5 HC2 z0 c1 HPU
 go_wp2_with fail
 refine Zac 10 (fun u=>u.cell? ⟨bs,1,none⟩=some (.int .i64 i)∧u.cell? ⟨X,0,none⟩=some (.int .i64 KD)) (by kernel_rfl) ?_
 have hHeld:=(un HYS) _ (Zb.refl w5).drew
 refine Zt (i:=0) (v:=?_) rfl (by kernel_rfl) (by kernel_rfl) (by kernel_rfl) (by kernel_rfl) (fun _ _ _ h=>h) (by rfl) (fun u hSu=>?_) hHeld ?_
 rotate_left
 ·((try dsimp only at hSu);go_simp) <;> with_reducible rfl
 try simp only [PS]
 refine Zt (i:=1) (v:=?_) rfl (by kernel_rfl) (by kernel_rfl) (by kernel_rfl) (by kernel_rfl) (fun _ _ _ h=>h) (by rfl) (fun u hSu=>?_) hHeld ?_
 rotate_left
 ·((try dsimp only at hSu);go_simp) <;> with_reducible rfl
 try simp only [PS]
 refine Zt (i:=2) (v:=?_) rfl (by kernel_rfl) (by kernel_rfl) (by kernel_rfl) (by kernel_rfl) (fun _ _ _ h=>h) (by rfl) (fun u hSu=>?_) hHeld ?_
 rotate_left
 ·((try dsimp only at hSu);go_simp) <;> with_reducible rfl
 try simp only [PS]
 refine Zt (i:=3) (v:=?_) rfl (by kernel_rfl) (by kernel_rfl) (by kernel_rfl) (by kernel_rfl) (fun _ _ _ h=>h) (by rfl) (fun u hSu=>?_) hHeld ?_
 rotate_left
 ·((try dsimp only at hSu);go_simp) <;> with_reducible rfl
 try simp only [PS]
 refine Zt (i:=4) (v:=?_) rfl (by kernel_rfl) (by kernel_rfl) (by kernel_rfl) (by kernel_rfl) (fun _ _ _ h=>h) (by rfl) (fun u hSu=>?_) hHeld ?_
 rotate_left
 ·((try dsimp only at hSu);go_simp) <;> with_reducible rfl
 try simp only [PS]
 refine Zt (i:=5) (v:=?_) rfl (by kernel_rfl) (by kernel_rfl) (by kernel_rfl) (by kernel_rfl) (fun _ _ _ h=>h) (by rfl) (fun u hSu=>?_) hHeld ?_
 rotate_left
 ·((try dsimp only at hSu);go_simp) <;> with_reducible rfl
 try simp only [PS]
 refine Zt (i:=6) (v:=?_) rfl (by kernel_rfl) (by kernel_rfl) (by kernel_rfl) (by kernel_rfl) (fun _ _ _ h=>h) (by rfl) (fun u hSu=>?_) hHeld ?_
 rotate_left
 ·((try dsimp only at hSu);go_simp) <;> with_reducible rfl
 try simp only [PS]
 refine Zt (i:=7) (v:=?_) rfl (by kernel_rfl) (by kernel_rfl) (by kernel_rfl) (by kernel_rfl) (fun _ _ _ h=>h) (by rfl) (fun u hSu=>?_) hHeld ?_
 rotate_left
 ·((try dsimp only at hSu);go_simp) <;> with_reducible rfl
 try simp only [PS]
 refine Zt (i:=8) (v:=?_) rfl (by kernel_rfl) (by kernel_rfl) (by kernel_rfl) (by kernel_rfl) (fun _ _ _ h=>h) (by rfl) (fun u hSu=>?_) hHeld ?_
 rotate_left
 ·((try dsimp only at hSu);go_simp) <;> with_reducible rfl
 try simp only [PS]
 refine Xl (i:=9) rfl (by kernel_rfl) (fun K hK=>?_)
 go_simp
 refine (Zzy _ _ _ _).mono ?_
 rintro _ _ ⟨rfl,rfl⟩
 refine hK.out _ _ (fun _=>hHeld) ?_
 clear hK K
 generalize hz:Zaz KD va vb=zz
 have HZ:=Za hz
 clear hz
 try simp only [PS]
 refine Xl (i:=10) rfl (by kernel_rfl) (fun K hK=>?_)
 go_simp
 refine ((un HPU5) w5.drew rfl zz).mono ?_
 rintro _ w6 ⟨rfl,V6,ho6,hb6⟩
 refine hK.out _ _ (fun h=>absurd rfl h) ?_
 clear hK K
 refine Uj (by kernel_rfl) ?_ _
 clear hHeld
 have HO6:=Za ho6
 have HB6:=Za (Below.trans (un HB5) (Below.trans (Below.drew (Below.refl _ w5)) hb6))
 clear ho6 hb6 HPU5 HYS
 go_wp2
 go_ret
 unfold Jj
 rw [← un HR,un HZ]
 exact ⟨rfl,un HB6,fun _=>⟨V6,un HO6⟩⟩
theorem Zsy (base bs:Nat) (V:Key→Value) (s:St) (i cp bp op n fi ai cb co cl cc:Nat) (a:Int) (w:World) (h:Zi base w bs V s) (hd:DoAt base w s i bp op n fi ai cb co cl cc 10 a) (hst0:0<(Ze s i ((Zc s i).frames.length - 1)).stack.length) :
  Calls Tryd.prog 89 #[.slice (some ⟨bp,op,none⟩) n cp,.pointer (some ⟨bs,0,none⟩)] w fun e w'=>Jj base bs (if Zv (Zf s i ai)=0 then Yj (Zj (Zf s i ai)) a else Zj (Zf s i ai),0) w e w':=by
 generalize hR:((if Zv (Zf s i ai)=0 then Yj (Zj (Zf s i ai)) a else Zj (Zf s i ai)),(0:Int))=R
 have HR:=Za hR
 clear hR
 obtain ⟨hn,hr,hfn,hat,hfin,hain,hcl,hpc⟩:=hd
 have hj:(Zc s i).frames.length - 1<(Zc s i).frames.length:=by have:=hr.fr;omega
 obtain ⟨g,cap,eg,htop⟩:=Yu h hr.lt hr.fr hr.frs
 obtain ⟨b0,b1,_,_⟩:=h.cells
 rw [hn] at b1
 have HTOP:=Za htop
 have HO:=Za h
 have HPC:=Za hpc
 have HRU:=Za hr
 have HNX:=Za (Wb hn hr ai)
 have HEG:=Za eg
 have hf1:(fi:Int)<(n:Int):=by omega
 have hf0:(0:Int)≤(fi:Int):=by omega
 have ha1:(ai:Int)<(cl:Int):=by omega
 have ha0:(0:Int)≤(ai:Int):=by omega
 have hwa:IntKind.i64.wrap ((ai:Int)+1)=(ai:Int)+1:=by rw [IntKind.wrap_i64];omega
 generalize hjj:(Zc s i).frames.length - 1=j at *
 have HJJ:=Za hjj
 clear htop h hpc hr eg hjj
 go_enter Tryd.func89,Tryd.ntmps89
 go_wp2_with fail
 refine (un HTOP).mono ?_
 rintro _ _ ⟨rfl,m0,rfl⟩
 have ho1:Zi base (w.drewN m0) bs V s:=(un HO).same rfl
 have hb1:Below base w (w.drewN m0):=below_drewN (Below.refl _ _) m0
 generalize w.drewN m0=w1 at ho1 hb1 ⊢
 obtain ⟨g',cap',eg',hcap,k0,k1,k2,k3,fz,hbg⟩:=ho1.own.fr (i:=i) (j:=j) (un HRU).lt hj
 have hVg:V (.frames i)=.slice (some ⟨g,0,none⟩) (Zc s i).frames.length cap:=un HEG
 obtain ⟨rfl,rfl⟩:g=g'∧cap=cap':=by rw [hVg] at eg';simpa using eg'
 rw [hfn] at k0
 rw [hat] at k1
 obtain ⟨x0,x1,x2⟩:=(un HPC) w1 hb1
 have HY:Hid (∀ u,Zb w1 u→u.cell? ⟨g,j*4,none⟩=some (.int .i64 fi)∧u.cell? ⟨g,j*4+1,none⟩=some (.int .i64 ai)∧u.cell? ⟨bp,op+fi*3+2,none⟩=some (.slice (some ⟨cb,co,none⟩) cl cc)∧u.cell? ⟨cb,co+ai*2,none⟩=some (.int .i64 10)∧u.cell? ⟨cb,co+ai*2+1,none⟩=some (.int .i64 a)):=Za (fun u hu=>⟨hu.cell k0,hu.cell k1,hu.cell x0,hu.cell x1,hu.cell x2⟩)
 have HO1:=Za ho1
 have HB1:=Za hb1
 have hgl:=Xo k0
 simp only at hgl
 have HGL:=Za hgl
 have hlow:=ho1.low
 have hbw:=lt_of_block ho1.var
 clear ho1 hb1 k0 k1 k2 k3 x0 x1 x2 fz eg' hgl HTOP
 go_wp2_with fail
 go_region_held3 (fun u=>u.cell? ⟨g,j*4,none⟩=some (.int .i64 fi)∧u.cell? ⟨g,j*4+1,none⟩=some (.int .i64 ai)∧u.cell? ⟨bp,op+fi*3+2,none⟩=some (.slice (some ⟨cb,co,none⟩) cl cc)∧u.cell? ⟨cb,co+ai*2,none⟩=some (.int .i64 10)∧u.cell? ⟨cb,co+ai*2+1,none⟩=some (.int .i64 a)) (exact (un HY) _ (by repeat (first | exact Zb.refl _ | refine Zb.drew ?_ | refine Zb.alloc ?_ _ | refine Zb.setCell ?_ (by simp) _))) (fail)
 rename_i hheld
 clear hheld HY
 have LX:(w1.alloc (.cells #[.int .i64 10,.int .i64 a] 86)).drew.heap[w1.heap.size]?=some (.cells #[.int .i64 10,.int .i64 a] 86):=Xi (Zg rfl)
 have ho2:Zi base (w1.alloc (.cells #[.int .i64 10,.int .i64 a] 86)).drew bs V s:=((un HO1).alloc _).same rfl
 have hb2:Below base w (w1.alloc (.cells #[.int .i64 10,.int .i64 a] 86)).drew:=(Below.alloc (un HB1) (by omega) _).drew
 have hoffX:Own.off V s w1.heap.size:=(un HO1).own.new_off (.inl (Nat.le_refl _))
 have hXb:base≤w1.heap.size:=by omega
 have hXs:bs≠w1.heap.size:=by omega
 have hXg:w1.heap.size≠g:=by have:=un HGL;omega
 generalize (w1.alloc (.cells #[.int .i64 10,.int .i64 a] 86)).drew=w2 at LX ho2 hb2 ⊢
 generalize w1.heap.size=X at LX hoffX hXb hXs hXg ⊢
 obtain ⟨_,_,eg2,_,_,k1,k2,_,fz,hbg2⟩:=ho2.own.fr (i:=i) (j:=j) (un HRU).lt hj
 obtain ⟨rfl,rfl⟩:=(by rw [hVg] at eg2;simpa using eg2:g=_∧cap=_)
 rw [hat] at k1
 have fz1:=fz (j*4+1)
 obtain ⟨ho3,hb3⟩:=ho2.setAt (un HRU).lt hj hVg ((ai:Int)+1)
 have ho3':Zi base (w2.setCell ⟨g,j*4+1,none⟩ (.int .i64 ((ai:Int)+1))) bs V (Zf s i ai):=by unfold Zf;rw [un HJJ];exact ho3
 have LX3:=Zz LX (a:=⟨g,j*4+1,none⟩) hXg (.int .i64 ((ai:Int)+1))
 have y0:=Zd LX3 0
 have y1:=Zd LX3 1
 have HO3:=Za ho3'
 have HB3:=Za (Below.trans hb2 hb3)
 have HLX:=Za LX3
 have HOX:=Za hoffX
 clear ho2 hb2 ho3 ho3' hb3 LX LX3 fz eg2 HO1 HB1 HO hoffX
 go_wp2_with fail
 generalize w2.setCell ⟨g,j*4+1,none⟩ (.int .i64 ((ai:Int)+1))=w3 at HO3 HB3 y0 y1 HLX ⊢
 have hgb:(V (.frames i)).ownBlock=some g:=by rw [hVg];rfl
 have HGB:=Za hgb
 clear hgb
 obtain ⟨n1,n2,n3,n4,n5,n6,n7,n8⟩:=un HNX
 have hjn:(Zc (Zf s i ai) i).frames.length - 1=j:=by rw [n5];exact un HJJ
 have HPL:=Za (Px base bs V (Zf s i ai) i w3 (un HO3) n1 n8.lt n8.fr n8.frs n8.st (by rw [hjn,n6];exact hst0))
 obtain ⟨p1,p2,p3,p4,p5,p6,p7⟩:=Pa n1 n8.lt n8.fr
 have r1:=n8.pull n1
 have hjp:(Zc (Zj (Zf s i ai)) i).frames.length - 1=j:=by rw [p5];exact hjn
 have hjp':j<(Zc (Zj (Zf s i ai)) i).frames.length:=by rw [p5,n5];exact hj
 have hlp:(Zc (Zj (Zf s i ai)) i).frames.length=(Zc s i).frames.length:=by rw [p5,n5]
 generalize Zv (Zf s i ai)=z at HPL HR
 generalize Zj (Zf s i ai)=s1 at HPL HR p2 r1 hjp hjp' hlp
 clear n1 n2 n3 n4 n5 n6 n7 n8 p1 p3 p4 p5 p6 p7 y0 y1 hjn
 refine (un HPL).mono ?_
 rintro _ w4 ⟨rfl,V4,ho4,hb4,hf4,_,hh4⟩
 have LX4:w4.heap[X]?=_:=(hh4 X (by rw [un HGB];intro e;exact hXg (Option.some.inj e).symm)).trans (un HLX)
 have z1:=Zd LX4 1
 have hV4:V4 (.frames i)=.slice (some ⟨g,0,none⟩) (Zc s1 i).frames.length cap:=by rw [hf4,hVg,hlp]
 obtain ⟨g4,cap4,eg4,_,_,m1,_,_,fz4,_⟩:=ho4.own.fr (i:=i) (j:=j) r1.lt hjp'
 obtain ⟨rfl,rfl⟩:g=g4∧cap=cap4:=by rw [hV4] at eg4;simpa using eg4
 have fzj:=fz4 (j*4+1)
 obtain ⟨ho5,hb5⟩:=ho4.setAt r1.lt hjp' hV4 a
 have HO4:=Za ho4
 have HB4:=Za (Below.trans (un HB3) hb4)
 have HO5:Hid (Zi base (w4.setCell ⟨g,j*4+1,none⟩ (.int .i64 a)) bs V4 (Yj s1 a)):=Za (by rw [Zgn p2,hjp];exact ho5)
 have HB5:=Za (Below.trans (Below.trans (un HB3) hb4) hb5)
 clear ho4 hb4 hf4 hh4 LX4 HPL hV4 eg4 fz4 ho5 hb5
 by_cases hz:z=0
 ·have hR:=un HR
  rw [if_pos hz] at hR
  subst hR hz
  go_wp2
  go_ret
  exact ⟨rfl,un HB5,fun _=>⟨V4,un HO5⟩⟩
 ·have hR:=un HR
  rw [if_neg hz] at hR
  subst hR
  have bz:(z == 0)=false:=beq_eq_false_iff_ne.2 hz
  go_wp2
  go_ret
  exact ⟨rfl,un HB4,fun _=>⟨V4,un HO4⟩⟩
theorem Xav (base bs:Nat) (V:Key→Value) (s:St) (i cp bp op n fi ai cb co cl cc:Nat) (a:Int) (w:World) (h:Zi base w bs V s) (hd:DoAt base w s i bp op n fi ai cb co cl cc 2 a) (al:Nat) (hal:a=al) (hlt:al<(Ze s i ((Zc s i).frames.length - 1)).locals.length) :
  Calls Tryd.prog 89 #[.slice (some ⟨bp,op,none⟩) n cp,.pointer (some ⟨bs,0,none⟩)] w fun e w'=>Jj base bs (Qb (Zf s i ai) i ((Zf s i ai).top.locals.getD a.toNat 0),0) w e w':=by
 subst hal
 generalize hR:(Qb (Zf s i ai) i ((Zf s i ai).top.locals.getD (al:Int).toNat 0),(0:Int))=R
 have HR:=Za hR
 clear hR
 obtain ⟨hn,hr,hfn,hat,hfin,hain,hcl,hpc⟩:=hd
 have hj:(Zc s i).frames.length - 1<(Zc s i).frames.length:=by have:=hr.fr;omega
 obtain ⟨g,cap,eg,htop⟩:=Yu h hr.lt hr.fr hr.frs
 obtain ⟨b0,b1,_,_⟩:=h.cells
 rw [hn] at b1
 have HTOP:=Za htop
 have HO:=Za h
 have HPC:=Za hpc
 have HRU:=Za hr
 have HNX:=Za (Wb hn hr ai)
 have HEG:=Za eg
 have hf1:(fi:Int)<(n:Int):=by omega
 have hf0:(0:Int)≤(fi:Int):=by omega
 have ha1:(ai:Int)<(cl:Int):=by omega
 have ha0:(0:Int)≤(ai:Int):=by omega
 have hwa:IntKind.i64.wrap ((ai:Int)+1)=(ai:Int)+1:=by rw [IntKind.wrap_i64];omega
 generalize hjj:(Zc s i).frames.length - 1=j at *
 have HJJ:=Za hjj
 clear htop h hpc hr eg hjj
 go_enter Tryd.func89,Tryd.ntmps89
 go_wp2_with fail
 refine (un HTOP).mono ?_
 rintro _ _ ⟨rfl,m0,rfl⟩
 have ho1:Zi base (w.drewN m0) bs V s:=(un HO).same rfl
 have hb1:Below base w (w.drewN m0):=below_drewN (Below.refl _ _) m0
 generalize w.drewN m0=w1 at ho1 hb1 ⊢
 obtain ⟨g',cap',eg',hcap,k0,k1,k2,k3,fz,hbg⟩:=ho1.own.fr (i:=i) (j:=j) (un HRU).lt hj
 have hVg:V (.frames i)=.slice (some ⟨g,0,none⟩) (Zc s i).frames.length cap:=un HEG
 obtain ⟨rfl,rfl⟩:g=g'∧cap=cap':=by rw [hVg] at eg';simpa using eg'
 rw [hfn] at k0
 rw [hat] at k1
 obtain ⟨x0,x1,x2⟩:=(un HPC) w1 hb1
 have HY:Hid (∀ u,Zb w1 u→u.cell? ⟨g,j*4,none⟩=some (.int .i64 fi)∧u.cell? ⟨g,j*4+1,none⟩=some (.int .i64 ai)∧u.cell? ⟨bp,op+fi*3+2,none⟩=some (.slice (some ⟨cb,co,none⟩) cl cc)∧u.cell? ⟨cb,co+ai*2,none⟩=some (.int .i64 2)∧u.cell? ⟨cb,co+ai*2+1,none⟩=some (.int .i64 (al:Int))):=Za (fun u hu=>⟨hu.cell k0,hu.cell k1,hu.cell x0,hu.cell x1,hu.cell x2⟩)
 have HO1:=Za ho1
 have HB1:=Za hb1
 have hgl:=Xo k0
 simp only at hgl
 have HGL:=Za hgl
 have hlow:=ho1.low
 have hbw:=lt_of_block ho1.var
 clear ho1 hb1 k0 k1 k2 k3 x0 x1 x2 fz eg' hgl HTOP
 go_wp2_with fail
 go_region_held3 (fun u=>u.cell? ⟨g,j*4,none⟩=some (.int .i64 fi)∧u.cell? ⟨g,j*4+1,none⟩=some (.int .i64 ai)∧u.cell? ⟨bp,op+fi*3+2,none⟩=some (.slice (some ⟨cb,co,none⟩) cl cc)∧u.cell? ⟨cb,co+ai*2,none⟩=some (.int .i64 2)∧u.cell? ⟨cb,co+ai*2+1,none⟩=some (.int .i64 (al:Int))) (exact (un HY) _ (by repeat (first | exact Zb.refl _ | refine Zb.drew ?_ | refine Zb.alloc ?_ _ | refine Zb.setCell ?_ (by simp) _))) (fail)
 rename_i hheld
 clear hheld HY
 have LX:(w1.alloc (.cells #[.int .i64 2,.int .i64 (al:Int)] 86)).drew.heap[w1.heap.size]?=some (.cells #[.int .i64 2,.int .i64 (al:Int)] 86):=Xi (Zg rfl)
 have ho2:Zi base (w1.alloc (.cells #[.int .i64 2,.int .i64 (al:Int)] 86)).drew bs V s:=((un HO1).alloc _).same rfl
 have hb2:Below base w (w1.alloc (.cells #[.int .i64 2,.int .i64 (al:Int)] 86)).drew:=(Below.alloc (un HB1) (by omega) _).drew
 have hoffX:Own.off V s w1.heap.size:=(un HO1).own.new_off (.inl (Nat.le_refl _))
 have hXb:base≤w1.heap.size:=by omega
 have hXs:bs≠w1.heap.size:=by omega
 have hXg:w1.heap.size≠g:=by have:=un HGL;omega
 generalize (w1.alloc (.cells #[.int .i64 2,.int .i64 (al:Int)] 86)).drew=w2 at LX ho2 hb2 ⊢
 generalize w1.heap.size=X at LX hoffX hXb hXs hXg ⊢
 obtain ⟨_,_,eg2,_,_,k1,k2,_,fz,hbg2⟩:=ho2.own.fr (i:=i) (j:=j) (un HRU).lt hj
 obtain ⟨rfl,rfl⟩:=(by rw [hVg] at eg2;simpa using eg2:g=_∧cap=_)
 rw [hat] at k1
 have fz1:=fz (j*4+1)
 obtain ⟨ho3,hb3⟩:=ho2.setAt (un HRU).lt hj hVg ((ai:Int)+1)
 have ho3':Zi base (w2.setCell ⟨g,j*4+1,none⟩ (.int .i64 ((ai:Int)+1))) bs V (Zf s i ai):=by unfold Zf;rw [un HJJ];exact ho3
 have LX3:=Zz LX (a:=⟨g,j*4+1,none⟩) hXg (.int .i64 ((ai:Int)+1))
 have y0:=Zd LX3 0
 have y1:=Zd LX3 1
 have HO3:=Za ho3'
 have HB3:=Za (Below.trans hb2 hb3)
 have HLX:=Za LX3
 have HOX:=Za hoffX
 clear ho2 hb2 ho3 ho3' hb3 LX LX3 fz eg2 HO1 HB1 HO hoffX
 go_wp2_with fail
 generalize w2.setCell ⟨g,j*4+1,none⟩ (.int .i64 ((ai:Int)+1))=w3 at HO3 HB3 y0 y1 HLX ⊢
 obtain ⟨n1,n2,n3,n4,n5,n6,n7,n8⟩:=un HNX
 obtain ⟨_,c1,_,_⟩:=(un HO3).cells
 rw [n1] at c1
 have hjn:(Zc (Zf s i ai) i).frames.length - 1=j:=by rw [n5];exact un HJJ
 have hjn':j<(Zc (Zf s i ai) i).frames.length:=by rw [n5];exact hj
 have hloc:(Zf s i ai).top.locals.getD (al:Int).toNat 0=(Ze s i j).locals.getD al 0:=by rw [Zfn n1,hjn,n6,Int.toNat_natCast]
 obtain ⟨g3,cap3,eg3,_,_,_,m2,_,_,_⟩:=(un HO3).own.fr (i:=i) (j:=j) n8.lt hjn'
 obtain ⟨rfl,rfl⟩:g=g3∧cap=cap3:=by rw [hVg,n5] at eg3;simpa using eg3
 have hrow:=(un HO3).own.loc (i:=i) (j:=j) n8.lt hjn'
 rw [n6] at hrow
 simp only [] at hrow
 obtain ⟨gl,cpl,el,_,hcell,_,_⟩:=Zbx hrow (by omega)
 have hv:=hcell al _ (Zci (Zq (Ze s i j).locals al 0 hlt))
 rw [el] at m2
 generalize (Ze s i j).locals.length=ll at hlt m2
 generalize hq:(Ze s i j).locals.getD al 0=q at hv hloc
 rw [hloc] at HR
 have HPU:=Za (fun (u:World) (hu:u.heap=w3.heap)=>Zbd base bs V (Zf s i ai) i q u ((un HO3).same hu) n8.lt n8.fr n8.frs n8.st)
 have hl1:(al:Int)<(ll:Int):=by omega
 have hl0:(0:Int)≤(al:Int):=by omega
 have HYS:Hid (∀ u,Zb w3 u→u.cell? ⟨bs,1,none⟩=some (.int .i64 i)∧u.cell? ⟨X,1,none⟩=some (.int .i64 al)∧u.cell? ⟨g,j*4+2,none⟩=some (.slice (some ⟨gl,0,none⟩) ll cpl)∧u.cell? ⟨gl,al,none⟩=some (.int .i64 q)):=Za (fun u hu=>⟨hu.cell c1,hu.cell y1,hu.cell m2,hu.cell hv⟩)
 clear c1 n1 n2 n3 n4 n5 n6 n7 n8 y0 y1 m2 hv hcell hrow el eg3 hloc hq
 refine Zac 13 (fun u=>u.cell? ⟨bs,1,none⟩=some (.int .i64 i)∧u.cell? ⟨X,1,none⟩=some (.int .i64 al)∧u.cell? ⟨g,j*4+2,none⟩=some (.slice (some ⟨gl,0,none⟩) ll cpl)∧u.cell? ⟨gl,al,none⟩=some (.int .i64 q)) (by kernel_rfl) ?_
 have hHeld:=(un HYS) _ (Zb.refl w3).drew
 refine Zt (i:=0) (v:=?_) rfl (by kernel_rfl) (by kernel_rfl) (by kernel_rfl) (by kernel_rfl) (fun _ _ _ h=>h) (by rfl) (fun u hSu=>?_) hHeld ?_
 rotate_left
 ·((try dsimp only at hSu);go_simp) <;> with_reducible rfl
 try simp only [PS]
 refine Zt (i:=1) (v:=?_) rfl (by kernel_rfl) (by kernel_rfl) (by kernel_rfl) (by kernel_rfl) (fun _ _ _ h=>h) (by rfl) (fun u hSu=>?_) hHeld ?_
 rotate_left
 ·((try dsimp only at hSu);go_simp) <;> with_reducible rfl
 try simp only [PS]
 refine Zt (i:=2) (v:=?_) rfl (by kernel_rfl) (by kernel_rfl) (by kernel_rfl) (by kernel_rfl) (fun _ _ _ h=>h) (by rfl) (fun u hSu=>?_) hHeld ?_
 rotate_left
 ·((try dsimp only at hSu);go_simp) <;> with_reducible rfl
 try simp only [PS]
 refine Zt (i:=3) (v:=?_) rfl (by kernel_rfl) (by kernel_rfl) (by kernel_rfl) (by kernel_rfl) (fun _ _ _ h=>h) (by rfl) (fun u hSu=>?_) hHeld ?_
 rotate_left
 ·((try dsimp only at hSu);go_simp) <;> with_reducible rfl
 try simp only [PS]
 refine Zt (i:=4) (v:=?_) rfl (by kernel_rfl) (by kernel_rfl) (by kernel_rfl) (by kernel_rfl) (fun _ _ _ h=>h) (by rfl) (fun u hSu=>?_) hHeld ?_
 rotate_left
 ·((try dsimp only at hSu);go_simp) <;> with_reducible rfl
 try simp only [PS]
 refine Zt (i:=5) (v:=?_) rfl (by kernel_rfl) (by kernel_rfl) (by kernel_rfl) (by kernel_rfl) (fun _ _ _ h=>h) (by rfl) (fun u hSu=>?_) hHeld ?_
 rotate_left
 ·((try dsimp only at hSu);go_simp) <;> with_reducible rfl
 try simp only [PS]
 refine Zt (i:=6) (v:=?_) rfl (by kernel_rfl) (by kernel_rfl) (by kernel_rfl) (by kernel_rfl) (fun _ _ _ h=>h) (by rfl) (fun u hSu=>?_) hHeld ?_
 rotate_left
 ·((try dsimp only at hSu);go_simp) <;> with_reducible rfl
 try simp only [PS]
 refine Zt (i:=7) (v:=?_) rfl (by kernel_rfl) (by kernel_rfl) (by kernel_rfl) (by kernel_rfl) (fun _ _ _ h=>h) (by rfl) (fun u hSu=>?_) hHeld ?_
 rotate_left
 ·((try dsimp only at hSu);go_simp) <;> with_reducible rfl
 try simp only [PS]
 refine Zt (i:=8) (v:=?_) rfl (by kernel_rfl) (by kernel_rfl) (by kernel_rfl) (by kernel_rfl) (fun _ _ _ h=>h) (by rfl) (fun u hSu=>?_) hHeld ?_
 rotate_left
 ·((try dsimp only at hSu);go_simp) <;> with_reducible rfl
 try simp only [PS]
 refine Zt (i:=9) (v:=?_) rfl (by kernel_rfl) (by kernel_rfl) (by kernel_rfl) (by kernel_rfl) (fun _ _ _ h=>h) (by rfl) (fun u hSu=>?_) hHeld ?_
 rotate_left
 ·((try dsimp only at hSu);go_simp) <;> with_reducible rfl
 try simp only [PS]
 refine Zt (i:=10) (v:=?_) rfl (by kernel_rfl) (by kernel_rfl) (by kernel_rfl) (by kernel_rfl) (fun _ _ _ h=>h) (by rfl) (fun u hSu=>?_) hHeld ?_
 rotate_left
 ·((try dsimp only at hSu);go_simp) <;> with_reducible rfl
 try simp only [PS]
 refine Zt (i:=11) (v:=?_) rfl (by kernel_rfl) (by kernel_rfl) (by kernel_rfl) (by kernel_rfl) (fun _ _ _ h=>h) (by rfl) (fun u hSu=>?_) hHeld ?_
 rotate_left
 ·((try dsimp only at hSu);go_simp) <;> with_reducible rfl
 try simp only [PS]
 refine Zt (i:=12) (v:=?_) rfl (by kernel_rfl) (by kernel_rfl) (by kernel_rfl) (by kernel_rfl) (fun _ _ _ h=>h) (by rfl) (fun u hSu=>?_) hHeld ?_
 rotate_left
 ·((try dsimp only at hSu);go_simp) <;> with_reducible rfl
 try simp only [PS]
 refine Xl (i:=13) rfl (by kernel_rfl) (fun K hK=>?_)
 go_simp
 refine ((un HPU) w3.drew rfl).mono ?_
 rintro _ w4 ⟨rfl,V4,ho4,hb4⟩
 refine hK.out _ _ (fun h=>absurd rfl h) ?_
 clear hK K
 refine Uj (by kernel_rfl) ?_ _
 clear hHeld
 have HO4:=Za ho4
 have HB4:=Za (Below.trans (Below.drew (Below.refl _ w3)) hb4)
 clear ho4 hb4 HPU HYS
 go_wp2
 go_ret
 unfold Jj
 rw [← un HR]
 exact ⟨rfl,Below.trans (un HB3) (un HB4),fun _=>⟨V4,un HO4⟩⟩
end Go.Proofs.YtblihfpigjiahaaDoor
