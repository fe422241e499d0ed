/- StateZa, StateJ, EngS, OwnK, CloneA -/
import Derived.Test.YtblihfpigjiahaaDoorWB27
import Derived.Deep.RegionHeld3
import Derived.Deep.DeepCutAuto
import Derived.Deep.RegionHeld2
import Derived.Test.YtblihfpigjiahaaDoorWB28
import Derived.Test.YtblihfpigjiahaaDoorWB16
import Derived.Laws.Pointers
import Derived.Test.YtblihfpigjiahaaDoorWB25
import Derived.Test.YtblihfpigjiahaaDoorWB13
import Derived.Test.YtblihfpigjiahaaDoorWB24
import Derived.Laws.Cover3
set_option maxRecDepth 100000
set_option maxHeartbeats 8000000
namespace Go.Proofs.YtblihfpigjiahaaDoor
open Go.RowKit
theorem Zuh (p:List Fn) (s:St) (nn N cf bf off:Nat) (vO vp vh:Value) (b:Fb) (vfr:Value) (w:World) (hN:nn<N)
  (hj:Wj w (.agg #[.slice (some ⟨bf,off,none⟩) N cf,.int .i64 s.now,vO,vp,vh]) p s) (hl:Um p) (hbd:Zco p)
  (k0:w.cell? ⟨bf,off+nn*2,none⟩=some vfr) (hf:Ys w vfr b.frames) (hb:s.fibers.getD nn Fb.zero=b) (hn:0<b.frames.length) (hfl:b.frames.length≤1000) (hall:b.frames.all (Xb p)=true) (r:Bool) (hr:Wk p s nn false=r) :
  Calls Tryd.prog 56 #[.agg #[.slice (some ⟨bf,off,none⟩) N cf,.int .i64 s.now,vO,vp,vh],.int .i64 nn,.bool false] w fun e w'=>e=Yv 1 r∧Zb w w':=by
 rw [Zob hb hn] at hr
 have hin:∀ i,i<b.frames.length→Yg p (b.frames.getD i Fr.zero):=fun i hi=>Yg.of (Zad hall hi)
 have haw:=askW hj hl hbd
 have hht:∀ (u:Value) (x:Fr) (y:World),Zb w y→FrV y u x→Yg p x→Calls Tryd.prog 73 #[.agg #[.slice (some ⟨bf,off,none⟩) N cf,.int .i64 s.now,vO,vp,vh],u] y fun e w'=>e=.returned (.int .i64 (hAt p x))∧Zb y w':=fun u x y hy hx h=>Zfr p s _ u x y (hj.kept hy) hx hl h
 have hfv:∀ i,i<b.frames.length→∃ bg og vl vs,vfr=.slice (some ⟨bg,og,none⟩) b.frames.length (match vfr with | .slice _ _ c=>c | _=>0)∧w.cell? ⟨bg,og+i*4,none⟩=some (.int .i64 (b.frames.getD i Fr.zero).fn)∧w.cell? ⟨bg,og+i*4+1,none⟩=some (.int .i64 (b.frames.getD i Fr.zero).at_)∧w.cell? ⟨bg,og+i*4+2,none⟩=some vl∧w.cell? ⟨bg,og+i*4+3,none⟩=some vs∧Xn w vl (b.frames.getD i Fr.zero).locals∧Xn w vs (b.frames.getD i Fr.zero).stack:=by
  intro i hi
  obtain ⟨oa,cap,e,_,hc⟩:=id hf
  obtain ⟨b',o',vl,vs,e1,r⟩:=hc i _ (Zq b.frames i Fr.zero hi)
  subst e e1
  exact ⟨b',o',vl,vs,rfl,r⟩
 have hfresh:∀ y,Zb w y→Calls Tryd.prog 74 #[.agg #[.slice (some ⟨bf,off,none⟩) N cf,.int .i64 s.now,vO,vp,vh],vfr] y fun e w'=>e=.returned (.bool (Jy p b))∧Zb y w':=fun y hy=>Zod p s _ _ b y (hj.kept hy) (hf.kept hy) hn (fun x hx=>by
  have:=Yg.of (List.all_eq_true.1 hall x hx)
  exact ⟨this.fn0,this.fn1⟩)
 obtain ⟨ofr,cfr,rfl,⟨hq8,hqc⟩,-⟩:=id hf
 obtain ⟨bg,og,_,_,e0,_⟩:=hfv 0 hn
 obtain ⟨rfl,-⟩:=(by simpa using e0:ofr=some ⟨bg,og,none⟩∧True)
 have hcl:∀ i,i<b.frames.length→∃ vl vs,w.cell? ⟨bg,og+i*4,none⟩=some (.int .i64 (b.frames.getD i Fr.zero).fn)∧w.cell? ⟨bg,og+i*4+1,none⟩=some (.int .i64 (b.frames.getD i Fr.zero).at_)∧w.cell? ⟨bg,og+i*4+2,none⟩=some vl∧w.cell? ⟨bg,og+i*4+3,none⟩=some vs∧Xn w vl (b.frames.getD i Fr.zero).locals∧Xn w vs (b.frames.getD i Fr.zero).stack:=by
  intro i hi
  obtain ⟨bg',og',vl,vs,e1,r⟩:=hfv i hi
  obtain ⟨⟨rfl,rfl⟩,-⟩:=(by simpa using e1:(bg=bg'∧og=og')∧True)
  exact ⟨vl,vs,r⟩
 have HCL:=Za hcl
 have HAW:=Za haw
 have HHT:=Za hht
 have HFR:=Za hfresh
 have HIN:=Za hin
 have HR:=Za hr
 have K0:=Za k0
 clear hj hl hbd hf hb hr hin haw hht hfv hfresh hcl e0 hall
 generalize hq:b.frames.length=q at *
 have HQ:=Za hq
 clear hq
 obtain ⟨top,htop⟩:∃ top:Nat,q=top+1:=⟨q - 1,by omega⟩
 subst htop
 have hn1:(nn:Int)<(N:Int):=by omega
 have hn0:(0:Int)≤(nn:Int):=by omega
 have hqb:(((top+1:Nat):Int) == 0)=false:=by rw [beq_eq_false_iff_ne];omega
 have hwt:IntKind.i64.wrap (((top+1:Nat):Int) - 1)=(top:Int):=by rw [Wa _ (by omega) (by omega)];omega
 have hts:((top+1:Nat):Int) - 1=(top:Int):=by omega
 have htc:(top:Int)≤(cfr:Int):=by omega
 have ht0:(0:Int)≤(top:Int):=by omega
 have hqb2:((top:Int)+1 == 0)=false:=by rw [beq_eq_false_iff_ne];omega
 have hwt2:IntKind.i64.wrap ((top:Int)+1 - 1)=(top:Int):=by rw [Wa _ (by omega) (by omega)];omega
 have hwt3:IntKind.i64.wrap (top:Int)=(top:Int):=Wa _ (by omega) (by omega)
 have hts2:(top:Int)+1 - 1=(top:Int):=by omega
 have k0:=un K0
 have lf:=Xo k0
 simp only at lf
 by_cases hz0:nn=0
 ·subst hz0
  simp only [Nat.zero_mul,Nat.add_zero] at k0
  have hN0:(0:Int)<(N:Int):=by omega
  have hrf:r=false:=by rw [← un HR];rfl
  subst hrf
  clear HR
  go_enter Tryd.func56,Tryd.ntmps56
  go_wp2_with (go_at_call 70;refine (Ul _ _ _ _ (by simp)).mono ?_;rintro e w' ⟨rfl,rfl⟩;dsimp only [left])
  exact ⟨rfl,rfl,((Zb.refl w).alloc _).alloc _⟩
 have hzb:((nn:Int) != 0)=true:=by rw [bne_iff_ne];omega
 by_cases hfs:Jy p b=true
 ·have hrt:r=true:=by rw [← un HR,hfs];simp [hz0]
  subst hrt
  have HFR2:Hid (∀ y,Zb w y→Calls Tryd.prog 74 #[.agg #[.slice (some ⟨bf,off,none⟩) N cf,.int .i64 s.now,vO,vp,vh],.slice (some ⟨bg,og,none⟩) (top+1) cfr] y fun e w'=>e=.returned (.bool true)∧Zb y w'):=Za (fun y hy=>by have:=(un HFR) y hy;rwa [hfs] at this)
  clear HR HFR hfs hz0
  go_enter Tryd.func56,Tryd.ntmps56
  go_wp2_with (first | (go_at_call 70;refine (Wo _ _ _ _ (by simp)).mono ?_;rintro e w' ⟨rfl,rfl⟩) | (go_at_call 74;refine ((un HFR2) _ (by repeat (first | exact Zb.refl _ | refine Zb.drew ?_ | refine Zb.alloc ?_ _))).mono ?_;rintro e wF ⟨rfl,hkF⟩))
  first | go_end0 | refine bodyPost_ret (results_none rfl _ _ _) rfl ?_
  exact ⟨rfl,Zb.trans (by repeat (first | exact Zb.refl _ | refine Zb.drew ?_ | refine Zb.alloc ?_ _)) hkF⟩
 have hff:Jy p b=false:=by simpa using hfs
 have hr2:(Qz p b.frames && Zam p (b.frames.getD top Fr.zero) (decide ((nn:Int)=s.now)) false)=r:=by
  rw [← un HR,hff];simp [hz0]
 have HR2:=Za hr2
 have HFR2:Hid (∀ y,Zb w y→Calls Tryd.prog 74 #[.agg #[.slice (some ⟨bf,off,none⟩) N cf,.int .i64 s.now,vO,vp,vh],.slice (some ⟨bg,og,none⟩) (top+1) cfr] y fun e w'=>e=.returned (.bool false)∧Zb y w'):=Za (fun y hy=>by have:=(un HFR) y hy;rwa [hff] at this)
 clear hr2 HR HFR hfs hff hz0
 go_enter Tryd.func56,Tryd.ntmps56
 go_wp2_with (first | (go_at_call 70;refine (Wo _ _ _ _ (by simp)).mono ?_;rintro e w' ⟨rfl,rfl⟩) | (go_at_call 74;refine ((un HFR2) _ (by repeat (first | exact Zb.refl _ | refine Zb.drew ?_ | refine Zb.alloc ?_ _))).mono ?_;rintro e w0 ⟨rfl,hkF⟩))
 have L0:w0.heap[w.heap.size]?=some (.cells #[.slice (some ⟨bf,off,none⟩) N cf,.int .i64 s.now,vO,vp,vh] 95):=Zm hkF (Zr (Zg rfl) _)
 generalize hB:w.heap.size=B0 at *
 have HK0:Hid (Zb w w0):=Za (Zb.trans (by repeat (first | exact Zb.refl _ | refine Zb.drew ?_ | refine Zb.alloc ?_ _)) hkF)
 have HYB:Hid (∀ u,Zb w0 u→u.cell? ⟨B0,0,none⟩=some (.slice (some ⟨bf,off,none⟩) N cf)∧u.cell? ⟨B0,1,none⟩=some (.int .i64 s.now)∧u.cell? ⟨B0,2,none⟩=some vO∧u.cell? ⟨B0,3,none⟩=some vp∧u.cell? ⟨B0,4,none⟩=some vh):=Za (fun u hu=>⟨hu.cell (Zo L0 rfl),hu.cell (Zo L0 rfl),hu.cell (Zo L0 rfl),hu.cell (Zo L0 rfl),hu.cell (Zo L0 rfl)⟩)
 clear hB L0 k0 lf hkF HFR2
 go_loopw [45] (fun s45 wr=>∃ k:Nat,k≤top∧s45=.int .i64 k∧Hid (∀ i,i<k→Qp p (b.frames.getD i Fr.zero) (11,(b.frames.getD (i+1) Fr.zero).fn)=true)∧Hid (Zb w0 wr)) (fun s45 _=>top - (intOf s45).toNat)
 case atStart=>exact ⟨0,Nat.zero_le _,rfl,(fun i hi=>by omega),Zb.refl _⟩
 case round =>
  obtain ⟨k,hkm,rfl,HA,HKr⟩:=hrel
  have hkw:=(un HK0).trans (un HKr)
  have HKW:=Za hkw
  by_cases hlt:k<top
  ·obtain ⟨vl,vs,c0,c1,c2,c3,hvl,hvs⟩:=(un HCL) k (by omega)
   obtain ⟨_,_,e0,-⟩:=(un HCL) (k+1) (by omega)
   have hinx:=(un HIN) k (by omega)
   generalize hX:b.frames.getD k Fr.zero=x at *
   generalize hYe:b.frames.getD (k+1) Fr.zero=y at *
   have HX:=Za hX
   have HYE:=Za hYe
   have hfvx:FrV wr (.agg #[.int .i64 x.fn,.int .i64 x.at_,vl,vs]) x:=⟨vl,vs,rfl,hvl.kept hkw,hvs.kept hkw⟩
   have HFV:=Za hfvx
   have HINX:=Za hinx
   obtain ⟨ol,cl,rfl,-,-⟩:=hvl
   obtain ⟨os,cs,rfl,-,-⟩:=hvs
   generalize x.locals.length=nl at *
   generalize x.stack.length=ns at *
   have d0:=hkw.cell c0
   have d1:=hkw.cell c1
   have d2:=hkw.cell c2
   have d3:=hkw.cell c3
   have E0:=Za e0
   have hk1:(k:Int)<(top:Int):=by omega
   have hkz:(0:Int)≤(k:Int):=by omega
   have hk2:(k:Int)+1<(top:Int)+1:=by omega
   have hkz2:(0:Int)≤(k:Int)+1:=by omega
   have hkt:((k:Int)+1).toNat=k+1:=by omega
   have hwk:IntKind.i64.wrap ((k:Int)+1)=(k:Int)+1:=Wa _ (by omega) (by omega)
   clear hX hYe hfvx hinx c0 c1 c2 c3 e0 hkw
   go_wp2_with fail
   generalize hwz:wr.alloc (.cells #[.int .i64 x.fn,.int .i64 x.at_,.slice ol nl cl,.slice os ns cs] 53)=wz at *
   generalize hBX:wr.heap.size=BX at *
   have LX:wz.heap[BX]?=some (.cells #[.int .i64 x.fn,.int .i64 x.at_,.slice ol nl cl,.slice os ns cs] 53):=by rw [← hwz];exact Zg hBX
   have hkx:Zb wr wz:=by rw [← hwz];exact (Zb.refl wr).alloc _
   have HYR:Hid (∀ u,Zb wz u→u.cell? ⟨B0,0,none⟩=some (.slice (some ⟨bf,off,none⟩) N cf)∧u.cell? ⟨B0,1,none⟩=some (.int .i64 s.now)∧u.cell? ⟨B0,2,none⟩=some vO∧u.cell? ⟨B0,3,none⟩=some vp∧u.cell? ⟨B0,4,none⟩=some vh∧u.cell? ⟨BX,0,none⟩=some (.int .i64 x.fn)∧u.cell? ⟨BX,1,none⟩=some (.int .i64 x.at_)∧u.cell? ⟨BX,2,none⟩=some (.slice ol nl cl)∧u.cell? ⟨BX,3,none⟩=some (.slice os ns cs)∧u.cell? ⟨bg,og+(k+1)*4,none⟩=some (.int .i64 y.fn)):=Za (fun u hu=>by
    obtain ⟨y0,y1,y2,y3,y4⟩:=(un HYB) u (((un HKr).trans hkx).trans hu)
    exact ⟨y0,y1,y2,y3,y4,hu.cell (Zo LX rfl),hu.cell (Zo LX rfl),hu.cell (Zo LX rfl),hu.cell (Zo LX rfl),(((un HKW).trans hkx).trans hu).cell (un E0)⟩)
   have HKz:=Za ((un HKr).trans hkx)
   have hax:=fun (u:World) (hu:Zb wz u)=>(un HAW) _ x 11 y.fn u (((un HKW).trans hkx).trans hu) ((un HFV).kept (hkx.trans hu)) (un HINX)
   have HKZW:=Za ((un HKW).trans hkx)
   clear hwz hBX LX hkx d0 d1 d2 d3 E0
   by_cases hww:Qp p x (11,y.fn)=true
   ·have HAX:Hid (∀ u,Zb wz u→Calls Tryd.prog 75 #[.agg #[.slice (some ⟨bf,off,none⟩) N cf,.int .i64 s.now,vO,vp,vh],.agg #[.int .i64 x.fn,.int .i64 x.at_,.slice ol nl cl,.slice os ns cs],.agg #[.int .i64 11,.int .i64 y.fn]] u fun e w'=>e=.returned (.tuple #[])∧Zb u w'):=Za (fun u hu=>(hax u hu).1 hww)
    have HWW:=Za hww
    clear hax hww
    go_region_held2 (fun u=>u.cell? ⟨B0,0,none⟩=some (.slice (some ⟨bf,off,none⟩) N cf)∧u.cell? ⟨B0,1,none⟩=some (.int .i64 s.now)∧u.cell? ⟨B0,2,none⟩=some vO∧u.cell? ⟨B0,3,none⟩=some vp∧u.cell? ⟨B0,4,none⟩=some vh∧u.cell? ⟨BX,0,none⟩=some (.int .i64 x.fn)∧u.cell? ⟨BX,1,none⟩=some (.int .i64 x.at_)∧u.cell? ⟨BX,2,none⟩=some (.slice ol nl cl)∧u.cell? ⟨BX,3,none⟩=some (.slice os ns cs)∧u.cell? ⟨bg,og+(k+1)*4,none⟩=some (.int .i64 y.fn))
     (first | exact (un HYR) _ (Zb.trans (Zb.trans (by repeat (first | exact Zb.refl _ | refine Zb.drew ?_ | refine Zb.alloc ?_ _)) hkC) (by repeat (first | exact Zb.refl _ | refine Zb.drew ?_ | refine Zb.alloc ?_ _))) | exact (un HYR) _ (Zb.trans (Zb.trans (by repeat (first | exact Zb.refl _ | refine Zb.drew ?_ | refine Zb.alloc ?_ _)) hkA) (by repeat (first | exact Zb.refl _ | refine Zb.drew ?_ | refine Zb.alloc ?_ _))) | exact (un HYR) _ (by repeat (first | exact Zb.refl _ | refine Zb.drew ?_ | refine Zb.alloc ?_ _)))
     (first | (go_at_call 75;refine ((un HAX) _ (by repeat (first | exact Zb.refl _ | refine Zb.drew ?_ | refine Zb.alloc ?_ _))).mono ?_;rintro e wC ⟨rfl,hkC⟩))
    all_goals go_wp2_with fail
    go_roundw
    case rel =>
     refine ⟨k+1,by omega,by go_num,?_,Za (Zb.trans (un HKz) (Zb.trans (by repeat (first | exact Zb.refl _ | refine Zb.drew ?_ | refine Zb.alloc ?_ _)) hkC))⟩
     intro i hi
     by_cases e:i=k
     ·subst e;rw [un HX,un HYE];exact un HWW
     ·exact (un HA) i (by omega)
    case measure=>simp [intOf];omega
   ·have hwf:Qp p x (11,y.fn)=false:=by simpa using hww
    have HAX:Hid (∀ u,Zb wz u→Calls Tryd.prog 75 #[.agg #[.slice (some ⟨bf,off,none⟩) N cf,.int .i64 s.now,vO,vp,vh],.agg #[.int .i64 x.fn,.int .i64 x.at_,.slice ol nl cl,.slice os ns cs],.agg #[.int .i64 11,.int .i64 y.fn]] u fun e w'=>e=left 1∧Zb u w'):=Za (fun u hu=>(hax u hu).2 hwf)
    have hrf:r=false:=by
       rw [← un HR2]
       have:Qz p b.frames=false:=by
        rw [Bool.eq_false_iff];intro h
        have:=(Zdv p b.frames).1 h k (by rw [un HQ];omega)
        rw [un HX,un HYE,hwf] at this;cases this
       rw [this];simp
    subst hrf
    clear hax hww hwf HR2
    go_region_held2 (fun u=>u.cell? ⟨B0,0,none⟩=some (.slice (some ⟨bf,off,none⟩) N cf)∧u.cell? ⟨B0,1,none⟩=some (.int .i64 s.now)∧u.cell? ⟨B0,2,none⟩=some vO∧u.cell? ⟨B0,3,none⟩=some vp∧u.cell? ⟨B0,4,none⟩=some vh∧u.cell? ⟨BX,0,none⟩=some (.int .i64 x.fn)∧u.cell? ⟨BX,1,none⟩=some (.int .i64 x.at_)∧u.cell? ⟨BX,2,none⟩=some (.slice ol nl cl)∧u.cell? ⟨BX,3,none⟩=some (.slice os ns cs)∧u.cell? ⟨bg,og+(k+1)*4,none⟩=some (.int .i64 y.fn))
     (first | exact hF.elim | exact (un HYR) _ (Zb.trans (Zb.trans (by repeat (first | exact Zb.refl _ | refine Zb.drew ?_ | refine Zb.alloc ?_ _)) hkC) (by repeat (first | exact Zb.refl _ | refine Zb.drew ?_ | refine Zb.alloc ?_ _))) | exact (un HYR) _ (Zb.trans (Zb.trans (by repeat (first | exact Zb.refl _ | refine Zb.drew ?_ | refine Zb.alloc ?_ _)) hkA) (by repeat (first | exact Zb.refl _ | refine Zb.drew ?_ | refine Zb.alloc ?_ _))) | exact (un HYR) _ (by repeat (first | exact Zb.refl _ | refine Zb.drew ?_ | refine Zb.alloc ?_ _)))
     (first | (go_at_call 75;refine ((un HAX) _ (by repeat (first | exact Zb.refl _ | refine Zb.drew ?_ | refine Zb.alloc ?_ _))).mono ?_;rintro e wC ⟨rfl,hkC⟩;dsimp only [left];refine (Classical.em False).elim (fun hF=>?_) (fun _=>⟨rfl,rfl,Zb.trans (un HKZW) (Zb.trans (by repeat (first | exact Zb.refl _ | refine Zb.drew ?_ | refine Zb.alloc ?_ _)) hkC)⟩);refine Ud ‹Shut _› hF ⟨#[],[]⟩ w ?_))
    all_goals exact hF.elim
  ·have hwaits:Qz p b.frames=true:=(Zdv p b.frames).2 (fun i hi=>(un HA) i (by have:=un HQ;omega))
   have hr3:=un HR2
   rw [hwaits,Bool.true_and] at hr3
   obtain ⟨tl,ts,c0,c1,c2,c3,hvl,hvs⟩:=(un HCL) top (by omega)
   have hint:=(un HIN) top (by omega)
   generalize hT:b.frames.getD top Fr.zero=t at *
   have hfvt:FrV wr (.agg #[.int .i64 t.fn,.int .i64 t.at_,tl,ts]) t:=⟨tl,ts,rfl,hvl.kept hkw,hvs.kept hkw⟩
   have HFV:=Za hfvt
   have HINT:=Za hint
   obtain ⟨tlo,tlc,rfl,-,-⟩:=hvl
   obtain ⟨tso,tsc,rfl,-,-⟩:=hvs
   have htn:t.stack.length=t.stack.length:=rfl
   generalize t.locals.length=tln at *
   generalize htsn:t.stack.length=tsn at *
   have HTSN:=Za htsn
   have HYR:Hid (∀ u,Zb wr u→u.cell? ⟨B0,0,none⟩=some (.slice (some ⟨bf,off,none⟩) N cf)∧u.cell? ⟨B0,1,none⟩=some (.int .i64 s.now)∧u.cell? ⟨B0,2,none⟩=some vO∧u.cell? ⟨B0,3,none⟩=some vp∧u.cell? ⟨B0,4,none⟩=some vh∧u.cell? ⟨bg,og+top*4,none⟩=some (.int .i64 t.fn)∧u.cell? ⟨bg,og+top*4+1,none⟩=some (.int .i64 t.at_)∧u.cell? ⟨bg,og+top*4+2,none⟩=some (.slice tlo tln tlc)∧u.cell? ⟨bg,og+top*4+3,none⟩=some (.slice tso tsn tsc)):=Za (fun u hu=>by
    obtain ⟨y0,y1,y2,y3,y4⟩:=(un HYB) u ((un HKr).trans hu)
    exact ⟨y0,y1,y2,y3,y4,(hkw.trans hu).cell c0,(hkw.trans hu).cell c1,(hkw.trans hu).cell c2,(hkw.trans hu).cell c3⟩)
   obtain ⟨y0,y1,y2,y3,y4⟩:=(un HYB) wr (un HKr)
   have hax:=fun (u:World) (hu:Zb wr u)=>(un HAW) _ t 15 0 u (hkw.trans hu) ((un HFV).kept hu) (un HINT)
   have hhx:=fun (u:World) (hu:Zb wr u)=>(un HHT) _ t u (hkw.trans hu) ((un HFV).kept hu) (un HINT)
   have htl:(top:Int)<(top:Int)+1:=by omega
   have hdl:decide ((k:Int)<(top:Int))=false:=decide_eq_false (by omega)
   have HR3:=Za hr3
   clear hwaits hr3 c0 c1 c2 c3 hT hfvt hint hkw htn htsn HR2
   by_cases hnow:(nn:Int)=s.now
   ·have hnb:((nn:Int) == s.now)=true:=by rw [beq_iff_eq];exact hnow
    have hr4:decide ((tsn:Int)=hAt p t)=r:=by
     rw [← un HR3];unfold Zam;rw [decide_eq_true hnow,if_pos rfl,un HTSN]
    have HHX:=Za hhx
    have HR4:=Za hr4
    clear hax hhx hr4 hnow HR3
    generalize hAt p t=z at *
    by_cases hz:(tsn:Int)=z
    ·have hzb:((tsn:Int) == z)=true:=by rw [beq_iff_eq];exact hz
     have hrt:r=true:=by rw [← un HR4];exact decide_eq_true hz
     subst hrt
     clear hz HR4
     go_wp2_with fail
     go_region_held2 (fun u=>u.cell? ⟨B0,0,none⟩=some (.slice (some ⟨bf,off,none⟩) N cf)∧u.cell? ⟨B0,1,none⟩=some (.int .i64 s.now)∧u.cell? ⟨B0,2,none⟩=some vO∧u.cell? ⟨B0,3,none⟩=some vp∧u.cell? ⟨B0,4,none⟩=some vh∧u.cell? ⟨bg,og+top*4,none⟩=some (.int .i64 t.fn)∧u.cell? ⟨bg,og+top*4+1,none⟩=some (.int .i64 t.at_)∧u.cell? ⟨bg,og+top*4+2,none⟩=some (.slice tlo tln tlc)∧u.cell? ⟨bg,og+top*4+3,none⟩=some (.slice tso tsn tsc))
      (first | exact (un HYR) _ (Zb.trans (Zb.trans (by repeat (first | exact Zb.refl _ | refine Zb.drew ?_ | refine Zb.alloc ?_ _)) hkC) (by repeat (first | exact Zb.refl _ | refine Zb.drew ?_ | refine Zb.alloc ?_ _))) | exact (un HYR) _ (Zb.trans (Zb.trans (by repeat (first | exact Zb.refl _ | refine Zb.drew ?_ | refine Zb.alloc ?_ _)) hkA) (by repeat (first | exact Zb.refl _ | refine Zb.drew ?_ | refine Zb.alloc ?_ _))) | exact (un HYR) _ (by repeat (first | exact Zb.refl _ | refine Zb.drew ?_ | refine Zb.alloc ?_ _)))
      (first | (go_at_call 73;refine ((un HHX) _ (by repeat (first | exact Zb.refl _ | refine Zb.drew ?_ | refine Zb.alloc ?_ _))).mono ?_;rintro e wA ⟨rfl,hkA⟩) | (go_at_call 70;refine (Wo _ _ _ _ (by simp)).mono ?_;rintro e wC ⟨rfl,rfl⟩))
     all_goals go_wp2_with fail
     all_goals go_end0
     all_goals exact ⟨rfl,(Zb.trans (un HKW) (Zb.trans (by repeat (first | exact Zb.refl _ | refine Zb.drew ?_ | refine Zb.alloc ?_ _)) hkA)).alloc _⟩
    ·have hzb:((tsn:Int) == z)=false:=by rw [beq_eq_false_iff_ne];exact hz
     have hrt:r=false:=by rw [← un HR4];exact decide_eq_false hz
     subst hrt
     clear hz HR4
     go_wp2_with fail
     go_region_held2 (fun u=>u.cell? ⟨B0,0,none⟩=some (.slice (some ⟨bf,off,none⟩) N cf)∧u.cell? ⟨B0,1,none⟩=some (.int .i64 s.now)∧u.cell? ⟨B0,2,none⟩=some vO∧u.cell? ⟨B0,3,none⟩=some vp∧u.cell? ⟨B0,4,none⟩=some vh∧u.cell? ⟨bg,og+top*4,none⟩=some (.int .i64 t.fn)∧u.cell? ⟨bg,og+top*4+1,none⟩=some (.int .i64 t.at_)∧u.cell? ⟨bg,og+top*4+2,none⟩=some (.slice tlo tln tlc)∧u.cell? ⟨bg,og+top*4+3,none⟩=some (.slice tso tsn tsc))
      (first | exact hF.elim | exact (un HYR) _ (Zb.trans (Zb.trans (by repeat (first | exact Zb.refl _ | refine Zb.drew ?_ | refine Zb.alloc ?_ _)) hkC) (by repeat (first | exact Zb.refl _ | refine Zb.drew ?_ | refine Zb.alloc ?_ _))) | exact (un HYR) _ (Zb.trans (Zb.trans (by repeat (first | exact Zb.refl _ | refine Zb.drew ?_ | refine Zb.alloc ?_ _)) hkA) (by repeat (first | exact Zb.refl _ | refine Zb.drew ?_ | refine Zb.alloc ?_ _))) | exact (un HYR) _ (by repeat (first | exact Zb.refl _ | refine Zb.drew ?_ | refine Zb.alloc ?_ _)))
      (first | (go_at_call 73;refine ((un HHX) _ (by repeat (first | exact Zb.refl _ | refine Zb.drew ?_ | refine Zb.alloc ?_ _))).mono ?_;rintro e wA ⟨rfl,hkA⟩) | (go_at_call 70;refine (Ul _ _ _ _ (by simp)).mono ?_;rintro e wC ⟨rfl,rfl⟩;dsimp only [left];refine (Classical.em False).elim (fun hF=>?_) (fun _=>⟨rfl,rfl,Zb.trans (un HKW) (Zb.trans (Zb.trans (by repeat (first | exact Zb.refl _ | refine Zb.drew ?_ | refine Zb.alloc ?_ _)) hkA) (by repeat (first | exact Zb.refl _ | refine Zb.drew ?_ | refine Zb.alloc ?_ _)))⟩);refine Ud ‹Shut _› hF ⟨#[],[]⟩ w ?_))
     all_goals exact hF.elim
   ·have hnb:((nn:Int) == s.now)=false:=by rw [beq_eq_false_iff_ne];exact hnow
    have hr4:Qp p t (15,0)=r:=by
     rw [← un HR3];unfold Zam;rw [decide_eq_false hnow];rfl
    clear hhx hnow HR3
    by_cases hww:Qp p t (15,0)=true
    ·have HAX:Hid (∀ u,Zb wr u→Calls Tryd.prog 75 #[.agg #[.slice (some ⟨bf,off,none⟩) N cf,.int .i64 s.now,vO,vp,vh],.agg #[.int .i64 t.fn,.int .i64 t.at_,.slice tlo tln tlc,.slice tso tsn tsc],.agg #[.int .i64 15,.int .i64 0]] u fun e w'=>e=.returned (.tuple #[])∧Zb u w'):=Za (fun u hu=>(hax u hu).1 hww)
     have hrt:r=true:=by rw [← hr4];exact hww
     subst hrt
     clear hax hww hr4
     go_wp2_with fail
     go_region_held2 (fun u=>u.cell? ⟨B0,0,none⟩=some (.slice (some ⟨bf,off,none⟩) N cf)∧u.cell? ⟨B0,1,none⟩=some (.int .i64 s.now)∧u.cell? ⟨B0,2,none⟩=some vO∧u.cell? ⟨B0,3,none⟩=some vp∧u.cell? ⟨B0,4,none⟩=some vh∧u.cell? ⟨bg,og+top*4,none⟩=some (.int .i64 t.fn)∧u.cell? ⟨bg,og+top*4+1,none⟩=some (.int .i64 t.at_)∧u.cell? ⟨bg,og+top*4+2,none⟩=some (.slice tlo tln tlc)∧u.cell? ⟨bg,og+top*4+3,none⟩=some (.slice tso tsn tsc))
      (first | exact (un HYR) _ (Zb.trans (Zb.trans (by repeat (first | exact Zb.refl _ | refine Zb.drew ?_ | refine Zb.alloc ?_ _)) hkC) (by repeat (first | exact Zb.refl _ | refine Zb.drew ?_ | refine Zb.alloc ?_ _))) | exact (un HYR) _ (Zb.trans (Zb.trans (by repeat (first | exact Zb.refl _ | refine Zb.drew ?_ | refine Zb.alloc ?_ _)) hkA) (by repeat (first | exact Zb.refl _ | refine Zb.drew ?_ | refine Zb.alloc ?_ _))) | exact (un HYR) _ (by repeat (first | exact Zb.refl _ | refine Zb.drew ?_ | refine Zb.alloc ?_ _)))
      (first | (go_at_call 75;refine ((un HAX) _ (by repeat (first | exact Zb.refl _ | refine Zb.drew ?_ | refine Zb.alloc ?_ _))).mono ?_;rintro e wC ⟨rfl,hkC⟩))
     all_goals go_wp2_with fail
     all_goals go_end0
     all_goals exact ⟨rfl,Zb.trans (un HKW) (Zb.trans (by repeat (first | exact Zb.refl _ | refine Zb.drew ?_ | refine Zb.alloc ?_ _)) hkC)⟩
    ·have hwf:Qp p t (15,0)=false:=by simpa using hww
     have HAX:Hid (∀ u,Zb wr u→Calls Tryd.prog 75 #[.agg #[.slice (some ⟨bf,off,none⟩) N cf,.int .i64 s.now,vO,vp,vh],.agg #[.int .i64 t.fn,.int .i64 t.at_,.slice tlo tln tlc,.slice tso tsn tsc],.agg #[.int .i64 15,.int .i64 0]] u fun e w'=>e=left 1∧Zb u w'):=Za (fun u hu=>(hax u hu).2 hwf)
     have hrt:r=false:=by rw [← hr4];exact hwf
     subst hrt
     clear hax hww hwf hr4
     go_wp2_with fail
     go_region_held2 (fun u=>u.cell? ⟨B0,0,none⟩=some (.slice (some ⟨bf,off,none⟩) N cf)∧u.cell? ⟨B0,1,none⟩=some (.int .i64 s.now)∧u.cell? ⟨B0,2,none⟩=some vO∧u.cell? ⟨B0,3,none⟩=some vp∧u.cell? ⟨B0,4,none⟩=some vh∧u.cell? ⟨bg,og+top*4,none⟩=some (.int .i64 t.fn)∧u.cell? ⟨bg,og+top*4+1,none⟩=some (.int .i64 t.at_)∧u.cell? ⟨bg,og+top*4+2,none⟩=some (.slice tlo tln tlc)∧u.cell? ⟨bg,og+top*4+3,none⟩=some (.slice tso tsn tsc))
      (first | exact hF.elim | exact (un HYR) _ (Zb.trans (Zb.trans (by repeat (first | exact Zb.refl _ | refine Zb.drew ?_ | refine Zb.alloc ?_ _)) hkC) (by repeat (first | exact Zb.refl _ | refine Zb.drew ?_ | refine Zb.alloc ?_ _))) | exact (un HYR) _ (Zb.trans (Zb.trans (by repeat (first | exact Zb.refl _ | refine Zb.drew ?_ | refine Zb.alloc ?_ _)) hkA) (by repeat (first | exact Zb.refl _ | refine Zb.drew ?_ | refine Zb.alloc ?_ _))) | exact (un HYR) _ (by repeat (first | exact Zb.refl _ | refine Zb.drew ?_ | refine Zb.alloc ?_ _)))
      (first | (go_at_call 75;refine ((un HAX) _ (by repeat (first | exact Zb.refl _ | refine Zb.drew ?_ | refine Zb.alloc ?_ _))).mono ?_;rintro e wC ⟨rfl,hkC⟩;dsimp only [left];refine (Classical.em False).elim (fun hF=>?_) (fun _=>⟨rfl,rfl,Zb.trans (un HKW) (Zb.trans (by repeat (first | exact Zb.refl _ | refine Zb.drew ?_ | refine Zb.alloc ?_ _)) hkC)⟩);refine Ud ‹Shut _› hF ⟨#[],[]⟩ w ?_))
     all_goals exact hF.elim
theorem asErr (v:Value) (w:World):(Instr.typeAssert (.iface 27 v) 20 27 false).run Tryd.prog w=.ok v w:=by kernel_rfl
theorem Zcx (g:Nat) (x e:Int) (older:List PanicEntry) (w:World) (hc:w.heap[g]?=some (.cells #[.int .i64 x] 27)) :
  CallsD Tryd.prog 51 #[.pointer (some ⟨g,0,none⟩)] (.panicking ({ v:=.iface 27 (.int .i64 e),recovered:=false } :: older)) w fun en u' w' =>
   en=.returned (.tuple #[])∧u'=.panicking ({ v:=.iface 27 (.int .i64 e),recovered:=true } :: older)∧w'=w.setCell ⟨g,0,none⟩ (.int .i64 e):=by
 have c0:w.cell? ⟨g,0,none⟩=some (.int .i64 x):=Zo hc rfl
 have z0:=Zk hc 0
 refine callsD_of_wpS Tryd.func51 rfl fun c₀ cs hu=>?_
 apply wpS_seq
 apply wpS_region
 simp [wpOpsS,go_sem,recoverD,hu,Tryd.ntmps51,Exit.thenS]
 have ht:(#[Value.pointer (some ⟨g,0,none⟩)]++((Array.replicate 6 undef).setIfInBounds 1 (Value.iface 27 (.int .i64 e))).setIfInBounds 0 (Value.iface 27 (.int .i64 e)))=#[Value.pointer (some ⟨g,0,none⟩),Value.iface 27 (.int .i64 e),Value.iface 27 (.int .i64 e),undef,undef,undef,undef]:=rfl
 rw [ht]
 apply wpS_seq
 apply wpS_region
 simp [wpOpsS,go_sem,Exit.thenS]
 refine wpS_cond (t:=true) (by simp [Act.eval]) ?_
 simp only [if_true]
 apply wpS_region
 simp [wpOpsS,go_sem,asErr,c0,z0,bodyPostS,results,Tryd.results51]
theorem Zsh (g:Nat) (w:World) :
  CallsD Tryd.prog 51 #[.pointer (some ⟨g,0,none⟩)] .returning w fun e u' w'=>e=.returned (.tuple #[])∧u'=.returning∧w'=w:=by
 refine callsD_of_wpS Tryd.func51 rfl fun c₀ cs hu=>?_
 apply wpS_seq
 apply wpS_region
 simp [wpOpsS,go_sem,recoverD,hu,Tryd.ntmps51,Exit.thenS]
 have ht:(#[Value.pointer (some ⟨g,0,none⟩)]++((Array.replicate 6 undef).setIfInBounds 1 Value.nilIface).setIfInBounds 0 Value.nilIface)=#[Value.pointer (some ⟨g,0,none⟩),Value.nilIface,Value.nilIface,undef,undef,undef,undef]:=rfl
 rw [ht]
 apply wpS_seq
 apply wpS_region
 simp [wpOpsS,go_sem,Exit.thenS]
 refine wpS_cond (t:=false) (by simp [Act.eval]) ?_
 simp only [Bool.false_eq_true,if_false]
 refine wpS_of_wp (wp_skip ?_)
 cases c₀
 simp_all [bodyPostS,results,Tryd.results51]
end Go.Proofs.YtblihfpigjiahaaDoor
namespace Go.Proofs.YtblihfpigjiahaaDoor
open Go.RowKit
structure Xx (K:Key→Prop) (base:Nat) (w:World) (V:Key→Value) (s:St):Prop where
 piece:∀ k,K k→Xs base w V s k
 apart:∀ k k' g,K k→K k'→(V k).ownBlock=some g→(V k').ownBlock=some g→k=k'
theorem Zdw {w:World} {base base':Nat} {e:TypeId} {size:Nat} {v:Value} {n:Nat} {xs:List Value} (h:w.ownsRow base' e size v n xs) (hb:base≤base'):w.ownsRow base e size v n xs:=by
 refine ⟨h.1,?_⟩
 rcases h.2 with hn | ⟨g,cap,cur,rfl,hg,rest⟩
 ·exact .inl hn
 ·exact .inr ⟨g,cap,cur,rfl,Nat.le_trans hb hg,rest⟩
theorem Xs.low {base base':Nat} {w:World} {V:Key→Value} {s:St} {k:Key} (h:Xs base' w V s k) (hb:base≤base'):Xs base w V s k:=by
 cases k using Key.by with
 | fibers=>obtain ⟨xs,h1,h2⟩:=h;exact ⟨xs,Zdw h1 hb,h2⟩
 | out=>exact Zdw h hb
 | frames i=>obtain ⟨xs,h1,h2⟩:=h;exact ⟨xs,Zdw h1 hb,h2⟩
 | locals i j=>exact Zdw h hb
 | stack i j=>exact Zdw h hb
def Zdf:Key→Key→Prop
 | none,some (some (.inl _))=>True
 | some (some (.inl i)),some (some (.inr (.inl (i',_))))=>i'=i
 | some (some (.inl i)),some (some (.inr (.inr (i',_))))=>i'=i
 | _,_=>False
theorem Xs.congr {base:Nat} {w:World} {V V':Key→Value} {s:St} {k:Key} (h:Xs base w V s k) (h0:V' k=V k) (hc:∀ k',Zdf k k'→V' k'=V k'):Xs base w V' s k:=by
 cases k using Key.by with
 | fibers =>
  obtain ⟨xs,h1,h2⟩:=h
  exact ⟨xs,by rw [h0];exact h1,fun i hi=>by rw [hc (.frames i) trivial];exact h2 i hi⟩
 | out=>show World.ownsRow _ _ _ _ _ _ _;rw [h0];exact h
 | frames i =>
  obtain ⟨xs,h1,h2⟩:=h
  exact ⟨xs,by rw [h0];exact h1,fun j hj=>by rw [hc (.locals i j) rfl,hc (.stack i j) rfl];exact h2 j hj⟩
 | locals i j=>show World.ownsRow _ _ _ _ _ _ _;rw [h0];exact h
 | stack i j=>show World.ownsRow _ _ _ _ _ _ _;rw [h0];exact h
section
variable {K K':Key→Prop} {base:Nat} {w w1 w2:World} {V V1 V2:Key→Value} {s:St} {p:Key} {g:Nat}
theorem Xx.same (h:Xx K base w V s) (hs:∀ k b,K k→(V k).ownBlock=some b→w2.heap[b]?=w.heap[b]?):Xx K base w2 V s :=
 ⟨fun k hk=>(h.piece k hk).same (fun b hb=>hs k b hk hb),h.apart⟩
theorem Xx.kept (h:Xx K base w V s) (hk:Zb w w2):Xx K base w2 V s :=
 h.same fun k b hK hb=>hk.block b ((h.piece k hK).block b hb).2
theorem Xx.sub (h:Xx K base w V s) (hs:∀ k,K' k→K k):Xx K' base w V s :=
 ⟨fun k hk=>h.piece k (hs k hk),fun k k' b hk hk'=>h.apart k k' b (hs k hk) (hs k' hk')⟩
theorem Xx.into (h:Xx K base w V s) (hb:base≤w.heap.size) (hk:Zb w w1) (h1:Xx K' w.heap.size w1 V1 s)
  (hp:K p) (hpg:(V p).ownBlock=some g) (h2:∀ b,b≠g→w2.heap[b]?=w1.heap[b]?) (e1:∀ k,K k→V2 k=V k) (e2:∀ k,K' k→V2 k=V1 k)
  (c1:∀ k k',K k→k≠p→Zdf k k'→V2 k'=V k') (c2:∀ k k',K' k→Zdf k k'→V2 k'=V1 k') (hpp:Xs base w2 V2 s p) :
  Xx (fun k=>K k∨K' k) base w2 V2 s:=by
 have hg:=((h.piece p hp).block g hpg).2
 refine ⟨fun k hkk=>?_,fun k k' b hk1 hk2 b1 b2=>?_⟩
 ·rcases hkk with hK | hK
  ·by_cases e:k=p
   ·rw [e];exact hpp
   ·refine ((h.piece k hK).congr (e1 k hK) (fun k' hc=>c1 k k' hK e hc)).same (fun b hbb=>?_)
    rw [e1 k hK] at hbb
    have hlt:=((h.piece k hK).block b hbb).2
    have hne:b≠g:=fun e'=>e (h.apart k p b hK hp hbb (by rw [hpg,e']))
    rw [h2 b hne,hk.block b hlt]
  ·refine (((h1.piece k hK).congr (e2 k hK) (fun k' hc=>c2 k k' hK hc)).low hb).same (fun b hbb=>?_)
   rw [e2 k hK] at hbb
   have hge:=((h1.piece k hK).block b hbb).1
   exact h2 b (by omega)
 ·rcases hk1 with hK1 | hK1 <;> rcases hk2 with hK2 | hK2
  ·rw [e1 k hK1] at b1;rw [e1 k' hK2] at b2;exact h.apart k k' b hK1 hK2 b1 b2
  ·rw [e1 k hK1] at b1;rw [e2 k' hK2] at b2
   have:=((h.piece k hK1).block b b1).2
   have:=((h1.piece k' hK2).block b b2).1
   omega
  ·rw [e2 k hK1] at b1;rw [e1 k' hK2] at b2
   have:=((h.piece k' hK2).block b b2).2
   have:=((h1.piece k hK1).block b b1).1
   omega
  ·rw [e2 k hK1] at b1;rw [e2 k' hK2] at b2;exact h1.apart k k' b hK1 hK2 b1 b2
theorem Xx.beside (h:Xx K base w V s) (hb:base≤w.heap.size) (hk:Zb w w1) (h1:Xx K' w.heap.size w1 V1 s) (e1:∀ k,K k→V2 k=V k) (e2:∀ k,K' k→V2 k=V1 k)
  (c1:∀ k k',K k→Zdf k k'→V2 k'=V k') (c2:∀ k k',K' k→Zdf k k'→V2 k'=V1 k'):Xx (fun k=>K k∨K' k) base w1 V2 s:=by
 refine ⟨fun k hkk=>?_,fun k k' b hk1 hk2 b1 b2=>?_⟩
 ·rcases hkk with hK | hK
  ·refine ((h.piece k hK).congr (e1 k hK) (fun k' hc=>c1 k k' hK hc)).same (fun b hbb=>?_)
   rw [e1 k hK] at hbb
   exact hk.block b ((h.piece k hK).block b hbb).2
  ·exact ((h1.piece k hK).congr (e2 k hK) (fun k' hc=>c2 k k' hK hc)).low hb
 ·rcases hk1 with hK1 | hK1 <;> rcases hk2 with hK2 | hK2
  ·rw [e1 k hK1] at b1;rw [e1 k' hK2] at b2;exact h.apart k k' b hK1 hK2 b1 b2
  ·rw [e1 k hK1] at b1;rw [e2 k' hK2] at b2
   have:=((h.piece k hK1).block b b1).2
   have:=((h1.piece k' hK2).block b b2).1
   omega
  ·rw [e2 k hK1] at b1;rw [e1 k' hK2] at b2
   have:=((h.piece k' hK2).block b b2).2
   have:=((h1.piece k hK1).block b b1).1
   omega
  ·rw [e2 k hK1] at b1;rw [e2 k' hK2] at b2;exact h1.apart k k' b hK1 hK2 b1 b2
end
def FK (t n:Nat):Key→Prop
 | some (some (.inl i))=>i=t
 | some (some (.inr (.inl (i,j))))=>i=t∧j<n
 | some (some (.inr (.inr (i,j))))=>i=t∧j<n
 | _=>False
def RK (t j:Nat):Key→Prop
 | some (some (.inr (.inl (i,q))))=>i=t∧q=j
 | some (some (.inr (.inr (i,q))))=>i=t∧q=j
 | _=>False
def LK (s:St) (n:Nat):Key→Prop
 | none=>True
 | some none=>False
 | some (some (.inl i))=>i<n
 | some (some (.inr (.inl (i,j))))=>i<n∧j<(Zc s i).frames.length
 | some (some (.inr (.inr (i,j))))=>i<n∧j<(Zc s i).frames.length
def Zdb (t:Nat):Key→Bool
 | some (some (.inl i))=>i == t
 | some (some (.inr (.inl (i,_))))=>i == t
 | some (some (.inr (.inr (i,_))))=>i == t
 | _=>false
def frV (V:Key→Value) (t j:Nat) (v1 v2:Value):Key→Value:=fun k=>if k=.locals t j then v1 else if k=.stack t j then v2 else V k
theorem Zmf (V:Key→Value) (t j:Nat) (v1 v2:Value):frV V t j v1 v2 (.locals t j)=v1:=if_pos rfl
theorem Zlq (V:Key→Value) (t j:Nat) (v1 v2:Value):frV V t j v1 v2 (.stack t j)=v2:=by unfold frV;rw [if_neg (by simp),if_pos rfl]
theorem Zbt (V:Key→Value) {t j:Nat} {v1 v2:Value} {k:Key} (h1:k≠.locals t j) (h2:k≠.stack t j):frV V t j v1 v2 k=V k:=by unfold frV;rw [if_neg h1,if_neg h2]
theorem Xx.frame {base:Nat} {w:World} {s:St} {t j:Nat} {v1 v2:Value} {V:Key→Value} (h1:w.ownsRow base 3 1 v1 (Ze s t j).locals.length (ints (Ze s t j).locals)) (h2:w.ownsRow base 3 1 v2 (Ze s t j).stack.length (ints (Ze s t j).stack))
  (ha:∀ b,v1.ownBlock=some b→v2.ownBlock≠some b):Xx (RK t j) base w (frV V t j v1 v2) s:=by
 have e1:=Zmf V t j v1 v2
 have e2:=Zlq V t j v1 v2
 refine ⟨fun k hk=>?_,fun k k' b hk hk'=>?_⟩
 ·cases k using Key.by with
  | fibers=>exact hk.elim
  | out=>exact hk.elim
  | frames i=>exact hk.elim
  | locals i q=>obtain ⟨rfl,rfl⟩:=hk;show World.ownsRow _ _ _ _ _ _ _;rw [e1];exact h1
  | stack i q=>obtain ⟨rfl,rfl⟩:=hk;show World.ownsRow _ _ _ _ _ _ _;rw [e2];exact h2
 ·cases k using Key.by with
  | fibers=>exact hk.elim
  | out=>exact hk.elim
  | frames i=>exact hk.elim
  | locals i q =>
   obtain ⟨rfl,rfl⟩:=hk
   cases k' using Key.by with
   | fibers=>exact hk'.elim
   | out=>exact hk'.elim
   | frames i=>exact hk'.elim
   | locals i' q'=>obtain ⟨rfl,rfl⟩:=hk';exact fun _ _=>rfl
   | stack i' q'=>obtain ⟨rfl,rfl⟩:=hk';rw [e1,e2];exact fun b1 b2=>absurd b2 (ha b b1)
  | stack i q =>
   obtain ⟨rfl,rfl⟩:=hk
   cases k' using Key.by with
   | fibers=>exact hk'.elim
   | out=>exact hk'.elim
   | frames i=>exact hk'.elim
   | locals i' q'=>obtain ⟨rfl,rfl⟩:=hk';rw [e1,e2];exact fun b2 b1=>absurd b2 (ha b b1)
   | stack i' q'=>obtain ⟨rfl,rfl⟩:=hk';exact fun _ _=>rfl
theorem Xx.frame_in {base:Nat} {w w1:World} {V:Key→Value} {s:St} {t j g cap:Nat} {v1 v2:Value} (h:Xx (FK t j) base w V s) (hb:base≤w.heap.size) (hk:Zb w w1)
  (hj:j<(Zc s t).frames.length) (hV:V (.frames t)=.slice (some ⟨g,0,none⟩) (Zc s t).frames.length cap)
  (h1:w1.ownsRow w.heap.size 3 1 v1 (Ze s t j).locals.length (ints (Ze s t j).locals)) (h2:w1.ownsRow w.heap.size 3 1 v2 (Ze s t j).stack.length (ints (Ze s t j).stack))
  (ha:∀ b,v1.ownBlock=some b→v2.ownBlock≠some b) :
  Xx (FK t (j+1)) base ((((w1.setCell ⟨g,j*4,none⟩ (.int .i64 (Ze s t j).fn)).setCell ⟨g,j*4+1,none⟩ (.int .i64 (Ze s t j).at_)).setCell ⟨g,j*4+2,none⟩ v1).setCell ⟨g,j*4+3,none⟩ v2) (frV V t j v1 v2) s:=by
 have hn:=Xx.frame (V:=V) h1 h2 ha
 have hf:FK t j (.frames t):=rfl
 have hfr:frV V t j v1 v2 (.frames t)=V (.frames t):=Zbt V (by simp) (by simp)
 refine (h.into hb hk hn (p:=.frames t) (g:=g) hf (by rw [hV];rfl) (fun b hne=>?_) (fun k hK=>?_) (fun _ _=>rfl) (fun k k' hK hne hc=>?_) (fun _ _ _ _=>rfl) ?_).sub (fun k hK=>?_)
 ·rw [Below.heap_setCell _ _ _ _ hne,Below.heap_setCell _ _ _ _ hne,Below.heap_setCell _ _ _ _ hne,Below.heap_setCell _ _ _ _ hne]
 ·refine Zbt V (fun e=>?_) (fun e=>?_)
  ·subst e;exact absurd hK.2 (by omega)
  ·subst e;exact absurd hK.2 (by omega)
 ·cases k using Key.by with
  | fibers=>exact hK.elim
  | out=>exact hK.elim
  | frames i=>exact absurd (by rw [show i=t from hK]) hne
  | locals i q=>cases k' using Key.by <;> exact hc.elim
  | stack i q=>cases k' using Key.by <;> exact hc.elim
 ·obtain ⟨xs,r1,r2⟩:=h.piece (.frames t) hf
  rw [hV] at r1
  have r3:=Jl (w':=w1) r1 (fun b hbb=>hk.block b (r1.lt b hbb).2)
  have r4:=((((r3.stored (j*4) (.int .i64 (Ze s t j).fn)).1.stored (j*4+1) (.int .i64 (Ze s t j).at_)).1.stored (j*4+2) v1).1.stored (j*4+3) v2).1
  refine ⟨_,by rw [hfr,hV];exact r4,fun q hq=>?_⟩
  have hl:xs.length=(Zc s t).frames.length*4:=r1.1
  obtain ⟨x0,x1,x2,x3⟩:=r2 q hq
  by_cases e:q=j
  ·subst e
   rw [Zmf,Zlq]
   refine ⟨?_,?_,?_,?_⟩ <;> simp [List.getElem?_set] <;> omega
  ·rw [Zbt V (by simp [e]) (by simp),Zbt V (by simp) (by simp [e])]
   simp only [List.getElem?_set]
   refine ⟨?_,?_,?_,?_⟩
   ·rw [if_neg (by omega),if_neg (by omega),if_neg (by omega),if_neg (by omega)];exact x0
   ·rw [if_neg (by omega),if_neg (by omega),if_neg (by omega),if_neg (by omega)];exact x1
   ·rw [if_neg (by omega),if_neg (by omega),if_neg (by omega),if_neg (by omega)];exact x2
   ·rw [if_neg (by omega),if_neg (by omega),if_neg (by omega),if_neg (by omega)];exact x3
 ·cases k using Key.by with
  | fibers=>exact hK.elim
  | out=>exact hK.elim
  | frames i=>exact .inl hK
  | locals i q=>exact (Nat.lt_succ_iff_lt_or_eq.1 hK.2).imp (fun e=>⟨hK.1,e⟩) (fun e=>⟨hK.1,e⟩)
  | stack i q=>exact (Nat.lt_succ_iff_lt_or_eq.1 hK.2).imp (fun e=>⟨hK.1,e⟩) (fun e=>⟨hK.1,e⟩)
def fbV (V V1:Key→Value) (t:Nat):Key→Value:=fun k=>if Zdb t k=true then V1 k else V k
theorem Zfy (V V1:Key→Value) {t:Nat} {k:Key} (h:Zdb t k=true):fbV V V1 t k=V1 k:=if_pos h
theorem Zca (V V1:Key→Value) {t:Nat} {k:Key} (h:Zdb t k=false):fbV V V1 t k=V k:=if_neg (by rw [h];exact Bool.false_ne_true)
theorem FK_of {t n:Nat} {k:Key} (h:FK t n k):Zdb t k=true:=by
 cases k using Key.by with
 | fibers=>exact h.elim
 | out=>exact h.elim
 | frames i=>exact beq_iff_eq.2 h
 | locals i q=>exact beq_iff_eq.2 h.1
 | stack i q=>exact beq_iff_eq.2 h.1
theorem LK_of {s:St} {t:Nat} {k:Key} (h:LK s t k):Zdb t k=false:=by
 cases k using Key.by with
 | fibers=>rfl
 | out=>rfl
 | frames i=>exact beq_eq_false_iff_ne.2 (Nat.ne_of_lt h)
 | locals i q=>exact beq_eq_false_iff_ne.2 (Nat.ne_of_lt h.1)
 | stack i q=>exact beq_eq_false_iff_ne.2 (Nat.ne_of_lt h.1)
theorem Xx.fiber_in {base:Nat} {w w1:World} {V V1:Key→Value} {s:St} {t g cap:Nat} (h:Xx (LK s t) base w V s) (hb:base≤w.heap.size) (hk:Zb w w1)
  (ht:t<s.fibers.length) (hV:V .fibers=.slice (some ⟨g,0,none⟩) s.fibers.length cap) (h1:Xx (FK t (Zc s t).frames.length) w.heap.size w1 V1 s) :
  Xx (LK s (t+1)) base ((w1.setCell ⟨g,t*2,none⟩ (V1 (.frames t))).setCell ⟨g,t*2+1,none⟩ (.int .i64 (Zc s t).caller)) (fbV V V1 t) s:=by
 have hf:LK s t .fibers:=trivial
 refine (h.into hb hk h1 (V2:=fbV V V1 t) (p:=.fibers) (g:=g) hf (by rw [hV];rfl) (fun b hne=>?_) (fun k hK=>Zca V V1 (LK_of hK)) (fun k hK=>Zfy V V1 (FK_of hK)) (fun k k' hK hne hc=>?_) (fun k k' hK hc=>?_) ?_).sub (fun k hK=>?_)
 ·rw [Below.heap_setCell _ _ _ _ hne,Below.heap_setCell _ _ _ _ hne]
 ·cases k using Key.by with
  | fibers=>exact absurd rfl hne
  | out=>exact hK.elim
  | frames i =>
   have hi:i<t:=hK
   cases k' using Key.by with
   | fibers=>exact hc.elim
   | out=>exact hc.elim
   | frames q=>exact hc.elim
   | locals a b=>exact Zca V V1 (beq_eq_false_iff_ne.2 (by rw [show a=i from hc];omega))
   | stack a b=>exact Zca V V1 (beq_eq_false_iff_ne.2 (by rw [show a=i from hc];omega))
  | locals i q=>cases k' using Key.by <;> exact hc.elim
  | stack i q=>cases k' using Key.by <;> exact hc.elim
 ·cases k using Key.by with
  | fibers=>exact hK.elim
  | out=>exact hK.elim
  | frames i =>
   have hi:i=t:=hK
   cases k' using Key.by with
   | fibers=>exact hc.elim
   | out=>exact hc.elim
   | frames q=>exact hc.elim
   | locals a b=>exact Zfy V V1 (beq_iff_eq.2 (by rw [show a=i from hc];exact hi))
   | stack a b=>exact Zfy V V1 (beq_iff_eq.2 (by rw [show a=i from hc];exact hi))
  | locals i q=>cases k' using Key.by <;> exact hc.elim
  | stack i q=>cases k' using Key.by <;> exact hc.elim
 ·obtain ⟨xs,r1,r2⟩:=h.piece .fibers hf
  rw [hV] at r1
  have r3:=Jl (w':=w1) r1 (fun b hbb=>hk.block b (r1.lt b hbb).2)
  have r4:=((r3.stored (t*2) (V1 (.frames t))).1.stored (t*2+1) (.int .i64 (Zc s t).caller)).1
  refine ⟨_,by rw [Zca V V1 rfl,hV];exact r4,fun q hq=>?_⟩
  have hl:xs.length=s.fibers.length*2:=r1.1
  obtain ⟨x0,x1⟩:=r2 q hq
  by_cases e:q=t
  ·subst e
   rw [Zfy V V1 (t:=q) (k:=.frames q) (beq_iff_eq.2 rfl)]
   refine ⟨?_,?_⟩ <;> simp [List.getElem?_set] <;> omega
  ·rw [Zca V V1 (t:=t) (k:=.frames q) (beq_eq_false_iff_ne.2 e)]
   simp only [List.getElem?_set]
   refine ⟨?_,?_⟩
   ·rw [if_neg (by omega),if_neg (by omega)];exact x0
   ·rw [if_neg (by omega),if_neg (by omega)];exact x1
 ·cases k using Key.by with
  | fibers=>exact .inl trivial
  | out=>exact hK.elim
  | frames i=>exact Nat.lt_succ_iff_lt_or_eq.1 hK
  | locals i q=>exact (Nat.lt_succ_iff_lt_or_eq.1 hK.1).imp (fun e=>⟨e,hK.2⟩) (fun e=>⟨e,by rw [← e];exact hK.2⟩)
  | stack i q=>exact (Nat.lt_succ_iff_lt_or_eq.1 hK.1).imp (fun e=>⟨e,hK.2⟩) (fun e=>⟨e,by rw [← e];exact hK.2⟩)
theorem Xx.whole {base:Nat} {w w1:World} {V:Key→Value} {s:St} {vo:Value} (h:Xx (LK s s.fibers.length) base w V s) (hb:base≤w.heap.size) (hk:Zb w w1)
  (ho:w1.ownsRow w.heap.size 3 1 vo s.out.length (ints s.out)):Own base w1 (upd V .out vo) s:=by
 have h1:Xx (fun k=>k=.out) w.heap.size w1 (upd V .out vo) s :=
  ⟨fun k e=>by subst e;show World.ownsRow _ _ _ _ _ _ _;rw [Qk];exact ho,fun k k' _ e e' _ _=>by rw [e,e']⟩
 have hno:∀ k,LK s s.fibers.length k→k≠.out:=fun k hK e=>by subst e;exact hK
 have h2:=h.beside hb hk h1 (V2:=upd V .out vo) (fun k hK=>Zp _ _ (hno k hK)) (fun _ _=>rfl) (fun k k' hK hc=>Zp _ _ (fun e=>by subst e;cases k using Key.by <;> exact hc)) (fun _ _ _ _=>rfl)
 have h3:∀ k,live s k→(LK s s.fibers.length k∨k=.out):=fun k hK=>by
  cases k using Key.by with
  | fibers=>exact .inl trivial
  | out=>exact .inr rfl
  | frames i=>exact .inl hK
  | locals i q=>exact .inl hK
  | stack i q=>exact .inl hK
 exact ⟨fun k hK=>h2.piece k (h3 k hK),fun k k' g hK hK'=>h2.apart k k' g (h3 k hK) (h3 k' hK')⟩
theorem Xx.frames_start {base:Nat} {w:World} {V:Key→Value} {s:St} {t:Nat} {xs:List Value} (h1:w.ownsRow base 53 4 (V (.frames t)) (Zc s t).frames.length xs)
  (h2:∀ j,j<(Zc s t).frames.length→xs[j*4]?=some (.int .i64 (Ze s t j).fn)∧xs[j*4+1]?=some (.int .i64 (Ze s t j).at_)∧xs[j*4+2]?=some (V (.locals t j))∧xs[j*4+3]?=some (V (.stack t j))):Xx (FK t 0) base w V s:=by
 have hk:∀ k,FK t 0 k→k=.frames t:=fun k hK=>by
  cases k using Key.by with
  | fibers=>exact hK.elim
  | out=>exact hK.elim
  | frames i=>rw [show i=t from hK]
  | locals i q=>exact absurd hK.2 (Nat.not_lt_zero _)
  | stack i q=>exact absurd hK.2 (Nat.not_lt_zero _)
 exact ⟨fun k hK=>by rw [hk k hK];exact ⟨xs,h1,h2⟩,fun k k' _ hK hK' _ _=>by rw [hk k hK,hk k' hK']⟩
theorem Xx.fibers_start {base:Nat} {w:World} {V:Key→Value} {s:St} {xs:List Value} (h1:w.ownsRow base 46 2 (V .fibers) s.fibers.length xs)
  (h2:∀ i,i<s.fibers.length→xs[i*2]?=some (V (.frames i))∧xs[i*2+1]?=some (.int .i64 (Zc s i).caller)):Xx (LK s 0) base w V s:=by
 have hk:∀ k,LK s 0 k→k=.fibers:=fun k hK=>by
  cases k using Key.by with
  | fibers=>rfl
  | out=>exact hK.elim
  | frames i=>exact absurd hK (Nat.not_lt_zero _)
  | locals i q=>exact absurd hK.1 (Nat.not_lt_zero _)
  | stack i q=>exact absurd hK.1 (Nat.not_lt_zero _)
 exact ⟨fun k hK=>by rw [hk k hK];exact ⟨xs,h1,h2⟩,fun k k' _ hK hK' _ _=>by rw [hk k hK,hk k' hK']⟩
end Go.Proofs.YtblihfpigjiahaaDoor
namespace Go.Proofs.YtblihfpigjiahaaDoor
open Go.RowKit
structure Zcb (w:World) (oa:Option Addr) (xs:List Value):Prop where
 cell:∀ j x,xs[j]?=some x→∃ b o,oa=some ⟨b,o,none⟩∧w.cell? ⟨b,o+j,none⟩=some x
 one:∀ x∈xs,x.oneCell'=true
theorem Zcb.none {w:World} {xs:List Value} (h:Zcb w Option.none xs):xs=[]:=by
 cases xs with
 | nil=>rfl
 | cons x r=>obtain ⟨b,o,e,_⟩:=h.cell 0 x rfl;cases e
theorem Zcb.at {w:World} {a:Addr} {xs:List Value} (h:Zcb w (some a) xs):∀ j x,xs[j]?=some x→w.cell? (a.add j)=some x:=fun j x hj=>by
 obtain ⟨b,o,e,hc⟩:=h.cell j x hj
 obtain rfl:=Option.some.inj e
 have:((⟨b,o,.none⟩:Addr).add j)=⟨b,o+j,.none⟩:=by unfold Addr.add;split <;> simp_all
 rw [this];exact hc
theorem Zcb.kept {w w':World} {oa:Option Addr} {xs:List Value} (h:Zcb w oa xs) (hk:Zb w w'):Zcb w' oa xs :=
 ⟨fun j x hj=>by obtain ⟨b,o,e,hc⟩:=h.cell j x hj;exact ⟨b,o,e,hk.cell hc⟩,h.one⟩
end Go.Proofs.YtblihfpigjiahaaDoor
