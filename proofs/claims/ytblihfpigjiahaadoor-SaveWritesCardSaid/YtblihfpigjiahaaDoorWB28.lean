/- StateZ -/
import Derived.Test.YtblihfpigjiahaaDoorWB27
import Derived.Deep.RegionHeld3
import Derived.Deep.DeepCutAuto
import Derived.Deep.RegionHeld2
set_option maxRecDepth 100000
set_option maxHeartbeats 8000000
namespace Go.Proofs.YtblihfpigjiahaaDoor
open Go.RowKit
theorem Ztb (p:List Fn) (s:St) (nn N cf bf off:Nat) (vO vp vh:Value) (b:Fb) (vfr:Value) (w:World) (hN:nn<N)
  (hj:Wj w (.agg #[.slice (some ⟨bf,off,none⟩) N cf,.int .i64 s.now,vO,vp,vh]) p s) (hl:Um p) (hbd:Zco p)
  (k0:w.cell? ⟨bf,off+nn*2,none⟩=some vfr) (hf:Ys w vfr b.frames) (hb:s.fibers.getD nn Fb.zero=b) (hn:0<b.frames.length) (hfl:b.frames.length≤1000) (hall:b.frames.all (Xb p)=true) (r:Bool) (hr:Wk p s nn true=r) :
  Calls Tryd.prog 56 #[.agg #[.slice (some ⟨bf,off,none⟩) N cf,.int .i64 s.now,vO,vp,vh],.int .i64 nn,.bool true] w fun e w'=>e=Yv 1 r∧Zb w w':=by
 rw [Zob hb hn] at hr
 have hin:∀ i,i<b.frames.length→Yg p (b.frames.getD i Fr.zero):=fun i hi=>Yg.of (Zad hall hi)
 have haw:=askW hj hl hbd
 have hht:∀ (u:Value) (x:Fr) (y:World),Zb w y→FrV y u x→Yg p x→Calls Tryd.prog 73 #[.agg #[.slice (some ⟨bf,off,none⟩) N cf,.int .i64 s.now,vO,vp,vh],u] y fun e w'=>e=.returned (.int .i64 (hAt p x))∧Zb y w':=fun u x y hy hx h=>Zfr p s _ u x y (hj.kept hy) hx hl h
 have hfv:∀ i,i<b.frames.length→∃ bg og vl vs,vfr=.slice (some ⟨bg,og,none⟩) b.frames.length (match vfr with | .slice _ _ c=>c | _=>0)∧w.cell? ⟨bg,og+i*4,none⟩=some (.int .i64 (b.frames.getD i Fr.zero).fn)∧w.cell? ⟨bg,og+i*4+1,none⟩=some (.int .i64 (b.frames.getD i Fr.zero).at_)∧w.cell? ⟨bg,og+i*4+2,none⟩=some vl∧w.cell? ⟨bg,og+i*4+3,none⟩=some vs∧Xn w vl (b.frames.getD i Fr.zero).locals∧Xn w vs (b.frames.getD i Fr.zero).stack:=by
  intro i hi
  obtain ⟨oa,cap,e,_,hc⟩:=id hf
  obtain ⟨b',o',vl,vs,e1,r⟩:=hc i _ (Zq b.frames i Fr.zero hi)
  subst e e1
  exact ⟨b',o',vl,vs,rfl,r⟩
 have hfresh:∀ y,Zb w y→Calls Tryd.prog 74 #[.agg #[.slice (some ⟨bf,off,none⟩) N cf,.int .i64 s.now,vO,vp,vh],vfr] y fun e w'=>e=.returned (.bool (Jy p b))∧Zb y w':=fun y hy=>Zod p s _ _ b y (hj.kept hy) (hf.kept hy) hn (fun x hx=>by
  have:=Yg.of (List.all_eq_true.1 hall x hx)
  exact ⟨this.fn0,this.fn1⟩)
 obtain ⟨ofr,cfr,rfl,⟨hq8,hqc⟩,-⟩:=id hf
 obtain ⟨bg,og,_,_,e0,_⟩:=hfv 0 hn
 obtain ⟨rfl,-⟩:=(by simpa using e0:ofr=some ⟨bg,og,none⟩∧True)
 have hcl:∀ i,i<b.frames.length→∃ vl vs,w.cell? ⟨bg,og+i*4,none⟩=some (.int .i64 (b.frames.getD i Fr.zero).fn)∧w.cell? ⟨bg,og+i*4+1,none⟩=some (.int .i64 (b.frames.getD i Fr.zero).at_)∧w.cell? ⟨bg,og+i*4+2,none⟩=some vl∧w.cell? ⟨bg,og+i*4+3,none⟩=some vs∧Xn w vl (b.frames.getD i Fr.zero).locals∧Xn w vs (b.frames.getD i Fr.zero).stack:=by
  intro i hi
  obtain ⟨bg',og',vl,vs,e1,r⟩:=hfv i hi
  obtain ⟨⟨rfl,rfl⟩,-⟩:=(by simpa using e1:(bg=bg'∧og=og')∧True)
  exact ⟨vl,vs,r⟩
 have HCL:=Za hcl
 have HAW:=Za haw
 have HHT:=Za hht
 have HFR:=Za hfresh
 have HIN:=Za hin
 have HR:=Za hr
 have K0:=Za k0
 clear hj hl hbd hf hb hr hin haw hht hfv hfresh hcl e0 hall
 generalize hq:b.frames.length=q at *
 have HQ:=Za hq
 clear hq
 obtain ⟨top,htop⟩:∃ top:Nat,q=top+1:=⟨q - 1,by omega⟩
 subst htop
 have hn1:(nn:Int)<(N:Int):=by omega
 have hn0:(0:Int)≤(nn:Int):=by omega
 have hqb:(((top+1:Nat):Int) == 0)=false:=by rw [beq_eq_false_iff_ne];omega
 have hwt:IntKind.i64.wrap (((top+1:Nat):Int) - 1)=(top:Int):=by rw [Wa _ (by omega) (by omega)];omega
 have hts:((top+1:Nat):Int) - 1=(top:Int):=by omega
 have htc:(top:Int)≤(cfr:Int):=by omega
 have ht0:(0:Int)≤(top:Int):=by omega
 have hqb2:((top:Int)+1 == 0)=false:=by rw [beq_eq_false_iff_ne];omega
 have hwt2:IntKind.i64.wrap ((top:Int)+1 - 1)=(top:Int):=by rw [Wa _ (by omega) (by omega)];omega
 have hwt3:IntKind.i64.wrap (top:Int)=(top:Int):=Wa _ (by omega) (by omega)
 have hts2:(top:Int)+1 - 1=(top:Int):=by omega
 have k0:=un K0
 have lf:=Xo k0
 simp only at lf
 have hr2:(Qz p b.frames && Zam p (b.frames.getD top Fr.zero) (decide ((nn:Int)=s.now)) true)=r:=by
  rw [← un HR];simp
 have HR2:=Za hr2
 clear hr2 HR
 go_enter Tryd.func56,Tryd.ntmps56
 go_wp2_with (go_at_call 70;refine (Wo _ _ _ _ (by simp)).mono ?_;rintro e w' ⟨rfl,rfl⟩)
 generalize hw0:(w.alloc (.cells #[.slice (some ⟨bf,off,none⟩) N cf,.int .i64 s.now,vO,vp,vh] 95)).alloc (.cells #[.bool true] 4)=w0 at *
 generalize hB:w.heap.size=B0 at *
 have L0:w0.heap[B0]?=some (.cells #[.slice (some ⟨bf,off,none⟩) N cf,.int .i64 s.now,vO,vp,vh] 95):=by rw [← hw0];exact Zr (Zg hB) _
 have HK0:Hid (Zb w w0):=by rw [← hw0];exact Za (((Zb.refl w).alloc _).alloc _)
 have HYB:Hid (∀ u,Zb w0 u→u.cell? ⟨B0,0,none⟩=some (.slice (some ⟨bf,off,none⟩) N cf)∧u.cell? ⟨B0,1,none⟩=some (.int .i64 s.now)∧u.cell? ⟨B0,2,none⟩=some vO∧u.cell? ⟨B0,3,none⟩=some vp∧u.cell? ⟨B0,4,none⟩=some vh):=Za (fun u hu=>⟨hu.cell (Zo L0 rfl),hu.cell (Zo L0 rfl),hu.cell (Zo L0 rfl),hu.cell (Zo L0 rfl),hu.cell (Zo L0 rfl)⟩)
 clear hw0 hB L0 k0 lf
 go_loopw [45] (fun s45 wr=>∃ k:Nat,k≤top∧s45=.int .i64 k∧Hid (∀ i,i<k→Qp p (b.frames.getD i Fr.zero) (11,(b.frames.getD (i+1) Fr.zero).fn)=true)∧Hid (Zb w0 wr)) (fun s45 _=>top - (intOf s45).toNat)
 case atStart=>exact ⟨0,Nat.zero_le _,rfl,(fun i hi=>by omega),Zb.refl _⟩
 case round =>
  obtain ⟨k,hkm,rfl,HA,HKr⟩:=hrel
  have hkw:=(un HK0).trans (un HKr)
  have HKW:=Za hkw
  by_cases hlt:k<top
  ·obtain ⟨vl,vs,c0,c1,c2,c3,hvl,hvs⟩:=(un HCL) k (by omega)
   obtain ⟨_,_,e0,-⟩:=(un HCL) (k+1) (by omega)
   have hinx:=(un HIN) k (by omega)
   generalize hX:b.frames.getD k Fr.zero=x at *
   generalize hYe:b.frames.getD (k+1) Fr.zero=y at *
   have HX:=Za hX
   have HYE:=Za hYe
   have hfvx:FrV wr (.agg #[.int .i64 x.fn,.int .i64 x.at_,vl,vs]) x:=⟨vl,vs,rfl,hvl.kept hkw,hvs.kept hkw⟩
   have HFV:=Za hfvx
   have HINX:=Za hinx
   obtain ⟨ol,cl,rfl,-,-⟩:=hvl
   obtain ⟨os,cs,rfl,-,-⟩:=hvs
   generalize x.locals.length=nl at *
   generalize x.stack.length=ns at *
   have d0:=hkw.cell c0
   have d1:=hkw.cell c1
   have d2:=hkw.cell c2
   have d3:=hkw.cell c3
   have E0:=Za e0
   have hk1:(k:Int)<(top:Int):=by omega
   have hkz:(0:Int)≤(k:Int):=by omega
   have hk2:(k:Int)+1<(top:Int)+1:=by omega
   have hkz2:(0:Int)≤(k:Int)+1:=by omega
   have hkt:((k:Int)+1).toNat=k+1:=by omega
   have hwk:IntKind.i64.wrap ((k:Int)+1)=(k:Int)+1:=Wa _ (by omega) (by omega)
   clear hX hYe hfvx hinx c0 c1 c2 c3 e0 hkw
   go_wp2_with fail
   generalize hwz:wr.alloc (.cells #[.int .i64 x.fn,.int .i64 x.at_,.slice ol nl cl,.slice os ns cs] 53)=wz at *
   generalize hBX:wr.heap.size=BX at *
   have LX:wz.heap[BX]?=some (.cells #[.int .i64 x.fn,.int .i64 x.at_,.slice ol nl cl,.slice os ns cs] 53):=by rw [← hwz];exact Zg hBX
   have hkx:Zb wr wz:=by rw [← hwz];exact (Zb.refl wr).alloc _
   have HYR:Hid (∀ u,Zb wz u→u.cell? ⟨B0,0,none⟩=some (.slice (some ⟨bf,off,none⟩) N cf)∧u.cell? ⟨B0,1,none⟩=some (.int .i64 s.now)∧u.cell? ⟨B0,2,none⟩=some vO∧u.cell? ⟨B0,3,none⟩=some vp∧u.cell? ⟨B0,4,none⟩=some vh∧u.cell? ⟨BX,0,none⟩=some (.int .i64 x.fn)∧u.cell? ⟨BX,1,none⟩=some (.int .i64 x.at_)∧u.cell? ⟨BX,2,none⟩=some (.slice ol nl cl)∧u.cell? ⟨BX,3,none⟩=some (.slice os ns cs)∧u.cell? ⟨bg,og+(k+1)*4,none⟩=some (.int .i64 y.fn)):=Za (fun u hu=>by
    obtain ⟨y0,y1,y2,y3,y4⟩:=(un HYB) u (((un HKr).trans hkx).trans hu)
    exact ⟨y0,y1,y2,y3,y4,hu.cell (Zo LX rfl),hu.cell (Zo LX rfl),hu.cell (Zo LX rfl),hu.cell (Zo LX rfl),(((un HKW).trans hkx).trans hu).cell (un E0)⟩)
   have HKz:=Za ((un HKr).trans hkx)
   have hax:=fun (u:World) (hu:Zb wz u)=>(un HAW) _ x 11 y.fn u (((un HKW).trans hkx).trans hu) ((un HFV).kept (hkx.trans hu)) (un HINX)
   have HKZW:=Za ((un HKW).trans hkx)
   clear hwz hBX LX hkx d0 d1 d2 d3 E0
   by_cases hww:Qp p x (11,y.fn)=true
   ·have HAX:Hid (∀ u,Zb wz u→Calls Tryd.prog 75 #[.agg #[.slice (some ⟨bf,off,none⟩) N cf,.int .i64 s.now,vO,vp,vh],.agg #[.int .i64 x.fn,.int .i64 x.at_,.slice ol nl cl,.slice os ns cs],.agg #[.int .i64 11,.int .i64 y.fn]] u fun e w'=>e=.returned (.tuple #[])∧Zb u w'):=Za (fun u hu=>(hax u hu).1 hww)
    have HWW:=Za hww
    clear hax hww
    go_region_held2 (fun u=>u.cell? ⟨B0,0,none⟩=some (.slice (some ⟨bf,off,none⟩) N cf)∧u.cell? ⟨B0,1,none⟩=some (.int .i64 s.now)∧u.cell? ⟨B0,2,none⟩=some vO∧u.cell? ⟨B0,3,none⟩=some vp∧u.cell? ⟨B0,4,none⟩=some vh∧u.cell? ⟨BX,0,none⟩=some (.int .i64 x.fn)∧u.cell? ⟨BX,1,none⟩=some (.int .i64 x.at_)∧u.cell? ⟨BX,2,none⟩=some (.slice ol nl cl)∧u.cell? ⟨BX,3,none⟩=some (.slice os ns cs)∧u.cell? ⟨bg,og+(k+1)*4,none⟩=some (.int .i64 y.fn))
     (first | exact (un HYR) _ (Zb.trans (Zb.trans (by repeat (first | exact Zb.refl _ | refine Zb.drew ?_ | refine Zb.alloc ?_ _)) hkC) (by repeat (first | exact Zb.refl _ | refine Zb.drew ?_ | refine Zb.alloc ?_ _))) | exact (un HYR) _ (Zb.trans (Zb.trans (by repeat (first | exact Zb.refl _ | refine Zb.drew ?_ | refine Zb.alloc ?_ _)) hkA) (by repeat (first | exact Zb.refl _ | refine Zb.drew ?_ | refine Zb.alloc ?_ _))) | exact (un HYR) _ (by repeat (first | exact Zb.refl _ | refine Zb.drew ?_ | refine Zb.alloc ?_ _)))
     (first | (go_at_call 75;refine ((un HAX) _ (by repeat (first | exact Zb.refl _ | refine Zb.drew ?_ | refine Zb.alloc ?_ _))).mono ?_;rintro e wC ⟨rfl,hkC⟩))
    all_goals go_wp2_with fail
    go_roundw
    case rel =>
     refine ⟨k+1,by omega,by go_num,?_,Za (Zb.trans (un HKz) (Zb.trans (by repeat (first | exact Zb.refl _ | refine Zb.drew ?_ | refine Zb.alloc ?_ _)) hkC))⟩
     intro i hi
     by_cases e:i=k
     ·subst e;rw [un HX,un HYE];exact un HWW
     ·exact (un HA) i (by omega)
    case measure=>simp [intOf];omega
   ·have hwf:Qp p x (11,y.fn)=false:=by simpa using hww
    have HAX:Hid (∀ u,Zb wz u→Calls Tryd.prog 75 #[.agg #[.slice (some ⟨bf,off,none⟩) N cf,.int .i64 s.now,vO,vp,vh],.agg #[.int .i64 x.fn,.int .i64 x.at_,.slice ol nl cl,.slice os ns cs],.agg #[.int .i64 11,.int .i64 y.fn]] u fun e w'=>e=left 1∧Zb u w'):=Za (fun u hu=>(hax u hu).2 hwf)
    have hrf:r=false:=by
       rw [← un HR2]
       have:Qz p b.frames=false:=by
        rw [Bool.eq_false_iff];intro h
        have:=(Zdv p b.frames).1 h k (by rw [un HQ];omega)
        rw [un HX,un HYE,hwf] at this;cases this
       rw [this];simp
    subst hrf
    clear hax hww hwf HR2
    go_region_held2 (fun u=>u.cell? ⟨B0,0,none⟩=some (.slice (some ⟨bf,off,none⟩) N cf)∧u.cell? ⟨B0,1,none⟩=some (.int .i64 s.now)∧u.cell? ⟨B0,2,none⟩=some vO∧u.cell? ⟨B0,3,none⟩=some vp∧u.cell? ⟨B0,4,none⟩=some vh∧u.cell? ⟨BX,0,none⟩=some (.int .i64 x.fn)∧u.cell? ⟨BX,1,none⟩=some (.int .i64 x.at_)∧u.cell? ⟨BX,2,none⟩=some (.slice ol nl cl)∧u.cell? ⟨BX,3,none⟩=some (.slice os ns cs)∧u.cell? ⟨bg,og+(k+1)*4,none⟩=some (.int .i64 y.fn))
     (first | exact hF.elim | exact (un HYR) _ (Zb.trans (Zb.trans (by repeat (first | exact Zb.refl _ | refine Zb.drew ?_ | refine Zb.alloc ?_ _)) hkC) (by repeat (first | exact Zb.refl _ | refine Zb.drew ?_ | refine Zb.alloc ?_ _))) | exact (un HYR) _ (Zb.trans (Zb.trans (by repeat (first | exact Zb.refl _ | refine Zb.drew ?_ | refine Zb.alloc ?_ _)) hkA) (by repeat (first | exact Zb.refl _ | refine Zb.drew ?_ | refine Zb.alloc ?_ _))) | exact (un HYR) _ (by repeat (first | exact Zb.refl _ | refine Zb.drew ?_ | refine Zb.alloc ?_ _)))
     (first | (go_at_call 75;refine ((un HAX) _ (by repeat (first | exact Zb.refl _ | refine Zb.drew ?_ | refine Zb.alloc ?_ _))).mono ?_;rintro e wC ⟨rfl,hkC⟩;dsimp only [left];refine (Classical.em False).elim (fun hF=>?_) (fun _=>⟨rfl,rfl,Zb.trans (un HKZW) (Zb.trans (by repeat (first | exact Zb.refl _ | refine Zb.drew ?_ | refine Zb.alloc ?_ _)) hkC)⟩);refine Ud ‹Shut _› hF ⟨#[],[]⟩ w ?_))
    all_goals exact hF.elim
  ·have hwaits:Qz p b.frames=true:=(Zdv p b.frames).2 (fun i hi=>(un HA) i (by have:=un HQ;omega))
   have hr3:=un HR2
   rw [hwaits,Bool.true_and] at hr3
   obtain ⟨tl,ts,c0,c1,c2,c3,hvl,hvs⟩:=(un HCL) top (by omega)
   have hint:=(un HIN) top (by omega)
   generalize hT:b.frames.getD top Fr.zero=t at *
   have hfvt:FrV wr (.agg #[.int .i64 t.fn,.int .i64 t.at_,tl,ts]) t:=⟨tl,ts,rfl,hvl.kept hkw,hvs.kept hkw⟩
   have HFV:=Za hfvt
   have HINT:=Za hint
   obtain ⟨tlo,tlc,rfl,-,-⟩:=hvl
   obtain ⟨tso,tsc,rfl,-,-⟩:=hvs
   have htn:t.stack.length=t.stack.length:=rfl
   generalize t.locals.length=tln at *
   generalize htsn:t.stack.length=tsn at *
   have HTSN:=Za htsn
   have HYR:Hid (∀ u,Zb wr u→u.cell? ⟨B0,0,none⟩=some (.slice (some ⟨bf,off,none⟩) N cf)∧u.cell? ⟨B0,1,none⟩=some (.int .i64 s.now)∧u.cell? ⟨B0,2,none⟩=some vO∧u.cell? ⟨B0,3,none⟩=some vp∧u.cell? ⟨B0,4,none⟩=some vh∧u.cell? ⟨bg,og+top*4,none⟩=some (.int .i64 t.fn)∧u.cell? ⟨bg,og+top*4+1,none⟩=some (.int .i64 t.at_)∧u.cell? ⟨bg,og+top*4+2,none⟩=some (.slice tlo tln tlc)∧u.cell? ⟨bg,og+top*4+3,none⟩=some (.slice tso tsn tsc)):=Za (fun u hu=>by
    obtain ⟨y0,y1,y2,y3,y4⟩:=(un HYB) u ((un HKr).trans hu)
    exact ⟨y0,y1,y2,y3,y4,(hkw.trans hu).cell c0,(hkw.trans hu).cell c1,(hkw.trans hu).cell c2,(hkw.trans hu).cell c3⟩)
   obtain ⟨y0,y1,y2,y3,y4⟩:=(un HYB) wr (un HKr)
   have hax:=fun (u:World) (hu:Zb wr u)=>(un HAW) _ t 14 0 u (hkw.trans hu) ((un HFV).kept hu) (un HINT)
   have hhx:=fun (u:World) (hu:Zb wr u)=>(un HHT) _ t u (hkw.trans hu) ((un HFV).kept hu) (un HINT)
   have htl:(top:Int)<(top:Int)+1:=by omega
   have hdl:decide ((k:Int)<(top:Int))=false:=decide_eq_false (by omega)
   have HR3:=Za hr3
   clear hwaits hr3 c0 c1 c2 c3 hT hfvt hint hkw htn htsn HR2
   by_cases hnow:(nn:Int)=s.now
   ·have hnb:((nn:Int) == s.now)=true:=by rw [beq_iff_eq];exact hnow
    have hr4:decide ((tsn:Int)=hAt p t)=r:=by
     rw [← un HR3];unfold Zam;rw [decide_eq_true hnow,if_pos rfl,un HTSN]
    have HHX:=Za hhx
    have HR4:=Za hr4
    clear hax hhx hr4 hnow HR3
    generalize hAt p t=z at *
    by_cases hz:(tsn:Int)=z
    ·have hzb:((tsn:Int) == z)=true:=by rw [beq_iff_eq];exact hz
     have hrt:r=true:=by rw [← un HR4];exact decide_eq_true hz
     subst hrt
     clear hz HR4
     go_wp2_with fail
     go_region_held2 (fun u=>u.cell? ⟨B0,0,none⟩=some (.slice (some ⟨bf,off,none⟩) N cf)∧u.cell? ⟨B0,1,none⟩=some (.int .i64 s.now)∧u.cell? ⟨B0,2,none⟩=some vO∧u.cell? ⟨B0,3,none⟩=some vp∧u.cell? ⟨B0,4,none⟩=some vh∧u.cell? ⟨bg,og+top*4,none⟩=some (.int .i64 t.fn)∧u.cell? ⟨bg,og+top*4+1,none⟩=some (.int .i64 t.at_)∧u.cell? ⟨bg,og+top*4+2,none⟩=some (.slice tlo tln tlc)∧u.cell? ⟨bg,og+top*4+3,none⟩=some (.slice tso tsn tsc))
      (first | exact (un HYR) _ (Zb.trans (Zb.trans (by repeat (first | exact Zb.refl _ | refine Zb.drew ?_ | refine Zb.alloc ?_ _)) hkC) (by repeat (first | exact Zb.refl _ | refine Zb.drew ?_ | refine Zb.alloc ?_ _))) | exact (un HYR) _ (Zb.trans (Zb.trans (by repeat (first | exact Zb.refl _ | refine Zb.drew ?_ | refine Zb.alloc ?_ _)) hkA) (by repeat (first | exact Zb.refl _ | refine Zb.drew ?_ | refine Zb.alloc ?_ _))) | exact (un HYR) _ (by repeat (first | exact Zb.refl _ | refine Zb.drew ?_ | refine Zb.alloc ?_ _)))
      (first | (go_at_call 73;refine ((un HHX) _ (by repeat (first | exact Zb.refl _ | refine Zb.drew ?_ | refine Zb.alloc ?_ _))).mono ?_;rintro e wA ⟨rfl,hkA⟩) | (go_at_call 70;refine (Wo _ _ _ _ (by simp)).mono ?_;rintro e wC ⟨rfl,rfl⟩))
     all_goals go_wp2_with fail
     all_goals go_end0
     all_goals exact ⟨rfl,(Zb.trans (un HKW) (Zb.trans (by repeat (first | exact Zb.refl _ | refine Zb.drew ?_ | refine Zb.alloc ?_ _)) hkA)).alloc _⟩
    ·have hzb:((tsn:Int) == z)=false:=by rw [beq_eq_false_iff_ne];exact hz
     have hrt:r=false:=by rw [← un HR4];exact decide_eq_false hz
     subst hrt
     clear hz HR4
     go_wp2_with fail
     go_region_held2 (fun u=>u.cell? ⟨B0,0,none⟩=some (.slice (some ⟨bf,off,none⟩) N cf)∧u.cell? ⟨B0,1,none⟩=some (.int .i64 s.now)∧u.cell? ⟨B0,2,none⟩=some vO∧u.cell? ⟨B0,3,none⟩=some vp∧u.cell? ⟨B0,4,none⟩=some vh∧u.cell? ⟨bg,og+top*4,none⟩=some (.int .i64 t.fn)∧u.cell? ⟨bg,og+top*4+1,none⟩=some (.int .i64 t.at_)∧u.cell? ⟨bg,og+top*4+2,none⟩=some (.slice tlo tln tlc)∧u.cell? ⟨bg,og+top*4+3,none⟩=some (.slice tso tsn tsc))
      (first | exact hF.elim | exact (un HYR) _ (Zb.trans (Zb.trans (by repeat (first | exact Zb.refl _ | refine Zb.drew ?_ | refine Zb.alloc ?_ _)) hkC) (by repeat (first | exact Zb.refl _ | refine Zb.drew ?_ | refine Zb.alloc ?_ _))) | exact (un HYR) _ (Zb.trans (Zb.trans (by repeat (first | exact Zb.refl _ | refine Zb.drew ?_ | refine Zb.alloc ?_ _)) hkA) (by repeat (first | exact Zb.refl _ | refine Zb.drew ?_ | refine Zb.alloc ?_ _))) | exact (un HYR) _ (by repeat (first | exact Zb.refl _ | refine Zb.drew ?_ | refine Zb.alloc ?_ _)))
      (first | (go_at_call 73;refine ((un HHX) _ (by repeat (first | exact Zb.refl _ | refine Zb.drew ?_ | refine Zb.alloc ?_ _))).mono ?_;rintro e wA ⟨rfl,hkA⟩) | (go_at_call 70;refine (Ul _ _ _ _ (by simp)).mono ?_;rintro e wC ⟨rfl,rfl⟩;dsimp only [left];refine (Classical.em False).elim (fun hF=>?_) (fun _=>⟨rfl,rfl,Zb.trans (un HKW) (Zb.trans (Zb.trans (by repeat (first | exact Zb.refl _ | refine Zb.drew ?_ | refine Zb.alloc ?_ _)) hkA) (by repeat (first | exact Zb.refl _ | refine Zb.drew ?_ | refine Zb.alloc ?_ _)))⟩);refine Ud ‹Shut _› hF ⟨#[],[]⟩ w ?_))
     all_goals exact hF.elim
   ·have hnb:((nn:Int) == s.now)=false:=by rw [beq_eq_false_iff_ne];exact hnow
    have hr4:Qp p t (14,0)=r:=by
     rw [← un HR3];unfold Zam;rw [decide_eq_false hnow];rfl
    clear hhx hnow HR3
    by_cases hww:Qp p t (14,0)=true
    ·have HAX:Hid (∀ u,Zb wr u→Calls Tryd.prog 75 #[.agg #[.slice (some ⟨bf,off,none⟩) N cf,.int .i64 s.now,vO,vp,vh],.agg #[.int .i64 t.fn,.int .i64 t.at_,.slice tlo tln tlc,.slice tso tsn tsc],.agg #[.int .i64 14,.int .i64 0]] u fun e w'=>e=.returned (.tuple #[])∧Zb u w'):=Za (fun u hu=>(hax u hu).1 hww)
     have hrt:r=true:=by rw [← hr4];exact hww
     subst hrt
     clear hax hww hr4
     go_wp2_with fail
     go_region_held2 (fun u=>u.cell? ⟨B0,0,none⟩=some (.slice (some ⟨bf,off,none⟩) N cf)∧u.cell? ⟨B0,1,none⟩=some (.int .i64 s.now)∧u.cell? ⟨B0,2,none⟩=some vO∧u.cell? ⟨B0,3,none⟩=some vp∧u.cell? ⟨B0,4,none⟩=some vh∧u.cell? ⟨bg,og+top*4,none⟩=some (.int .i64 t.fn)∧u.cell? ⟨bg,og+top*4+1,none⟩=some (.int .i64 t.at_)∧u.cell? ⟨bg,og+top*4+2,none⟩=some (.slice tlo tln tlc)∧u.cell? ⟨bg,og+top*4+3,none⟩=some (.slice tso tsn tsc))
      (first | exact (un HYR) _ (Zb.trans (Zb.trans (by repeat (first | exact Zb.refl _ | refine Zb.drew ?_ | refine Zb.alloc ?_ _)) hkC) (by repeat (first | exact Zb.refl _ | refine Zb.drew ?_ | refine Zb.alloc ?_ _))) | exact (un HYR) _ (Zb.trans (Zb.trans (by repeat (first | exact Zb.refl _ | refine Zb.drew ?_ | refine Zb.alloc ?_ _)) hkA) (by repeat (first | exact Zb.refl _ | refine Zb.drew ?_ | refine Zb.alloc ?_ _))) | exact (un HYR) _ (by repeat (first | exact Zb.refl _ | refine Zb.drew ?_ | refine Zb.alloc ?_ _)))
      (first | (go_at_call 75;refine ((un HAX) _ (by repeat (first | exact Zb.refl _ | refine Zb.drew ?_ | refine Zb.alloc ?_ _))).mono ?_;rintro e wC ⟨rfl,hkC⟩))
     all_goals go_wp2_with fail
     all_goals go_end0
     all_goals exact ⟨rfl,Zb.trans (un HKW) (Zb.trans (by repeat (first | exact Zb.refl _ | refine Zb.drew ?_ | refine Zb.alloc ?_ _)) hkC)⟩
    ·have hwf:Qp p t (14,0)=false:=by simpa using hww
     have HAX:Hid (∀ u,Zb wr u→Calls Tryd.prog 75 #[.agg #[.slice (some ⟨bf,off,none⟩) N cf,.int .i64 s.now,vO,vp,vh],.agg #[.int .i64 t.fn,.int .i64 t.at_,.slice tlo tln tlc,.slice tso tsn tsc],.agg #[.int .i64 14,.int .i64 0]] u fun e w'=>e=left 1∧Zb u w'):=Za (fun u hu=>(hax u hu).2 hwf)
     have hrt:r=false:=by rw [← hr4];exact hwf
     subst hrt
     clear hax hww hwf hr4
     go_wp2_with fail
     go_region_held2 (fun u=>u.cell? ⟨B0,0,none⟩=some (.slice (some ⟨bf,off,none⟩) N cf)∧u.cell? ⟨B0,1,none⟩=some (.int .i64 s.now)∧u.cell? ⟨B0,2,none⟩=some vO∧u.cell? ⟨B0,3,none⟩=some vp∧u.cell? ⟨B0,4,none⟩=some vh∧u.cell? ⟨bg,og+top*4,none⟩=some (.int .i64 t.fn)∧u.cell? ⟨bg,og+top*4+1,none⟩=some (.int .i64 t.at_)∧u.cell? ⟨bg,og+top*4+2,none⟩=some (.slice tlo tln tlc)∧u.cell? ⟨bg,og+top*4+3,none⟩=some (.slice tso tsn tsc))
      (first | exact hF.elim | exact (un HYR) _ (Zb.trans (Zb.trans (by repeat (first | exact Zb.refl _ | refine Zb.drew ?_ | refine Zb.alloc ?_ _)) hkC) (by repeat (first | exact Zb.refl _ | refine Zb.drew ?_ | refine Zb.alloc ?_ _))) | exact (un HYR) _ (Zb.trans (Zb.trans (by repeat (first | exact Zb.refl _ | refine Zb.drew ?_ | refine Zb.alloc ?_ _)) hkA) (by repeat (first | exact Zb.refl _ | refine Zb.drew ?_ | refine Zb.alloc ?_ _))) | exact (un HYR) _ (by repeat (first | exact Zb.refl _ | refine Zb.drew ?_ | refine Zb.alloc ?_ _)))
      (first | (go_at_call 75;refine ((un HAX) _ (by repeat (first | exact Zb.refl _ | refine Zb.drew ?_ | refine Zb.alloc ?_ _))).mono ?_;rintro e wC ⟨rfl,hkC⟩;dsimp only [left];refine (Classical.em False).elim (fun hF=>?_) (fun _=>⟨rfl,rfl,Zb.trans (un HKW) (Zb.trans (by repeat (first | exact Zb.refl _ | refine Zb.drew ?_ | refine Zb.alloc ?_ _)) hkC)⟩);refine Ud ‹Shut _› hF ⟨#[],[]⟩ w ?_))
     all_goals exact hF.elim
end Go.Proofs.YtblihfpigjiahaaDoor
