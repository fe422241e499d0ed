/- StateZa, ProgA, StateJ, EngS -/
import Derived.Test.YtblihfpigjiahaaDoorDB18
import Derived.Deep.RegionHeld3
import Derived.Deep.DeepCutAuto
import Derived.Deep.RegionHeld2
import Derived.Test.YtblihfpigjiahaaDoorDB11
import Derived.Test.YtblihfpigjiahaaDoorDB12
import Derived.Test.YtblihfpigjiahaaDoorDB19
import Derived.Laws.Pointers
import Derived.Test.YtblihfpigjiahaaDoorDB16
set_option maxRecDepth 100000
set_option maxHeartbeats 8000000
namespace Go.Proofs.YtblihfpigjiahaaDoor
open Go.RowKit
theorem Zvh (p:List Fn) (s:St) (nn N cf bf off:Nat) (vO vp vh:Value) (b:Fb) (vfr:Value) (w:World) (hN:nn<N)
  (hj:Yv w (.agg #[.slice (some ⟨bf,off,none⟩) N cf,.int .i64 s.now,vO,vp,vh]) p s) (hl:Ua p) (hbd:Zby p)
  (k0:w.cell? ⟨bf,off+nn*2,none⟩=some vfr) (hf:Yo w vfr b.frames) (hb:s.fibers.getD nn Fb.zero=b) (hn:0<b.frames.length) (hfl:b.frames.length≤1000) (hall:b.frames.all (Zx p)=true) (r:Bool) (hr:Wg p s nn false=r) :
  Calls Tryd.prog 56 #[.agg #[.slice (some ⟨bf,off,none⟩) N cf,.int .i64 s.now,vO,vp,vh],.int .i64 nn,.bool false] w fun e w'=>e=Yk 1 r∧Za w w':=by
 rw [Zkm hb hn] at hr
 have hin:∀ i,i<b.frames.length→Jy p (b.frames.getD i Fr.zero):=fun i hi=>Jy.of (Pu hall hi)
 have haw:=askW hj hl hbd
 have hht:∀ (u:Value) (x:Fr) (y:World),Za w y→FrV y u x→Jy p x→Calls Tryd.prog 73 #[.agg #[.slice (some ⟨bf,off,none⟩) N cf,.int .i64 s.now,vO,vp,vh],u] y fun e w'=>e=.returned (.int .i64 (hAt p x))∧Za y w':=fun u x y hy hx h=>Zeo p s _ u x y (hj.kept hy) hx hl h
 have hfv:∀ i,i<b.frames.length→∃ bg og vl vs,vfr=.slice (some ⟨bg,og,none⟩) b.frames.length (match vfr with | .slice _ _ c=>c | _=>0)∧w.cell? ⟨bg,og+i*4,none⟩=some (.int .i64 (b.frames.getD i Fr.zero).fn)∧w.cell? ⟨bg,og+i*4+1,none⟩=some (.int .i64 (b.frames.getD i Fr.zero).at_)∧w.cell? ⟨bg,og+i*4+2,none⟩=some vl∧w.cell? ⟨bg,og+i*4+3,none⟩=some vs∧Xm w vl (b.frames.getD i Fr.zero).locals∧Xm w vs (b.frames.getD i Fr.zero).stack:=by
  intro i hi
  obtain ⟨oa,cap,e,_,hc⟩:=id hf
  obtain ⟨b',o',vl,vs,e1,r⟩:=hc i _ (Zp b.frames i Fr.zero hi)
  subst e e1
  exact ⟨b',o',vl,vs,rfl,r⟩
 have hfresh:∀ y,Za w y→Calls Tryd.prog 74 #[.agg #[.slice (some ⟨bf,off,none⟩) N cf,.int .i64 s.now,vO,vp,vh],vfr] y fun e w'=>e=.returned (.bool (Jn p b))∧Za y w':=fun y hy=>Zil p s _ _ b y (hj.kept hy) (hf.kept hy) hn (fun x hx=>by
  have:=Jy.of (List.all_eq_true.1 hall x hx)
  exact ⟨this.fn0,this.fn1⟩)
 obtain ⟨ofr,cfr,rfl,⟨hq8,hqc⟩,-⟩:=id hf
 obtain ⟨bg,og,_,_,e0,_⟩:=hfv 0 hn
 obtain ⟨rfl,-⟩:=(by simpa using e0:ofr=some ⟨bg,og,none⟩∧True)
 have hcl:∀ i,i<b.frames.length→∃ vl vs,w.cell? ⟨bg,og+i*4,none⟩=some (.int .i64 (b.frames.getD i Fr.zero).fn)∧w.cell? ⟨bg,og+i*4+1,none⟩=some (.int .i64 (b.frames.getD i Fr.zero).at_)∧w.cell? ⟨bg,og+i*4+2,none⟩=some vl∧w.cell? ⟨bg,og+i*4+3,none⟩=some vs∧Xm w vl (b.frames.getD i Fr.zero).locals∧Xm w vs (b.frames.getD i Fr.zero).stack:=by
  intro i hi
  obtain ⟨bg',og',vl,vs,e1,r⟩:=hfv i hi
  obtain ⟨⟨rfl,rfl⟩,-⟩:=(by simpa using e1:(bg=bg'∧og=og')∧True)
  exact ⟨vl,vs,r⟩
 have HCL:=Zb hcl
 have HAW:=Zb haw
 have HHT:=Zb hht
 have HFR:=Zb hfresh
 have HIN:=Zb hin
 have HR:=Zb hr
 have K0:=Zb k0
 clear hj hl hbd hf hb hr hin haw hht hfv hfresh hcl e0 hall
 generalize hq:b.frames.length=q at *
 have HQ:=Zb hq
 clear hq
 obtain ⟨top,htop⟩:∃ top:Nat,q=top+1:=⟨q - 1,by omega⟩
 subst htop
 have hn1:(nn:Int)<(N:Int):=by omega
 have hn0:(0:Int)≤(nn:Int):=by omega
 have hqb:(((top+1:Nat):Int) == 0)=false:=by rw [beq_eq_false_iff_ne];omega
 have hwt:IntKind.i64.wrap (((top+1:Nat):Int) - 1)=(top:Int):=by rw [Yp _ (by omega) (by omega)];omega
 have hts:((top+1:Nat):Int) - 1=(top:Int):=by omega
 have htc:(top:Int)≤(cfr:Int):=by omega
 have ht0:(0:Int)≤(top:Int):=by omega
 have hqb2:((top:Int)+1 == 0)=false:=by rw [beq_eq_false_iff_ne];omega
 have hwt2:IntKind.i64.wrap ((top:Int)+1 - 1)=(top:Int):=by rw [Yp _ (by omega) (by omega)];omega
 have hwt3:IntKind.i64.wrap (top:Int)=(top:Int):=Yp _ (by omega) (by omega)
 have hts2:(top:Int)+1 - 1=(top:Int):=by omega
 have k0:=un K0
 have lf:=Xk k0
 simp only at lf
 by_cases hz0:nn=0
 ·subst hz0
  simp only [Nat.zero_mul,Nat.add_zero] at k0
  have hN0:(0:Int)<(N:Int):=by omega
  have hrf:r=false:=by rw [← un HR];rfl
  subst hrf
  clear HR
  go_enter Tryd.func56,Tryd.ntmps56
  go_wp2_with (go_at_call 70;refine (Ud _ _ _ _ (by simp)).mono ?_;rintro e w' ⟨rfl,rfl⟩;dsimp only [left])
  exact ⟨rfl,rfl,((Za.refl w).alloc _).alloc _⟩
 have hzb:((nn:Int) != 0)=true:=by rw [bne_iff_ne];omega
 by_cases hfs:Jn p b=true
 ·have hrt:r=true:=by rw [← un HR,hfs];simp [hz0]
  subst hrt
  have HFR2:Hid (∀ y,Za w y→Calls Tryd.prog 74 #[.agg #[.slice (some ⟨bf,off,none⟩) N cf,.int .i64 s.now,vO,vp,vh],.slice (some ⟨bg,og,none⟩) (top+1) cfr] y fun e w'=>e=.returned (.bool true)∧Za y w'):=Zb (fun y hy=>by have:=(un HFR) y hy;rwa [hfs] at this)
  clear HR HFR hfs hz0
  go_enter Tryd.func56,Tryd.ntmps56
  go_wp2_with (first | (go_at_call 70;refine (Wb _ _ _ _ (by simp)).mono ?_;rintro e w' ⟨rfl,rfl⟩) | (go_at_call 74;refine ((un HFR2) _ (by repeat (first | exact Za.refl _ | refine Za.drew ?_ | refine Za.alloc ?_ _))).mono ?_;rintro e wF ⟨rfl,hkF⟩))
  first | go_end0 | refine bodyPost_ret (results_none rfl _ _ _) rfl ?_
  exact ⟨rfl,Za.trans (by repeat (first | exact Za.refl _ | refine Za.drew ?_ | refine Za.alloc ?_ _)) hkF⟩
 have hff:Jn p b=false:=by simpa using hfs
 have hr2:(Qt p b.frames && Zaa p (b.frames.getD top Fr.zero) (decide ((nn:Int)=s.now)) false)=r:=by
  rw [← un HR,hff];simp [hz0]
 have HR2:=Zb hr2
 have HFR2:Hid (∀ y,Za w y→Calls Tryd.prog 74 #[.agg #[.slice (some ⟨bf,off,none⟩) N cf,.int .i64 s.now,vO,vp,vh],.slice (some ⟨bg,og,none⟩) (top+1) cfr] y fun e w'=>e=.returned (.bool false)∧Za y w'):=Zb (fun y hy=>by have:=(un HFR) y hy;rwa [hff] at this)
 clear hr2 HR HFR hfs hff hz0
 go_enter Tryd.func56,Tryd.ntmps56
 go_wp2_with (first | (go_at_call 70;refine (Wb _ _ _ _ (by simp)).mono ?_;rintro e w' ⟨rfl,rfl⟩) | (go_at_call 74;refine ((un HFR2) _ (by repeat (first | exact Za.refl _ | refine Za.drew ?_ | refine Za.alloc ?_ _))).mono ?_;rintro e w0 ⟨rfl,hkF⟩))
 have L0:w0.heap[w.heap.size]?=some (.cells #[.slice (some ⟨bf,off,none⟩) N cf,.int .i64 s.now,vO,vp,vh] 95):=Zq hkF (Zr (Zj rfl) _)
 generalize hB:w.heap.size=B0 at *
 have HK0:Hid (Za w w0):=Zb (Za.trans (by repeat (first | exact Za.refl _ | refine Za.drew ?_ | refine Za.alloc ?_ _)) hkF)
 have HYB:Hid (∀ u,Za w0 u→u.cell? ⟨B0,0,none⟩=some (.slice (some ⟨bf,off,none⟩) N cf)∧u.cell? ⟨B0,1,none⟩=some (.int .i64 s.now)∧u.cell? ⟨B0,2,none⟩=some vO∧u.cell? ⟨B0,3,none⟩=some vp∧u.cell? ⟨B0,4,none⟩=some vh):=Zb (fun u hu=>⟨hu.cell (Zo L0 rfl),hu.cell (Zo L0 rfl),hu.cell (Zo L0 rfl),hu.cell (Zo L0 rfl),hu.cell (Zo L0 rfl)⟩)
 clear hB L0 k0 lf hkF HFR2
 go_loopw [45] (fun s45 wr=>∃ k:Nat,k≤top∧s45=.int .i64 k∧Hid (∀ i,i<k→Qi p (b.frames.getD i Fr.zero) (11,(b.frames.getD (i+1) Fr.zero).fn)=true)∧Hid (Za w0 wr)) (fun s45 _=>top - (intOf s45).toNat)
 case atStart=>exact ⟨0,Nat.zero_le _,rfl,(fun i hi=>by omega),Za.refl _⟩
 case round =>
  obtain ⟨k,hkm,rfl,HA,HKr⟩:=hrel
  have hkw:=(un HK0).trans (un HKr)
  have HKW:=Zb hkw
  by_cases hlt:k<top
  ·obtain ⟨vl,vs,c0,c1,c2,c3,hvl,hvs⟩:=(un HCL) k (by omega)
   obtain ⟨_,_,e0,-⟩:=(un HCL) (k+1) (by omega)
   have hinx:=(un HIN) k (by omega)
   generalize hX:b.frames.getD k Fr.zero=x at *
   generalize hYe:b.frames.getD (k+1) Fr.zero=y at *
   have HX:=Zb hX
   have HYE:=Zb hYe
   have hfvx:FrV wr (.agg #[.int .i64 x.fn,.int .i64 x.at_,vl,vs]) x:=⟨vl,vs,rfl,hvl.kept hkw,hvs.kept hkw⟩
   have HFV:=Zb hfvx
   have HINX:=Zb hinx
   obtain ⟨ol,cl,rfl,-,-⟩:=hvl
   obtain ⟨os,cs,rfl,-,-⟩:=hvs
   generalize x.locals.length=nl at *
   generalize x.stack.length=ns at *
   have d0:=hkw.cell c0
   have d1:=hkw.cell c1
   have d2:=hkw.cell c2
   have d3:=hkw.cell c3
   have E0:=Zb e0
   have hk1:(k:Int)<(top:Int):=by omega
   have hkz:(0:Int)≤(k:Int):=by omega
   have hk2:(k:Int)+1<(top:Int)+1:=by omega
   have hkz2:(0:Int)≤(k:Int)+1:=by omega
   have hkt:((k:Int)+1).toNat=k+1:=by omega
   have hwk:IntKind.i64.wrap ((k:Int)+1)=(k:Int)+1:=Yp _ (by omega) (by omega)
   clear hX hYe hfvx hinx c0 c1 c2 c3 e0 hkw
   go_wp2_with fail
   generalize hwz:wr.alloc (.cells #[.int .i64 x.fn,.int .i64 x.at_,.slice ol nl cl,.slice os ns cs] 53)=wz at *
   generalize hBX:wr.heap.size=BX at *
   have LX:wz.heap[BX]?=some (.cells #[.int .i64 x.fn,.int .i64 x.at_,.slice ol nl cl,.slice os ns cs] 53):=by rw [← hwz];exact Zj hBX
   have hkx:Za wr wz:=by rw [← hwz];exact (Za.refl wr).alloc _
   have HYR:Hid (∀ u,Za wz u→u.cell? ⟨B0,0,none⟩=some (.slice (some ⟨bf,off,none⟩) N cf)∧u.cell? ⟨B0,1,none⟩=some (.int .i64 s.now)∧u.cell? ⟨B0,2,none⟩=some vO∧u.cell? ⟨B0,3,none⟩=some vp∧u.cell? ⟨B0,4,none⟩=some vh∧u.cell? ⟨BX,0,none⟩=some (.int .i64 x.fn)∧u.cell? ⟨BX,1,none⟩=some (.int .i64 x.at_)∧u.cell? ⟨BX,2,none⟩=some (.slice ol nl cl)∧u.cell? ⟨BX,3,none⟩=some (.slice os ns cs)∧u.cell? ⟨bg,og+(k+1)*4,none⟩=some (.int .i64 y.fn)):=Zb (fun u hu=>by
    obtain ⟨y0,y1,y2,y3,y4⟩:=(un HYB) u (((un HKr).trans hkx).trans hu)
    exact ⟨y0,y1,y2,y3,y4,hu.cell (Zo LX rfl),hu.cell (Zo LX rfl),hu.cell (Zo LX rfl),hu.cell (Zo LX rfl),(((un HKW).trans hkx).trans hu).cell (un E0)⟩)
   have HKz:=Zb ((un HKr).trans hkx)
   have hax:=fun (u:World) (hu:Za wz u)=>(un HAW) _ x 11 y.fn u (((un HKW).trans hkx).trans hu) ((un HFV).kept (hkx.trans hu)) (un HINX)
   have HKZW:=Zb ((un HKW).trans hkx)
   clear hwz hBX LX hkx d0 d1 d2 d3 E0
   by_cases hww:Qi p x (11,y.fn)=true
   ·have HAX:Hid (∀ u,Za wz u→Calls Tryd.prog 75 #[.agg #[.slice (some ⟨bf,off,none⟩) N cf,.int .i64 s.now,vO,vp,vh],.agg #[.int .i64 x.fn,.int .i64 x.at_,.slice ol nl cl,.slice os ns cs],.agg #[.int .i64 11,.int .i64 y.fn]] u fun e w'=>e=.returned (.tuple #[])∧Za u w'):=Zb (fun u hu=>(hax u hu).1 hww)
    have HWW:=Zb hww
    clear hax hww
    go_region_held2 (fun u=>u.cell? ⟨B0,0,none⟩=some (.slice (some ⟨bf,off,none⟩) N cf)∧u.cell? ⟨B0,1,none⟩=some (.int .i64 s.now)∧u.cell? ⟨B0,2,none⟩=some vO∧u.cell? ⟨B0,3,none⟩=some vp∧u.cell? ⟨B0,4,none⟩=some vh∧u.cell? ⟨BX,0,none⟩=some (.int .i64 x.fn)∧u.cell? ⟨BX,1,none⟩=some (.int .i64 x.at_)∧u.cell? ⟨BX,2,none⟩=some (.slice ol nl cl)∧u.cell? ⟨BX,3,none⟩=some (.slice os ns cs)∧u.cell? ⟨bg,og+(k+1)*4,none⟩=some (.int .i64 y.fn))
     (first | exact (un HYR) _ (Za.trans (Za.trans (by repeat (first | exact Za.refl _ | refine Za.drew ?_ | refine Za.alloc ?_ _)) hkC) (by repeat (first | exact Za.refl _ | refine Za.drew ?_ | refine Za.alloc ?_ _))) | exact (un HYR) _ (Za.trans (Za.trans (by repeat (first | exact Za.refl _ | refine Za.drew ?_ | refine Za.alloc ?_ _)) hkA) (by repeat (first | exact Za.refl _ | refine Za.drew ?_ | refine Za.alloc ?_ _))) | exact (un HYR) _ (by repeat (first | exact Za.refl _ | refine Za.drew ?_ | refine Za.alloc ?_ _)))
     (first | (go_at_call 75;refine ((un HAX) _ (by repeat (first | exact Za.refl _ | refine Za.drew ?_ | refine Za.alloc ?_ _))).mono ?_;rintro e wC ⟨rfl,hkC⟩))
    all_goals go_wp2_with fail
    go_roundw
    case rel =>
     refine ⟨k+1,by omega,by go_num,?_,Zb (Za.trans (un HKz) (Za.trans (by repeat (first | exact Za.refl _ | refine Za.drew ?_ | refine Za.alloc ?_ _)) hkC))⟩
     intro i hi
     by_cases e:i=k
     ·subst e;rw [un HX,un HYE];exact un HWW
     ·exact (un HA) i (by omega)
    case measure=>simp [intOf];omega
   ·have hwf:Qi p x (11,y.fn)=false:=by simpa using hww
    have HAX:Hid (∀ u,Za wz u→Calls Tryd.prog 75 #[.agg #[.slice (some ⟨bf,off,none⟩) N cf,.int .i64 s.now,vO,vp,vh],.agg #[.int .i64 x.fn,.int .i64 x.at_,.slice ol nl cl,.slice os ns cs],.agg #[.int .i64 11,.int .i64 y.fn]] u fun e w'=>e=left 1∧Za u w'):=Zb (fun u hu=>(hax u hu).2 hwf)
    have hrf:r=false:=by
       rw [← un HR2]
       have:Qt p b.frames=false:=by
        rw [Bool.eq_false_iff];intro h
        have:=(Zde p b.frames).1 h k (by rw [un HQ];omega)
        rw [un HX,un HYE,hwf] at this;cases this
       rw [this];simp
    subst hrf
    clear hax hww hwf HR2
    go_region_held2 (fun u=>u.cell? ⟨B0,0,none⟩=some (.slice (some ⟨bf,off,none⟩) N cf)∧u.cell? ⟨B0,1,none⟩=some (.int .i64 s.now)∧u.cell? ⟨B0,2,none⟩=some vO∧u.cell? ⟨B0,3,none⟩=some vp∧u.cell? ⟨B0,4,none⟩=some vh∧u.cell? ⟨BX,0,none⟩=some (.int .i64 x.fn)∧u.cell? ⟨BX,1,none⟩=some (.int .i64 x.at_)∧u.cell? ⟨BX,2,none⟩=some (.slice ol nl cl)∧u.cell? ⟨BX,3,none⟩=some (.slice os ns cs)∧u.cell? ⟨bg,og+(k+1)*4,none⟩=some (.int .i64 y.fn))
     (first | exact hF.elim | exact (un HYR) _ (Za.trans (Za.trans (by repeat (first | exact Za.refl _ | refine Za.drew ?_ | refine Za.alloc ?_ _)) hkC) (by repeat (first | exact Za.refl _ | refine Za.drew ?_ | refine Za.alloc ?_ _))) | exact (un HYR) _ (Za.trans (Za.trans (by repeat (first | exact Za.refl _ | refine Za.drew ?_ | refine Za.alloc ?_ _)) hkA) (by repeat (first | exact Za.refl _ | refine Za.drew ?_ | refine Za.alloc ?_ _))) | exact (un HYR) _ (by repeat (first | exact Za.refl _ | refine Za.drew ?_ | refine Za.alloc ?_ _)))
     (first | (go_at_call 75;refine ((un HAX) _ (by repeat (first | exact Za.refl _ | refine Za.drew ?_ | refine Za.alloc ?_ _))).mono ?_;rintro e wC ⟨rfl,hkC⟩;dsimp only [left];refine (Classical.em False).elim (fun hF=>?_) (fun _=>⟨rfl,rfl,Za.trans (un HKZW) (Za.trans (by repeat (first | exact Za.refl _ | refine Za.drew ?_ | refine Za.alloc ?_ _)) hkC)⟩);refine Wk ‹Shut _› hF ⟨#[],[]⟩ w ?_))
    all_goals exact hF.elim
  ·have hwaits:Qt p b.frames=true:=(Zde p b.frames).2 (fun i hi=>(un HA) i (by have:=un HQ;omega))
   have hr3:=un HR2
   rw [hwaits,Bool.true_and] at hr3
   obtain ⟨tl,ts,c0,c1,c2,c3,hvl,hvs⟩:=(un HCL) top (by omega)
   have hint:=(un HIN) top (by omega)
   generalize hT:b.frames.getD top Fr.zero=t at *
   have hfvt:FrV wr (.agg #[.int .i64 t.fn,.int .i64 t.at_,tl,ts]) t:=⟨tl,ts,rfl,hvl.kept hkw,hvs.kept hkw⟩
   have HFV:=Zb hfvt
   have HINT:=Zb hint
   obtain ⟨tlo,tlc,rfl,-,-⟩:=hvl
   obtain ⟨tso,tsc,rfl,-,-⟩:=hvs
   have htn:t.stack.length=t.stack.length:=rfl
   generalize t.locals.length=tln at *
   generalize htsn:t.stack.length=tsn at *
   have HTSN:=Zb htsn
   have HYR:Hid (∀ u,Za wr u→u.cell? ⟨B0,0,none⟩=some (.slice (some ⟨bf,off,none⟩) N cf)∧u.cell? ⟨B0,1,none⟩=some (.int .i64 s.now)∧u.cell? ⟨B0,2,none⟩=some vO∧u.cell? ⟨B0,3,none⟩=some vp∧u.cell? ⟨B0,4,none⟩=some vh∧u.cell? ⟨bg,og+top*4,none⟩=some (.int .i64 t.fn)∧u.cell? ⟨bg,og+top*4+1,none⟩=some (.int .i64 t.at_)∧u.cell? ⟨bg,og+top*4+2,none⟩=some (.slice tlo tln tlc)∧u.cell? ⟨bg,og+top*4+3,none⟩=some (.slice tso tsn tsc)):=Zb (fun u hu=>by
    obtain ⟨y0,y1,y2,y3,y4⟩:=(un HYB) u ((un HKr).trans hu)
    exact ⟨y0,y1,y2,y3,y4,(hkw.trans hu).cell c0,(hkw.trans hu).cell c1,(hkw.trans hu).cell c2,(hkw.trans hu).cell c3⟩)
   obtain ⟨y0,y1,y2,y3,y4⟩:=(un HYB) wr (un HKr)
   have hax:=fun (u:World) (hu:Za wr u)=>(un HAW) _ t 15 0 u (hkw.trans hu) ((un HFV).kept hu) (un HINT)
   have hhx:=fun (u:World) (hu:Za wr u)=>(un HHT) _ t u (hkw.trans hu) ((un HFV).kept hu) (un HINT)
   have htl:(top:Int)<(top:Int)+1:=by omega
   have hdl:decide ((k:Int)<(top:Int))=false:=decide_eq_false (by omega)
   have HR3:=Zb hr3
   clear hwaits hr3 c0 c1 c2 c3 hT hfvt hint hkw htn htsn HR2
   by_cases hnow:(nn:Int)=s.now
   ·have hnb:((nn:Int) == s.now)=true:=by rw [beq_iff_eq];exact hnow
    have hr4:decide ((tsn:Int)=hAt p t)=r:=by
     rw [← un HR3];unfold Zaa;rw [decide_eq_true hnow,if_pos rfl,un HTSN]
    have HHX:=Zb hhx
    have HR4:=Zb hr4
    clear hax hhx hr4 hnow HR3
    generalize hAt p t=z at *
    by_cases hz:(tsn:Int)=z
    ·have hzb:((tsn:Int) == z)=true:=by rw [beq_iff_eq];exact hz
     have hrt:r=true:=by rw [← un HR4];exact decide_eq_true hz
     subst hrt
     clear hz HR4
     go_wp2_with fail
     go_region_held2 (fun u=>u.cell? ⟨B0,0,none⟩=some (.slice (some ⟨bf,off,none⟩) N cf)∧u.cell? ⟨B0,1,none⟩=some (.int .i64 s.now)∧u.cell? ⟨B0,2,none⟩=some vO∧u.cell? ⟨B0,3,none⟩=some vp∧u.cell? ⟨B0,4,none⟩=some vh∧u.cell? ⟨bg,og+top*4,none⟩=some (.int .i64 t.fn)∧u.cell? ⟨bg,og+top*4+1,none⟩=some (.int .i64 t.at_)∧u.cell? ⟨bg,og+top*4+2,none⟩=some (.slice tlo tln tlc)∧u.cell? ⟨bg,og+top*4+3,none⟩=some (.slice tso tsn tsc))
      (first | exact (un HYR) _ (Za.trans (Za.trans (by repeat (first | exact Za.refl _ | refine Za.drew ?_ | refine Za.alloc ?_ _)) hkC) (by repeat (first | exact Za.refl _ | refine Za.drew ?_ | refine Za.alloc ?_ _))) | exact (un HYR) _ (Za.trans (Za.trans (by repeat (first | exact Za.refl _ | refine Za.drew ?_ | refine Za.alloc ?_ _)) hkA) (by repeat (first | exact Za.refl _ | refine Za.drew ?_ | refine Za.alloc ?_ _))) | exact (un HYR) _ (by repeat (first | exact Za.refl _ | refine Za.drew ?_ | refine Za.alloc ?_ _)))
      (first | (go_at_call 73;refine ((un HHX) _ (by repeat (first | exact Za.refl _ | refine Za.drew ?_ | refine Za.alloc ?_ _))).mono ?_;rintro e wA ⟨rfl,hkA⟩) | (go_at_call 70;refine (Wb _ _ _ _ (by simp)).mono ?_;rintro e wC ⟨rfl,rfl⟩))
     all_goals go_wp2_with fail
     all_goals go_end0
     all_goals exact ⟨rfl,(Za.trans (un HKW) (Za.trans (by repeat (first | exact Za.refl _ | refine Za.drew ?_ | refine Za.alloc ?_ _)) hkA)).alloc _⟩
    ·have hzb:((tsn:Int) == z)=false:=by rw [beq_eq_false_iff_ne];exact hz
     have hrt:r=false:=by rw [← un HR4];exact decide_eq_false hz
     subst hrt
     clear hz HR4
     go_wp2_with fail
     go_region_held2 (fun u=>u.cell? ⟨B0,0,none⟩=some (.slice (some ⟨bf,off,none⟩) N cf)∧u.cell? ⟨B0,1,none⟩=some (.int .i64 s.now)∧u.cell? ⟨B0,2,none⟩=some vO∧u.cell? ⟨B0,3,none⟩=some vp∧u.cell? ⟨B0,4,none⟩=some vh∧u.cell? ⟨bg,og+top*4,none⟩=some (.int .i64 t.fn)∧u.cell? ⟨bg,og+top*4+1,none⟩=some (.int .i64 t.at_)∧u.cell? ⟨bg,og+top*4+2,none⟩=some (.slice tlo tln tlc)∧u.cell? ⟨bg,og+top*4+3,none⟩=some (.slice tso tsn tsc))
      (first | exact hF.elim | exact (un HYR) _ (Za.trans (Za.trans (by repeat (first | exact Za.refl _ | refine Za.drew ?_ | refine Za.alloc ?_ _)) hkC) (by repeat (first | exact Za.refl _ | refine Za.drew ?_ | refine Za.alloc ?_ _))) | exact (un HYR) _ (Za.trans (Za.trans (by repeat (first | exact Za.refl _ | refine Za.drew ?_ | refine Za.alloc ?_ _)) hkA) (by repeat (first | exact Za.refl _ | refine Za.drew ?_ | refine Za.alloc ?_ _))) | exact (un HYR) _ (by repeat (first | exact Za.refl _ | refine Za.drew ?_ | refine Za.alloc ?_ _)))
      (first | (go_at_call 73;refine ((un HHX) _ (by repeat (first | exact Za.refl _ | refine Za.drew ?_ | refine Za.alloc ?_ _))).mono ?_;rintro e wA ⟨rfl,hkA⟩) | (go_at_call 70;refine (Ud _ _ _ _ (by simp)).mono ?_;rintro e wC ⟨rfl,rfl⟩;dsimp only [left];refine (Classical.em False).elim (fun hF=>?_) (fun _=>⟨rfl,rfl,Za.trans (un HKW) (Za.trans (Za.trans (by repeat (first | exact Za.refl _ | refine Za.drew ?_ | refine Za.alloc ?_ _)) hkA) (by repeat (first | exact Za.refl _ | refine Za.drew ?_ | refine Za.alloc ?_ _)))⟩);refine Wk ‹Shut _› hF ⟨#[],[]⟩ w ?_))
     all_goals exact hF.elim
   ·have hnb:((nn:Int) == s.now)=false:=by rw [beq_eq_false_iff_ne];exact hnow
    have hr4:Qi p t (15,0)=r:=by
     rw [← un HR3];unfold Zaa;rw [decide_eq_false hnow];rfl
    clear hhx hnow HR3
    by_cases hww:Qi p t (15,0)=true
    ·have HAX:Hid (∀ u,Za wr u→Calls Tryd.prog 75 #[.agg #[.slice (some ⟨bf,off,none⟩) N cf,.int .i64 s.now,vO,vp,vh],.agg #[.int .i64 t.fn,.int .i64 t.at_,.slice tlo tln tlc,.slice tso tsn tsc],.agg #[.int .i64 15,.int .i64 0]] u fun e w'=>e=.returned (.tuple #[])∧Za u w'):=Zb (fun u hu=>(hax u hu).1 hww)
     have hrt:r=true:=by rw [← hr4];exact hww
     subst hrt
     clear hax hww hr4
     go_wp2_with fail
     go_region_held2 (fun u=>u.cell? ⟨B0,0,none⟩=some (.slice (some ⟨bf,off,none⟩) N cf)∧u.cell? ⟨B0,1,none⟩=some (.int .i64 s.now)∧u.cell? ⟨B0,2,none⟩=some vO∧u.cell? ⟨B0,3,none⟩=some vp∧u.cell? ⟨B0,4,none⟩=some vh∧u.cell? ⟨bg,og+top*4,none⟩=some (.int .i64 t.fn)∧u.cell? ⟨bg,og+top*4+1,none⟩=some (.int .i64 t.at_)∧u.cell? ⟨bg,og+top*4+2,none⟩=some (.slice tlo tln tlc)∧u.cell? ⟨bg,og+top*4+3,none⟩=some (.slice tso tsn tsc))
      (first | exact (un HYR) _ (Za.trans (Za.trans (by repeat (first | exact Za.refl _ | refine Za.drew ?_ | refine Za.alloc ?_ _)) hkC) (by repeat (first | exact Za.refl _ | refine Za.drew ?_ | refine Za.alloc ?_ _))) | exact (un HYR) _ (Za.trans (Za.trans (by repeat (first | exact Za.refl _ | refine Za.drew ?_ | refine Za.alloc ?_ _)) hkA) (by repeat (first | exact Za.refl _ | refine Za.drew ?_ | refine Za.alloc ?_ _))) | exact (un HYR) _ (by repeat (first | exact Za.refl _ | refine Za.drew ?_ | refine Za.alloc ?_ _)))
      (first | (go_at_call 75;refine ((un HAX) _ (by repeat (first | exact Za.refl _ | refine Za.drew ?_ | refine Za.alloc ?_ _))).mono ?_;rintro e wC ⟨rfl,hkC⟩))
     all_goals go_wp2_with fail
     all_goals go_end0
     all_goals exact ⟨rfl,Za.trans (un HKW) (Za.trans (by repeat (first | exact Za.refl _ | refine Za.drew ?_ | refine Za.alloc ?_ _)) hkC)⟩
    ·have hwf:Qi p t (15,0)=false:=by simpa using hww
     have HAX:Hid (∀ u,Za wr u→Calls Tryd.prog 75 #[.agg #[.slice (some ⟨bf,off,none⟩) N cf,.int .i64 s.now,vO,vp,vh],.agg #[.int .i64 t.fn,.int .i64 t.at_,.slice tlo tln tlc,.slice tso tsn tsc],.agg #[.int .i64 15,.int .i64 0]] u fun e w'=>e=left 1∧Za u w'):=Zb (fun u hu=>(hax u hu).2 hwf)
     have hrt:r=false:=by rw [← hr4];exact hwf
     subst hrt
     clear hax hww hwf hr4
     go_wp2_with fail
     go_region_held2 (fun u=>u.cell? ⟨B0,0,none⟩=some (.slice (some ⟨bf,off,none⟩) N cf)∧u.cell? ⟨B0,1,none⟩=some (.int .i64 s.now)∧u.cell? ⟨B0,2,none⟩=some vO∧u.cell? ⟨B0,3,none⟩=some vp∧u.cell? ⟨B0,4,none⟩=some vh∧u.cell? ⟨bg,og+top*4,none⟩=some (.int .i64 t.fn)∧u.cell? ⟨bg,og+top*4+1,none⟩=some (.int .i64 t.at_)∧u.cell? ⟨bg,og+top*4+2,none⟩=some (.slice tlo tln tlc)∧u.cell? ⟨bg,og+top*4+3,none⟩=some (.slice tso tsn tsc))
      (first | exact hF.elim | exact (un HYR) _ (Za.trans (Za.trans (by repeat (first | exact Za.refl _ | refine Za.drew ?_ | refine Za.alloc ?_ _)) hkC) (by repeat (first | exact Za.refl _ | refine Za.drew ?_ | refine Za.alloc ?_ _))) | exact (un HYR) _ (Za.trans (Za.trans (by repeat (first | exact Za.refl _ | refine Za.drew ?_ | refine Za.alloc ?_ _)) hkA) (by repeat (first | exact Za.refl _ | refine Za.drew ?_ | refine Za.alloc ?_ _))) | exact (un HYR) _ (by repeat (first | exact Za.refl _ | refine Za.drew ?_ | refine Za.alloc ?_ _)))
      (first | (go_at_call 75;refine ((un HAX) _ (by repeat (first | exact Za.refl _ | refine Za.drew ?_ | refine Za.alloc ?_ _))).mono ?_;rintro e wC ⟨rfl,hkC⟩;dsimp only [left];refine (Classical.em False).elim (fun hF=>?_) (fun _=>⟨rfl,rfl,Za.trans (un HKW) (Za.trans (by repeat (first | exact Za.refl _ | refine Za.drew ?_ | refine Za.alloc ?_ _)) hkC)⟩);refine Wk ‹Shut _› hF ⟨#[],[]⟩ w ?_))
     all_goals exact hF.elim
theorem hgtS_E {p:List Fn} {k:Nat} (h:Xs p k=0):(Pd p k).2=Ye p k:=by
 unfold Pd Ye Zw
 rw [if_pos h,Int.toNat_natCast]
 cases Qc p (p.getD k Fn.zero).code <;> rfl
theorem Zth (oa:Option Addr) (n cap:Nat) (w:World) (h:5<(n:Int)) :
  Calls Tryd.prog 20 #[.slice oa n cap] w fun e w'=>e=.returned (.int .i64 2)∧Za w w':=by
 go_enter Tryd.func20,Tryd.ntmps20
 go_wp2
 go_ret
 exact ⟨rfl,Za.refl _⟩
theorem Zxn (oa:Option Addr) (cap:Nat) (w:World) :
  Calls Tryd.prog 20 #[.slice oa 0 cap] w fun e w'=>e=.returned (.int .i64 5)∧Za w w':=by
 go_enter Tryd.func20,Tryd.ntmps20
 go_wp2
 go_ret
 exact ⟨rfl,Za.refl _⟩
theorem Zww (b o n cap:Nat) (ar:Int) (w:World) (h:¬ 5<(n:Int)) (h0:((n:Int) == 0)=false) (hn:0<n) (c0:w.cell? ⟨b,o,none⟩=some (.int .i64 ar)) (ha:(ar != 0)=true) :
  Calls Tryd.prog 20 #[.slice (some ⟨b,o,none⟩) n cap] w fun e w'=>e=.returned (.int .i64 1)∧Za w w':=by
 go_enter Tryd.func20,Tryd.ntmps20
 go_wp2
 go_ret
 exact ⟨rfl,Za.refl _⟩
theorem Zui (p:List Fn) (b o n cap:Nat) (w:World) (hp:Zv w (.slice (some ⟨b,o,none⟩) n cap) p) (hk:Qw w) (hl:n=p.length) (h:¬ 5<(n:Int)) (h0:((n:Int) == 0)=false) (hn:0<n) (c0:w.cell? ⟨b,o,none⟩=some (.int .i64 0)) (rr:Int) (hrr:(if Jb (fun k=>Xs p k) 0 p.length=0 then Jb (Ye p) 0 p.length else Jb (fun k=>Xs p k) 0 p.length)=rr) :
  Calls Tryd.prog 20 #[.slice (some ⟨b,o,none⟩) n cap] w fun e w'=>e=.returned (.int .i64 rr)∧Za w w':=by
 have HRR:=Zb hrr
 clear hrr
 have HP:=Zb hp
 have HK:=Zb hk
 have HL:=Zb hl
 clear hp hk hl
 go_enter Tryd.func20,Tryd.ntmps20
 go_wp2
 go_loopw [21] (fun s wr=>∃ k:Nat,k≤n∧s=.int .i64 k∧Hid (Jb (fun k=>Xs p k) k (n - k)=Jb (fun k=>Xs p k) 0 p.length)∧Hid (Za w wr)) (fun s _=>n - (intOf s).toNat)
 case atStart=>exact ⟨0,Nat.zero_le _,rfl,by have:=un HL;subst this;rfl,Za.refl _⟩
 case round =>
  obtain ⟨k,hkm,rfl,HO,HKr⟩:=hrel
  by_cases hlt:k<n
  ·have hst:=Zfd (e:=fun k=>Xs p k) hlt
   have HST:=Zb hst
   have hck:=Zgk p (.slice (some ⟨b,o,none⟩) n cap) k wr ((un HP).kept (un HKr)) ((un HK).kept (un HKr))
   have HCK:=Zb hck
   clear hst hck
   go_wp2_with fail
   refine (un HCK).mono ?_
   clear HCK
   rintro e w2 ⟨rfl,hk2⟩
   have HK2:=Zb ((un HKr).trans hk2)
   clear hk2
   by_cases hz:Xs p k=0
   ·have hst:=un HST
    simp only [hz,if_true] at hst
    have HS2:=Zb (hst.symm.trans (un HO))
    rw [hz]
    clear hst hz HST HO
    go_wp2
    go_roundw
    case rel=>exact ⟨k+1,by omega,by go_num,HS2,HK2⟩
    case measure=>simp [intOf];omega
   ·have hst:=un HST
    simp only [hz,if_false] at hst
    have hs2:=hst.symm.trans (un HO)
    have hz':(Xs p k != 0)=true:=by rw [bne_iff_ne];exact hz
    generalize Xs p k=r at *
    have HS2:=Zb hs2
    have HZ:=Zb hz
    clear hst hz HST HO hs2
    go_wp2
    go_ret
    have hrr:=un HRR
    rw [← un HS2,if_neg (un HZ)] at hrr
    exact ⟨by rw [← hrr];rfl,un HK2⟩
  ·have hf0:Jb (fun k=>Xs p k) 0 p.length=0:=by
    rw [← un HO,show n - k=0 by omega]
    rfl
   have HF:=Zb hf0
   clear hf0 HO
   go_wp2
   go_loopw [33] (fun s wq=>∃ k:Nat,k≤n∧s=.int .i64 k∧Hid (Jb (Ye p) k (n - k)=Jb (Ye p) 0 p.length)∧Hid (Za w wq)) (fun s _=>n - (intOf s).toNat)
   case atStart=>exact ⟨0,Nat.zero_le _,rfl,by have:=un HL;subst this;rfl,HKr⟩
   case round =>
    obtain ⟨k,hkm,rfl,HO,HKq⟩:=hrel
    by_cases hlt:k<n
    ·have hst:=Zfd (e:=Ye p) hlt
     have hz0:Xs p k=0:=Zci (un HF) k (by omega) (by have:=un HL;omega)
     have hge:=hgtS_E hz0
     have HST:=Zb hst
     have hck:=Zkb p (.slice (some ⟨b,o,none⟩) n cap) k _ ((un HP).kept (un HKq)) ((un HK).kept (un HKq))
     have HCK:=Zb hck
     have HGE:=Zb hge
     clear hst hck hge hz0
     go_wp2_with fail
     refine (un HCK).mono ?_
     clear HCK
     rintro e w2 ⟨v2,rfl,_,hk2⟩
     have HK2:=Zb ((un HKq).trans hk2)
     clear hk2
     rw [un HGE]
     by_cases hz:Ye p k=0
     ·have hst:=un HST
      simp only [hz,if_true] at hst
      have HS2:=Zb (hst.symm.trans (un HO))
      rw [hz]
      clear hst hz HST HO
      go_wp2
      go_roundw
      case rel=>exact ⟨k+1,by omega,by go_num,HS2,HK2⟩
      case measure=>simp [intOf];omega
     ·have hst:=un HST
      simp only [hz,if_false] at hst
      have hs2:=hst.symm.trans (un HO)
      have hz':(Ye p k != 0)=true:=by rw [bne_iff_ne];exact hz
      generalize Ye p k=r at *
      have HS2:=Zb hs2
      clear hst hz HST HO hs2
      go_wp2
      go_ret
      have hrr:=un HRR
      rw [if_pos (un HF),← un HS2] at hrr
      exact ⟨by rw [← hrr];rfl,un HK2⟩
    ·have hf1:Jb (Ye p) 0 p.length=0:=by
      rw [← un HO,show n - k=0 by omega]
      rfl
     have HF1:=Zb hf1
     clear hf1 HO
     go_wp2
     go_ret
     have hrr:=un HRR
     rw [if_pos (un HF),un HF1] at hrr
     exact ⟨by rw [← hrr];rfl,un HKq⟩
theorem Zep (p:List Fn) (v:Value) (w:World) (hp:Zv w v p) (hk:Qw w) :
  Calls Tryd.prog 20 #[v] w fun e w'=>e=.returned (.int .i64 (Xd p))∧Za w w':=by
 obtain ⟨oa,cap,rfl,hl,hi⟩:=id hp
 unfold Xd
 by_cases h5:5<p.length
 ·rw [if_pos h5]
  exact Zth oa p.length cap w (by omega)
 ·rw [if_neg h5]
  by_cases h0:p.length=0
  ·rw [if_pos h0,h0]
   exact Zxn oa cap w
  ·rw [if_neg h0]
   have h0':((p.length:Int) == 0)=false:=by rw [beq_eq_false_iff_ne];omega
   obtain ⟨b,o,cv,rfl,c0,c1,c2,hc⟩:=hi 0 _ (Zp p 0 Fn.zero (by omega))
   simp only [Nat.zero_mul,Nat.add_zero] at c0
   by_cases ha:(p.getD 0 Fn.zero).args=0
   ·rw [if_neg (not_not_intro ha)]
    rw [ha] at c0
    exact Zui p b o p.length cap w hp hk rfl (by omega) h0' (by omega) c0 _ rfl
   ·rw [if_pos ha]
    exact Zww b o p.length cap _ w (by omega) h0' (by omega) c0 (by rw [bne_iff_ne];exact ha)
theorem asErr (v:Value) (w:World):(Instr.typeAssert (.iface 27 v) 20 27 false).run Tryd.prog w=.ok v w:=by kernel_rfl
theorem Zbz (g:Nat) (x e:Int) (older:List PanicEntry) (w:World) (hc:w.heap[g]?=some (.cells #[.int .i64 x] 27)) :
  CallsD Tryd.prog 51 #[.pointer (some ⟨g,0,none⟩)] (.panicking ({ v:=.iface 27 (.int .i64 e),recovered:=false } :: older)) w fun en u' w' =>
   en=.returned (.tuple #[])∧u'=.panicking ({ v:=.iface 27 (.int .i64 e),recovered:=true } :: older)∧w'=w.setCell ⟨g,0,none⟩ (.int .i64 e):=by
 have c0:w.cell? ⟨g,0,none⟩=some (.int .i64 x):=Zo hc rfl
 have z0:=Zk hc 0
 refine callsD_of_wpS Tryd.func51 rfl fun c₀ cs hu=>?_
 apply wpS_seq
 apply wpS_region
 simp [wpOpsS,go_sem,recoverD,hu,Tryd.ntmps51,Exit.thenS]
 have ht:(#[Value.pointer (some ⟨g,0,none⟩)]++((Array.replicate 6 undef).setIfInBounds 1 (Value.iface 27 (.int .i64 e))).setIfInBounds 0 (Value.iface 27 (.int .i64 e)))=#[Value.pointer (some ⟨g,0,none⟩),Value.iface 27 (.int .i64 e),Value.iface 27 (.int .i64 e),undef,undef,undef,undef]:=rfl
 rw [ht]
 apply wpS_seq
 apply wpS_region
 simp [wpOpsS,go_sem,Exit.thenS]
 refine wpS_cond (t:=true) (by simp [Act.eval]) ?_
 simp only [if_true]
 apply wpS_region
 simp [wpOpsS,go_sem,asErr,c0,z0,bodyPostS,results,Tryd.results51]
theorem Zyu (g:Nat) (w:World) :
  CallsD Tryd.prog 51 #[.pointer (some ⟨g,0,none⟩)] .returning w fun e u' w'=>e=.returned (.tuple #[])∧u'=.returning∧w'=w:=by
 refine callsD_of_wpS Tryd.func51 rfl fun c₀ cs hu=>?_
 apply wpS_seq
 apply wpS_region
 simp [wpOpsS,go_sem,recoverD,hu,Tryd.ntmps51,Exit.thenS]
 have ht:(#[Value.pointer (some ⟨g,0,none⟩)]++((Array.replicate 6 undef).setIfInBounds 1 Value.nilIface).setIfInBounds 0 Value.nilIface)=#[Value.pointer (some ⟨g,0,none⟩),Value.nilIface,Value.nilIface,undef,undef,undef,undef]:=rfl
 rw [ht]
 apply wpS_seq
 apply wpS_region
 simp [wpOpsS,go_sem,Exit.thenS]
 refine wpS_cond (t:=false) (by simp [Act.eval]) ?_
 simp only [Bool.false_eq_true,if_false]
 refine wpS_of_wp (wp_skip ?_)
 cases c₀
 simp_all [bodyPostS,results,Tryd.results51]
end Go.Proofs.YtblihfpigjiahaaDoor
