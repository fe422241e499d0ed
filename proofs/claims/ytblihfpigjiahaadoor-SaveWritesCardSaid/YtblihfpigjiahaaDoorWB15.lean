/- StateH -/
import Derived.Test.YtblihfpigjiahaaDoorWB11
import Derived.Test.YtblihfpigjiahaaDoorWB14
set_option maxRecDepth 100000
set_option maxHeartbeats 8000000
namespace Go.Proofs.YtblihfpigjiahaaDoor
open Go.RowKit
theorem Zqz (p:List Fn) (vp:Value) (b:Fb) (bf off cf:Nat) (on runs:Bool) (w:World) (hp:Zw w vp p) (hh:Zah w vp p) (hl:Um p) (hbd:Zco p) (hn0:0<b.frames.length)
  (hf:Ys w (.slice (some ⟨bf,off,none⟩) b.frames.length cf) b.frames) (hfl:b.frames.length≤1000) :
  Calls Tryd.prog 17 #[vp,.agg #[.slice (some ⟨bf,off,none⟩) b.frames.length cf,.int .i64 b.caller],.bool on,.bool runs] w fun e w'=>e=.returned (.bool (Jd p b on runs))∧Zb w w':=by
 generalize hr:Jd p b on runs=r
 have HR:=Za hr
 have HP:=Za hp
 have HH:=Za hh
 have HLn:=Za hl
 have HBD:=Za hbd
 have HF:=Za hf
 have hcl:∀ i,i<b.frames.length→∃ vl vs,w.cell? ⟨bf,off+i*4,none⟩=some (.int .i64 (b.frames.getD i Fr.zero).fn)∧w.cell? ⟨bf,off+i*4+1,none⟩=some (.int .i64 (b.frames.getD i Fr.zero).at_)∧w.cell? ⟨bf,off+i*4+2,none⟩=some vl∧w.cell? ⟨bf,off+i*4+3,none⟩=some vs∧Xn w vl (b.frames.getD i Fr.zero).locals∧Xn w vs (b.frames.getD i Fr.zero).stack:=by
  intro i hi
  obtain ⟨oa,cap,e,_,hc⟩:=id hf
  obtain ⟨b',o',vl,vs,e1,r⟩:=hc i _ (Zq b.frames i Fr.zero hi)
  subst e1
  obtain ⟨⟨rfl,rfl⟩,-,-⟩:=(by simpa using e:(bf=b'∧off=o')∧b.frames.length=b.frames.length∧cf=cap)
  exact ⟨vl,vs,r⟩
 have HCL:=Za hcl
 generalize hN:b.frames.length=n at *
 have HN:=Za hN
 obtain ⟨oa,cap,rfl,hpl,_⟩:=id hp
 clear hr hp hh hl hbd hf hcl hN
 have hnb:((n:Int) == 0)=false:=by rw [beq_eq_false_iff_ne];omega
 go_enter Tryd.func17,Tryd.ntmps17
 go_wp2
 generalize hw0:w.alloc (.cells #[.slice (some ⟨bf,off,none⟩) n cf,.int .i64 b.caller] 46)=w0 at *
 have hk0:Zb w w0:=by rw [← hw0];exact (Zb.refl w).alloc _
 have x0:w0.cell? ⟨w.heap.size,0,none⟩=some (.slice (some ⟨bf,off,none⟩) n cf):=by rw [← hw0];simp
 have x1:w0.cell? ⟨w.heap.size,1,none⟩=some (.int .i64 b.caller):=by rw [← hw0];simp
 have X0:=Za x0
 have X1:=Za x1
 have HK0:=Za hk0
 clear hw0 hk0 x0 x1
 go_loopw [10] (fun s10 wr=>∃ k:Nat,k≤n∧s10=.int .i64 k∧Hid (∀ i,i<k→atB p b.frames i=true)∧Hid (Zb w0 wr)) (fun s10 _=>n - (intOf s10).toNat)
 case atStart=>exact ⟨0,Nat.zero_le _,rfl,(fun i hi=>by omega),Zb.refl _⟩
 case round =>
  obtain ⟨k,hkm,rfl,HA,HKr⟩:=hrel
  by_cases hlt:k<n
  ·obtain ⟨vl,vs,c0,c1,c2,c3,hvl,hvs⟩:=(un HCL) k hlt
   have hkw:=(un HK0).trans (un HKr)
   have hfv:FrV wr (.agg #[.int .i64 (b.frames.getD k Fr.zero).fn,.int .i64 (b.frames.getD k Fr.zero).at_,vl,vs]) (b.frames.getD k Fr.zero):=⟨vl,vs,rfl,hvl.kept hkw,hvs.kept hkw⟩
   have HFF:Hid (∀ u,Zb wr u→Calls Tryd.prog 35 #[.slice oa p.length cap,.agg #[.int .i64 (b.frames.getD k Fr.zero).fn,.int .i64 (b.frames.getD k Fr.zero).at_,vl,vs]] u fun e w'=>e=.returned (.bool (Xb p (b.frames.getD k Fr.zero)))∧Zb u w') :=
    Za (fun u hu=>Xbv p _ _ _ u ((un HP).kept (hkw.trans hu)) (hfv.kept hu) ((un HH).kept (hkw.trans hu)) (un HLn))
   have d0:=hkw.cell c0
   have d1:=hkw.cell c1
   have d2:=hkw.cell c2
   have d3:=hkw.cell c3
   have dx:=(un HKr).cell (un X0)
   have hk1:(k:Int)<(n:Int):=by omega
   have hkz:(0:Int)≤(k:Int):=by omega
   have HKW:=Za hkw
   have HRF:Hid (atB p b.frames k=false→r=false):=Za (fun h=>by
    rw [← un HR]
    have hfs:Ua p b.frames=false:=by
     rw [Bool.eq_false_iff];intro hf
     have:=(Zhk p b.frames).1 hf k (by rw [un HN];exact hlt)
     rw [h] at this;cases this
    unfold Jd
    split
    ·rename_i hl
     have:b.frames.length=0:=by rw [show b.frames=[] by simpa using hl];rfl
     have:=un HN
     omega
    ·rw [hfs];rfl)
   have hatb:atB p b.frames k=(Xb p (b.frames.getD k Fr.zero) && (!decide (k+1<n) || (ixB (b.frames.getD (k+1) Fr.zero).fn p.length && Jk p (b.frames.getD k Fr.zero) 11 (b.frames.getD (k+1) Fr.zero).fn))):=by
    unfold atB;rw [un HN]
   have HATB:=Za hatb
   clear hatb
   by_cases hlast:k+1<n
   ·obtain ⟨_,_,e0,-⟩:=(un HCL) (k+1) hlast
    have g0:=hkw.cell e0
    have hk2:(k:Int)+1<(n:Int):=by omega
    have hkz2:(0:Int)≤(k:Int)+1:=by omega
    have hkt:((k:Int)+1).toNat=k+1:=by omega
    have hwk:IntKind.i64.wrap ((k:Int)+1)=(k:Int)+1:=Wa _ (by omega) (by omega)
    have hwp:IntKind.i64.wrap ((p.length:Int) - 1)=(p.length:Int) - 1:=Wa _ (by omega) (by omega)
    have HWT:Hid (Xb p (b.frames.getD k Fr.zero)=true→∀ u,Zb wr u→Calls Tryd.prog 36 #[.slice oa p.length cap,.agg #[.int .i64 (b.frames.getD k Fr.zero).fn,.int .i64 (b.frames.getD k Fr.zero).at_,vl,vs],.int .i64 11,.int .i64 (b.frames.getD (k+1) Fr.zero).fn] u fun e w'=>e=.returned (.bool (Jk p (b.frames.getD k Fr.zero) 11 (b.frames.getD (k+1) Fr.zero).fn))∧Zb u w') :=
     Za (fun hb u hu=>Zlm p _ _ _ _ _ u ((un HP).kept (hkw.trans hu)) (hfv.kept hu) ((un HH).kept (hkw.trans hu)) (un HLn) (Yg.of hb) (un HBD))
    have HY:Hid (∀ u,Zb wr u→u.cell? ⟨w.heap.size,0,none⟩=some (.slice (some ⟨bf,off,none⟩) n cf)∧u.cell? ⟨bf,off+k*4,none⟩=some (.int .i64 (b.frames.getD k Fr.zero).fn)∧u.cell? ⟨bf,off+k*4+1,none⟩=some (.int .i64 (b.frames.getD k Fr.zero).at_)∧u.cell? ⟨bf,off+k*4+2,none⟩=some vl∧u.cell? ⟨bf,off+k*4+3,none⟩=some vs∧u.cell? ⟨bf,off+(k+1)*4,none⟩=some (.int .i64 (b.frames.getD (k+1) Fr.zero).fn)) :=
     Za (fun u hu=>⟨hu.cell dx,hu.cell d0,hu.cell d1,hu.cell d2,hu.cell d3,hu.cell g0⟩)
    have hdl:=decide_eq_true hlast
    rw [hdl] at HATB
    clear c0 c1 c2 c3 e0 hvl hvs hfv hkw d0 d1 d2 d3 dx g0 hdl
    generalize hX:b.frames.getD k Fr.zero=x at *
    generalize hYe:b.frames.getD (k+1) Fr.zero=y at *
    have hwb:=Zgd y.fn p.length
    have hkd:decide ((k:Int)+1<(n:Int))=true:=decide_eq_true hk2
    clear hX hYe
    by_cases hfx:Xb p x=true
    ·have hwt:=(un HWT) hfx
     have hff:=un HFF
     rw [hfx] at hff
     have HFF:=Za hff
     clear hff
     by_cases hiy:ixB y.fn p.length=true
     ·rw [hiy] at hwb
      have HWI:Hid (∀ u,Calls Tryd.prog 15 #[.int .i64 y.fn,.int .i64 0,.int .i64 ((p.length:Int) - 1)] u fun e w'=>e=.returned (.bool true)∧u=w'):=Za (fun u=>by have:=Xm y.fn 0 ((p.length:Int) - 1) u;rwa [hwb] at this)
      by_cases hww:Jk p x 11 y.fn=true
      ·rw [hww] at hwt
       have HWT:=Za hwt
       have HAT:Hid (atB p b.frames k=true):=Za (by rw [un HATB,hfx,hiy,hww];rfl)
       clear hwt hfx hiy hww hwb
       go_wp2_with fail
       refine wp_region_held_drew (S:=(fun u=>u.cell? ⟨w.heap.size,0,none⟩=some (.slice (some ⟨bf,off,none⟩) n cf)∧u.cell? ⟨bf,off+k*4,none⟩=some (.int .i64 x.fn)∧u.cell? ⟨bf,off+k*4+1,none⟩=some (.int .i64 x.at_)∧u.cell? ⟨bf,off+k*4+2,none⟩=some vl∧u.cell? ⟨bf,off+k*4+3,none⟩=some vs∧u.cell? ⟨bf,off+(k+1)*4,none⟩=some (.int .i64 y.fn))) (by kernel_rfl) ((un HY) _ (Zb.drew (Zb.refl _))) (fun hHeld=>?_)
       refine Xd [0,1,2,3,4,5] ?_
       repeat
        refine Xe (v:=?_) hHeld (fun u hSu=>?_) ?_
        rotate_left
        ·((try dsimp only at hSu);go_simp) <;> with_reducible rfl
        try simp only [PS]
       refine Xc ?_
       refine Xw (i:=6) rfl (by kernel_rfl) (fun K hK=>?_)
       go_simp
       refine ((un HFF) _ (Zb.drew (Zb.refl _))).mono ?_
       rintro e wA ⟨rfl,hkA⟩
       refine hK.out _ _ ((un HY) _ (Zb.trans (Zb.drew (Zb.refl _)) hkA)) (fun hHeld=>?_)
       clear hK K
       try simp only [PS]
       refine Xd [7,8,9,10,11,12,13,14,15,16,17,18,19,20,21,22,23] ?_
       repeat
        refine Xe (v:=?_) hHeld (fun u hSu=>?_) ?_
        rotate_left
        ·((try dsimp only at hSu);go_simp) <;> with_reducible rfl
        try simp only [PS]
       refine Xc ?_
       refine Xw (i:=24) rfl (by kernel_rfl) (fun K hK=>?_)
       go_simp
       refine ((un HWI) _).mono ?_
       rintro e wC ⟨rfl,rfl⟩
       refine hK.out _ _ (hHeld) (fun hHeld=>?_)
       clear hK K
       try simp only [PS]
       refine Xd [25,26,27,28,29,30,31,32,33,34,35,36,37,38,39] ?_
       repeat
        refine Xe (v:=?_) hHeld (fun u hSu=>?_) ?_
        rotate_left
        ·((try dsimp only at hSu);go_simp) <;> with_reducible rfl
        try simp only [PS]
       refine Xc ?_
       refine Xw (i:=40) rfl (by kernel_rfl) (fun K hK=>?_)
       go_simp
       refine ((un HWT) _ (Zb.trans (Zb.drew (Zb.refl _)) hkA)).mono ?_
       rintro e wB ⟨rfl,hkB⟩
       refine hK.out _ _ ((un HY) _ (Zb.trans (Zb.trans (Zb.drew (Zb.refl _)) hkA) hkB)) (fun hHeld=>?_)
       clear hK K
       try simp only [PS]
       refine Xd [41,42,43,44] ?_
       repeat
        refine Xe (v:=?_) hHeld (fun u hSu=>?_) ?_
        rotate_left
        ·((try dsimp only at hSu);go_simp) <;> with_reducible rfl
        try simp only [PS]
       refine Xc ?_
       refine wpAnyH_done (by kernel_rfl) ?_ _
       all_goals go_wp2_with fail
       all_goals go_roundw
       case rel =>
        refine ⟨k+1,by omega,by go_num,?_,Za (Zb.trans (un HKr) (Zb.trans (Zb.trans (Zb.drew (Zb.refl _)) hkA) hkB))⟩
        intro i hi
        by_cases e:i=k
        ·subst e;exact un HAT
        ·exact (un HA) i (by omega)
       case measure=>simp [intOf];omega
      ·have hwf:Jk p x 11 y.fn=false:=by simpa using hww
       rw [hwf] at hwt
       have HWT:=Za hwt
       have hrf:r=false:=(un HRF) (by rw [un HATB,hwf];simp)
       subst hrf
       clear hwt hfx hiy hww hwf hwb
       go_wp2_with fail
       refine wp_region_held_drew (S:=(fun u=>u.cell? ⟨w.heap.size,0,none⟩=some (.slice (some ⟨bf,off,none⟩) n cf)∧u.cell? ⟨bf,off+k*4,none⟩=some (.int .i64 x.fn)∧u.cell? ⟨bf,off+k*4+1,none⟩=some (.int .i64 x.at_)∧u.cell? ⟨bf,off+k*4+2,none⟩=some vl∧u.cell? ⟨bf,off+k*4+3,none⟩=some vs∧u.cell? ⟨bf,off+(k+1)*4,none⟩=some (.int .i64 y.fn))) (by kernel_rfl) ((un HY) _ (Zb.drew (Zb.refl _))) (fun hHeld=>?_)
       refine Xd [0,1,2,3,4,5] ?_
       repeat
        refine Xe (v:=?_) hHeld (fun u hSu=>?_) ?_
        rotate_left
        ·((try dsimp only at hSu);go_simp) <;> with_reducible rfl
        try simp only [PS]
       refine Xc ?_
       refine Xw (i:=6) rfl (by kernel_rfl) (fun K hK=>?_)
       go_simp
       refine ((un HFF) _ (Zb.drew (Zb.refl _))).mono ?_
       rintro e wA ⟨rfl,hkA⟩
       refine hK.out _ _ ((un HY) _ (Zb.trans (Zb.drew (Zb.refl _)) hkA)) (fun hHeld=>?_)
       clear hK K
       try simp only [PS]
       refine Xd [7,8,9,10,11,12,13,14,15,16,17,18,19,20,21,22,23] ?_
       repeat
        refine Xe (v:=?_) hHeld (fun u hSu=>?_) ?_
        rotate_left
        ·((try dsimp only at hSu);go_simp) <;> with_reducible rfl
        try simp only [PS]
       refine Xc ?_
       refine Xw (i:=24) rfl (by kernel_rfl) (fun K hK=>?_)
       go_simp
       refine ((un HWI) _).mono ?_
       rintro e wC ⟨rfl,rfl⟩
       refine hK.out _ _ (hHeld) (fun hHeld=>?_)
       clear hK K
       try simp only [PS]
       refine Xd [25,26,27,28,29,30,31,32,33,34,35,36,37,38,39] ?_
       repeat
        refine Xe (v:=?_) hHeld (fun u hSu=>?_) ?_
        rotate_left
        ·((try dsimp only at hSu);go_simp) <;> with_reducible rfl
        try simp only [PS]
       refine Xc ?_
       refine Xw (i:=40) rfl (by kernel_rfl) (fun K hK=>?_)
       go_simp
       refine ((un HWT) _ (Zb.trans (Zb.drew (Zb.refl _)) hkA)).mono ?_
       rintro e wB ⟨rfl,hkB⟩
       refine hK.out _ _ ((un HY) _ (Zb.trans (Zb.trans (Zb.drew (Zb.refl _)) hkA) hkB)) (fun hHeld=>?_)
       clear hK K
       try simp only [PS]
       refine Xd [41,42,43,44] ?_
       repeat
        refine Xe (v:=?_) hHeld (fun u hSu=>?_) ?_
        rotate_left
        ·((try dsimp only at hSu);go_simp) <;> with_reducible rfl
        try simp only [PS]
       refine Xc ?_
       refine wpAnyH_done (by kernel_rfl) ?_ _
       all_goals go_wp2_with fail
       all_goals go_ret
       all_goals exact ⟨rfl,Zb.trans (un HKW) (Zb.trans (Zb.trans (Zb.drew (Zb.refl _)) hkA) hkB)⟩
     ·have hif:ixB y.fn p.length=false:=by simpa using hiy
      rw [hif] at hwb
      have HWI:Hid (∀ u,Calls Tryd.prog 15 #[.int .i64 y.fn,.int .i64 0,.int .i64 ((p.length:Int) - 1)] u fun e w'=>e=.returned (.bool false)∧u=w'):=Za (fun u=>by have:=Xm y.fn 0 ((p.length:Int) - 1) u;rwa [hwb] at this)
      have hrf:r=false:=(un HRF) (by rw [un HATB,hif];simp)
      subst hrf
      clear hwt hfx hiy hif hwb HWT
      go_wp2_with fail
      refine wp_region_held_drew (S:=(fun u=>u.cell? ⟨w.heap.size,0,none⟩=some (.slice (some ⟨bf,off,none⟩) n cf)∧u.cell? ⟨bf,off+k*4,none⟩=some (.int .i64 x.fn)∧u.cell? ⟨bf,off+k*4+1,none⟩=some (.int .i64 x.at_)∧u.cell? ⟨bf,off+k*4+2,none⟩=some vl∧u.cell? ⟨bf,off+k*4+3,none⟩=some vs∧u.cell? ⟨bf,off+(k+1)*4,none⟩=some (.int .i64 y.fn))) (by kernel_rfl) ((un HY) _ (Zb.drew (Zb.refl _))) (fun hHeld=>?_)
      refine Xd [0,1,2,3,4,5] ?_
      repeat
       refine Xe (v:=?_) hHeld (fun u hSu=>?_) ?_
       rotate_left
       ·((try dsimp only at hSu);go_simp) <;> with_reducible rfl
       try simp only [PS]
      refine Xc ?_
      refine Xw (i:=6) rfl (by kernel_rfl) (fun K hK=>?_)
      go_simp
      refine ((un HFF) _ (Zb.drew (Zb.refl _))).mono ?_
      rintro e wA ⟨rfl,hkA⟩
      refine hK.out _ _ ((un HY) _ (Zb.trans (Zb.drew (Zb.refl _)) hkA)) (fun hHeld=>?_)
      clear hK K
      try simp only [PS]
      refine Xd [7,8,9,10,11,12,13,14,15,16,17,18,19,20,21,22,23] ?_
      repeat
       refine Xe (v:=?_) hHeld (fun u hSu=>?_) ?_
       rotate_left
       ·((try dsimp only at hSu);go_simp) <;> with_reducible rfl
       try simp only [PS]
      refine Xc ?_
      refine Xw (i:=24) rfl (by kernel_rfl) (fun K hK=>?_)
      go_simp
      refine ((un HWI) _).mono ?_
      rintro e wC ⟨rfl,rfl⟩
      refine hK.out _ _ (hHeld) (fun hHeld=>?_)
      clear hK K
      try simp only [PS]
      refine Xd [25,26] ?_
      repeat
       refine Xe (v:=?_) hHeld (fun u hSu=>?_) ?_
       rotate_left
       ·((try dsimp only at hSu);go_simp) <;> with_reducible rfl
       try simp only [PS]
      refine Xc ?_
      refine Up [27,28,29,30,31,32,33,34,35,36,37,38,39,40,41] ?_
      repeat
       refine Uz hHeld ?_
       try simp only [PS]
      refine Uv ?_
      refine Xd [42,43,44] ?_
      repeat
       refine Xe (v:=?_) hHeld (fun u hSu=>?_) ?_
       rotate_left
       ·((try dsimp only at hSu);go_simp) <;> with_reducible rfl
       try simp only [PS]
      refine Xc ?_
      refine wpAnyH_done (by kernel_rfl) ?_ _
      all_goals go_wp2_with fail
      all_goals go_ret
      all_goals exact ⟨rfl,Zb.trans (un HKW) (Zb.trans (Zb.drew (Zb.refl _)) hkA)⟩
    ·have hxf:Xb p x=false:=by simpa using hfx
     have hff:=un HFF
     rw [hxf] at hff
     have HFF:=Za hff
     have hrf:r=false:=(un HRF) (by rw [un HATB,hxf];rfl)
     subst hrf
     clear hff hfx hxf HWT hwb
     go_wp2_with fail
     refine wp_region_held_drew (S:=(fun u=>u.cell? ⟨w.heap.size,0,none⟩=some (.slice (some ⟨bf,off,none⟩) n cf)∧u.cell? ⟨bf,off+k*4,none⟩=some (.int .i64 x.fn)∧u.cell? ⟨bf,off+k*4+1,none⟩=some (.int .i64 x.at_)∧u.cell? ⟨bf,off+k*4+2,none⟩=some vl∧u.cell? ⟨bf,off+k*4+3,none⟩=some vs∧u.cell? ⟨bf,off+(k+1)*4,none⟩=some (.int .i64 y.fn))) (by kernel_rfl) ((un HY) _ (Zb.drew (Zb.refl _))) (fun hHeld=>?_)
     refine Xd [0,1,2,3,4,5] ?_
     repeat
      refine Xe (v:=?_) hHeld (fun u hSu=>?_) ?_
      rotate_left
      ·((try dsimp only at hSu);go_simp) <;> with_reducible rfl
      try simp only [PS]
     refine Xc ?_
     refine Xw (i:=6) rfl (by kernel_rfl) (fun K hK=>?_)
     go_simp
     refine ((un HFF) _ (Zb.drew (Zb.refl _))).mono ?_
     rintro e wA ⟨rfl,hkA⟩
     refine hK.out _ _ ((un HY) _ (Zb.trans (Zb.drew (Zb.refl _)) hkA)) (fun hHeld=>?_)
     clear hK K
     try simp only [PS]
     refine Xd [7,8] ?_
     repeat
      refine Xe (v:=?_) hHeld (fun u hSu=>?_) ?_
      rotate_left
      ·((try dsimp only at hSu);go_simp) <;> with_reducible rfl
      try simp only [PS]
     refine Xc ?_
     refine Up [9,10,11,12,13,14,15,16,17,18,19,20,21,22,23,24,25,26,27,28,29,30,31,32,33,34,35,36,37,38,39,40,41,42,43] ?_
     repeat
      refine Uz hHeld ?_
      try simp only [PS]
     refine Uv ?_
     refine Xd [44] ?_
     repeat
      refine Xe (v:=?_) hHeld (fun u hSu=>?_) ?_
      rotate_left
      ·((try dsimp only at hSu);go_simp) <;> with_reducible rfl
      try simp only [PS]
     refine Xc ?_
     refine wpAnyH_done (by kernel_rfl) ?_ _
     all_goals go_wp2_with fail
     all_goals go_ret
     all_goals exact ⟨rfl,Zb.trans (un HKW) (Zb.trans (Zb.drew (Zb.refl _)) hkA)⟩
   ·have hwk:IntKind.i64.wrap ((k:Int)+1)=(k:Int)+1:=Wa _ (by omega) (by omega)
    have hkd:decide ((k:Int)+1<(n:Int))=false:=decide_eq_false (by omega)
    have HY:Hid (∀ u,Zb wr u→u.cell? ⟨w.heap.size,0,none⟩=some (.slice (some ⟨bf,off,none⟩) n cf)∧u.cell? ⟨bf,off+k*4,none⟩=some (.int .i64 (b.frames.getD k Fr.zero).fn)∧u.cell? ⟨bf,off+k*4+1,none⟩=some (.int .i64 (b.frames.getD k Fr.zero).at_)∧u.cell? ⟨bf,off+k*4+2,none⟩=some vl∧u.cell? ⟨bf,off+k*4+3,none⟩=some vs) :=
     Za (fun u hu=>⟨hu.cell dx,hu.cell d0,hu.cell d1,hu.cell d2,hu.cell d3⟩)
    have hdl:=decide_eq_false hlast
    rw [hdl] at HATB
    clear c0 c1 c2 c3 hvl hvs hfv hkw d0 d1 d2 d3 dx hdl
    generalize hX:b.frames.getD k Fr.zero=x at *
    clear hX
    by_cases hfx:Xb p x=true
    ·have hff:=un HFF
     rw [hfx] at hff
     have HFF:=Za hff
     have HAT:Hid (atB p b.frames k=true):=Za (by rw [un HATB,hfx];rfl)
     clear hff hfx
     go_wp2_with fail
     refine wp_region_held_drew (S:=(fun u=>u.cell? ⟨w.heap.size,0,none⟩=some (.slice (some ⟨bf,off,none⟩) n cf)∧u.cell? ⟨bf,off+k*4,none⟩=some (.int .i64 x.fn)∧u.cell? ⟨bf,off+k*4+1,none⟩=some (.int .i64 x.at_)∧u.cell? ⟨bf,off+k*4+2,none⟩=some vl∧u.cell? ⟨bf,off+k*4+3,none⟩=some vs)) (by kernel_rfl) ((un HY) _ (Zb.drew (Zb.refl _))) (fun hHeld=>?_)
     refine Xd [0,1,2,3,4,5] ?_
     repeat
      refine Xe (v:=?_) hHeld (fun u hSu=>?_) ?_
      rotate_left
      ·((try dsimp only at hSu);go_simp) <;> with_reducible rfl
      try simp only [PS]
     refine Xc ?_
     refine Xw (i:=6) rfl (by kernel_rfl) (fun K hK=>?_)
     go_simp
     refine ((un HFF) _ (Zb.drew (Zb.refl _))).mono ?_
     rintro e wA ⟨rfl,hkA⟩
     refine hK.out _ _ ((un HY) _ (Zb.trans (Zb.drew (Zb.refl _)) hkA)) (fun hHeld=>?_)
     clear hK K
     try simp only [PS]
     refine Xd [7,8,9,10,11,12,13] ?_
     repeat
      refine Xe (v:=?_) hHeld (fun u hSu=>?_) ?_
      rotate_left
      ·((try dsimp only at hSu);go_simp) <;> with_reducible rfl
      try simp only [PS]
     refine Xc ?_
     refine Up [14,15,16,17,18,19,20,21,22,23,24,25,26,27,28,29,30,31,32,33,34,35,36,37,38,39,40,41,42] ?_
     repeat
      refine Uz hHeld ?_
      try simp only [PS]
     refine Uv ?_
     refine Xd [43,44] ?_
     repeat
      refine Xe (v:=?_) hHeld (fun u hSu=>?_) ?_
      rotate_left
      ·((try dsimp only at hSu);go_simp) <;> with_reducible rfl
      try simp only [PS]
     refine Xc ?_
     refine wpAnyH_done (by kernel_rfl) ?_ _
     all_goals go_wp2_with fail
     all_goals go_roundw
     case rel =>
      refine ⟨k+1,by omega,by go_num,?_,Za (Zb.trans (un HKr) (Zb.trans (Zb.drew (Zb.refl _)) hkA))⟩
      intro i hi
      by_cases e:i=k
      ·subst e;exact un HAT
      ·exact (un HA) i (by omega)
     case measure=>simp [intOf];omega
    ·have hxf:Xb p x=false:=by simpa using hfx
     have hff:=un HFF
     rw [hxf] at hff
     have HFF:=Za hff
     have hrf:r=false:=(un HRF) (by rw [un HATB,hxf];rfl)
     subst hrf
     clear hff hfx hxf
     go_wp2_with fail
     refine wp_region_held_drew (S:=(fun u=>u.cell? ⟨w.heap.size,0,none⟩=some (.slice (some ⟨bf,off,none⟩) n cf)∧u.cell? ⟨bf,off+k*4,none⟩=some (.int .i64 x.fn)∧u.cell? ⟨bf,off+k*4+1,none⟩=some (.int .i64 x.at_)∧u.cell? ⟨bf,off+k*4+2,none⟩=some vl∧u.cell? ⟨bf,off+k*4+3,none⟩=some vs)) (by kernel_rfl) ((un HY) _ (Zb.drew (Zb.refl _))) (fun hHeld=>?_)
     refine Xd [0,1,2,3,4,5] ?_
     repeat
      refine Xe (v:=?_) hHeld (fun u hSu=>?_) ?_
      rotate_left
      ·((try dsimp only at hSu);go_simp) <;> with_reducible rfl
      try simp only [PS]
     refine Xc ?_
     refine Xw (i:=6) rfl (by kernel_rfl) (fun K hK=>?_)
     go_simp
     refine ((un HFF) _ (Zb.drew (Zb.refl _))).mono ?_
     rintro e wA ⟨rfl,hkA⟩
     refine hK.out _ _ ((un HY) _ (Zb.trans (Zb.drew (Zb.refl _)) hkA)) (fun hHeld=>?_)
     clear hK K
     try simp only [PS]
     refine Xd [7,8] ?_
     repeat
      refine Xe (v:=?_) hHeld (fun u hSu=>?_) ?_
      rotate_left
      ·((try dsimp only at hSu);go_simp) <;> with_reducible rfl
      try simp only [PS]
     refine Xc ?_
     refine Up [9,10,11,12,13,14,15,16,17,18,19,20,21,22,23,24,25,26,27,28,29,30,31,32,33,34,35,36,37,38,39,40,41,42,43] ?_
     repeat
      refine Uz hHeld ?_
      try simp only [PS]
     refine Uv ?_
     refine Xd [44] ?_
     repeat
      refine Xe (v:=?_) hHeld (fun u hSu=>?_) ?_
      rotate_left
      ·((try dsimp only at hSu);go_simp) <;> with_reducible rfl
      try simp only [PS]
     refine Xc ?_
     refine wpAnyH_done (by kernel_rfl) ?_ _
     all_goals go_wp2_with fail
     all_goals go_ret
     all_goals exact ⟨rfl,Zb.trans (un HKW) (Zb.trans (Zb.drew (Zb.refl _)) hkA)⟩
  ·obtain ⟨m,hm⟩:∃ m,n=m+1:=⟨n - 1,by omega⟩
   obtain ⟨vl,vs,c0,c1,c2,c3,hvl,hvs⟩:=(un HCL) m (by omega)
   have hkw:=(un HK0).trans (un HKr)
   have hall:∀ i,i<b.frames.length→atB p b.frames i=true:=fun i hi=>(un HA) i (by rw [un HN] at hi;omega)
   have hfrb:∀ i,i<b.frames.length→Xb p (b.frames.getD i Fr.zero)=true:=fun i hi=>by
    have:=hall i hi
    unfold atB at this
    rw [Bool.and_eq_true] at this
    exact this.1
   have hFB:Ua p b.frames=true:=(Zhk p b.frames).2 hall
   have hml:m<b.frames.length:=by rw [un HN];omega
   have hlast:b.frames.getLast?=some (b.frames.getD m Fr.zero):=by
    rw [List.getLast?_eq_getElem?,show b.frames.length - 1=m by rw [un HN];omega]
    exact Zq b.frames m Fr.zero hml
   have hin:Yg p (b.frames.getD m Fr.zero):=Yg.of (hfrb m hml)
   have hrr:=un HR
   unfold Jd at hrr
   simp only [hlast,hFB,Bool.true_and] at hrr
   have hfv:FrV wr (.agg #[.int .i64 (b.frames.getD m Fr.zero).fn,.int .i64 (b.frames.getD m Fr.zero).at_,vl,vs]) (b.frames.getD m Fr.zero):=⟨vl,vs,rfl,hvl.kept hkw,hvs.kept hkw⟩
   have HWT:Hid (∀ kd u,Zb wr u→Calls Tryd.prog 36 #[.slice oa p.length cap,.agg #[.int .i64 (b.frames.getD m Fr.zero).fn,.int .i64 (b.frames.getD m Fr.zero).at_,vl,vs],.int .i64 kd,.int .i64 0] u fun e w'=>e=.returned (.bool (Jk p (b.frames.getD m Fr.zero) kd 0))∧Zb u w') :=
    Za (fun kd u hu=>Zlm p _ _ _ _ _ u ((un HP).kept (hkw.trans hu)) (hfv.kept hu) ((un HH).kept (hkw.trans hu)) (un HLn) hin (un HBD))
   have HFS:Hid (∀ u,Zb wr u→Calls Tryd.prog 37 #[.slice oa p.length cap,.agg #[.slice (some ⟨bf,off,none⟩) n cf,.int .i64 b.caller]] u fun e w'=>e=.returned (.bool (Jy p b))∧Zb u w') :=
    Za (fun u hu=>Zpw p _ _ _ u ((un HP).kept (hkw.trans hu)) ⟨_,rfl,(un HF).kept (hkw.trans hu)⟩ (fun y hy=>by
     obtain ⟨i,hi⟩:=List.getElem?_of_mem hy
     have hil:=(List.getElem?_eq_some_iff.1 hi).1
     have hd:b.frames.getD i Fr.zero=y:=by rw [List.getD_eq_getElem?_getD,hi];rfl
     have:=Yg.of (hfrb i hil)
     rw [hd] at this
     exact ⟨this.1,this.2⟩))
   have HHT:Hid (∀ (i:Nat) u,i<p.length→Zb wr u→Calls Tryd.prog 23 #[.slice oa p.length cap,.int .i64 i] u fun e u'=>∃ v,e=.returned (.tuple #[v,.bool true])∧Qo u' v (hgt p i)∧Zb u u') :=
    Za (fun i u hi hu=>(un HH) i u hi (hkw.trans hu))
   have d0:=hkw.cell c0
   have d1:=hkw.cell c1
   have d2:=hkw.cell c2
   have d3:=hkw.cell c3
   have dx:=(un HKr).cell (un X0)
   have dx1:=(un HKr).cell (un X1)
   have hk1:¬ ((k:Int)<(n:Int)):=by omega
   have gx0:∀ o,(wr.alloc o).cell? ⟨w.heap.size,0,none⟩=some (.slice (some ⟨bf,off,none⟩) n cf):=fun o=>((Zb.refl wr).alloc o).cell dx
   have gx1:∀ o,(wr.alloc o).cell? ⟨w.heap.size,1,none⟩=some (.int .i64 b.caller):=fun o=>((Zb.refl wr).alloc o).cell dx1
   have hm1:(m:Int)<(n:Int):=by omega
   have hm0:(0:Int)≤(m:Int):=by omega
   have hwm:IntKind.i64.wrap ((n:Int) - 1)=(m:Int):=by rw [Wa _ (by omega) (by omega)];omega
   obtain ⟨ol,cl,rfl,_,_⟩:=id hvl
   obtain ⟨os,cs,rfl,_,_⟩:=id hvs
   have hlen:=un HLn
   have HKW:=Za hkw
   generalize b.frames.getD m Fr.zero=x at *
   clear c0 c1 c2 c3 hvl hvs hfv hall hfrb hFB hml hlast HR hkw HP HH HA HCL HF HN HBD HLn hm
   obtain ⟨f0,f1,a0,a1⟩:=hin
   obtain ⟨i,hi⟩:∃ i:Nat,x.fn=i:=⟨x.fn.toNat,by omega⟩
   obtain ⟨at_,ha⟩:∃ a:Nat,x.at_=a:=⟨x.at_.toNat,by omega⟩
   have hHA:hAt p x=(hgt p i).getD at_ 0:=by unfold hAt;rw [hi,ha,Int.toNat_natCast,Int.toNat_natCast]
   have hgl:=hlen i (by omega)
   rw [hi,Int.toNat_natCast] at a1
   rw [ha] at a1
   rw [hi] at d0
   rw [ha] at d1
   rw [hi,ha] at HWT
   have HRR:=Za hrr
   clear hrr
   cases runs with
   | true =>
    have h2:decide ((x.stack.length:Int)=(hgt p i).getD at_ 0)=r:=by simpa [hHA] using un HRR
    have H2:=Za h2
    clear h2
    go_wp2_with fail
    refine ((un HHT) i _ (by omega) ((Zb.refl wr).alloc _)).mono ?_
    rintro e w1 ⟨v,rfl,hv,hk1'⟩
    obtain ⟨oh,ch,rfl,_,hcell⟩:=hv
    have hal:at_<(hgt p i).length:=by rw [hgl];omega
    obtain ⟨bh,o2,rfl,e0⟩:=hcell at_ _ (Zq (hgt p i) at_ 0 hal)
    have y1:=hk1'.cell (show (wr.alloc (.cells #[.int .i64 i,.int .i64 at_,.slice ol x.locals.length cl,.slice os x.stack.length cs] 53)).cell? ⟨wr.heap.size,1,none⟩=some (.int .i64 at_) by simp)
    have y3:=hk1'.cell (show (wr.alloc (.cells #[.int .i64 i,.int .i64 at_,.slice ol x.locals.length cl,.slice os x.stack.length cs] 53)).cell? ⟨wr.heap.size,3,none⟩=some (.slice os x.stack.length cs) by simp)
    have HK1:=Za (((Zb.refl wr).alloc _).trans hk1')
    have ha1:(at_:Int)<((hgt p i).length:Int):=by omega
    have ha0:(0:Int)≤(at_:Int):=by omega
    clear hcell hk1' hgl hal HWT HFS HHT HRR hHA
    generalize (hgt p i).length=q at *
    generalize (hgt p i).getD at_ 0=z at *
    go_wp2
    go_quiet (fail)
    go_wp2
    go_ret
    refine ⟨?_,(un HKW).trans ((un HK1).drewN _)⟩
    rw [← un H2]
    first | rfl | (simp;done) | (simp;rfl)
   | false =>
    cases on with
    | true =>
     have H2:Hid (Jk p x 14 0=r):=Za (by simpa using un HRR)
     go_wp2_with fail
     refine ((un HWT) 14 _ ((Zb.refl wr).alloc _)).mono ?_
     rintro e w1 ⟨rfl,hk1'⟩
     go_wp2
     go_ret
     exact ⟨by rw [un H2];rfl,(un HKW).trans (((Zb.refl wr).alloc _).trans hk1')⟩
    | false =>
     by_cases hcc:b.caller=-1
     ·have hcb:(b.caller == -1)=true:=by rw [beq_iff_eq];exact hcc
      cases hfb:Jy p b with
      | true =>
       have hrt:r=true:=by have:=un HRR;simp [hcc,hfb] at this;exact this
       subst hrt
       rw [hcc,hfb] at HFS
       go_wp2_with fail
       refine ((un HFS) _ ((Zb.refl wr).alloc _)).mono ?_
       rintro e w1 ⟨rfl,hk1'⟩
       have HK1:=Za (((Zb.refl wr).alloc _).trans hk1')
       clear hk1'
       go_wp2
       go_ret
       exact ⟨rfl,(un HKW).trans (un HK1)⟩
      | false =>
       have H2:Hid (Jk p x 15 0=r):=Za (by have:=un HRR;simp [hcc,hfb] at this;exact this)
       rw [hcc,hfb] at HFS
       go_wp2_with fail
       refine ((un HFS) _ ((Zb.refl wr).alloc _)).mono ?_
       rintro e w1 ⟨rfl,hk1'⟩
       have y0:=hk1'.cell (show (wr.alloc (.cells #[.int .i64 i,.int .i64 at_,.slice ol x.locals.length cl,.slice os x.stack.length cs] 53)).cell? ⟨wr.heap.size,0,none⟩=some (.int .i64 i) by simp)
       have y1:=hk1'.cell (show (wr.alloc (.cells #[.int .i64 i,.int .i64 at_,.slice ol x.locals.length cl,.slice os x.stack.length cs] 53)).cell? ⟨wr.heap.size,1,none⟩=some (.int .i64 at_) by simp)
       have y2:=hk1'.cell (show (wr.alloc (.cells #[.int .i64 i,.int .i64 at_,.slice ol x.locals.length cl,.slice os x.stack.length cs] 53)).cell? ⟨wr.heap.size,2,none⟩=some (.slice ol x.locals.length cl) by simp)
       have y3:=hk1'.cell (show (wr.alloc (.cells #[.int .i64 i,.int .i64 at_,.slice ol x.locals.length cl,.slice os x.stack.length cs] 53)).cell? ⟨wr.heap.size,3,none⟩=some (.slice os x.stack.length cs) by simp)
       have HK1:=Za (((Zb.refl wr).alloc _).trans hk1')
       clear hk1'
       go_wp2_with fail
       refine ((un HWT) 15 _ (un HK1)).mono ?_
       rintro e w2 ⟨rfl,hk2⟩
       go_wp2
       go_ret
       exact ⟨by rw [un H2];rfl,(un HKW).trans ((un HK1).trans hk2)⟩
     ·have hcb:(b.caller == -1)=false:=by rw [beq_eq_false_iff_ne];exact hcc
      have hrf:r=false:=by have:=un HRR;simp [hcc] at this;exact this
      subst hrf
      go_wp2_with fail
      go_ret
      exact ⟨rfl,(un HKW).trans ((Zb.refl wr).alloc _)⟩
theorem Zoc (p:List Fn) (vp v:Value) (b:Fb) (on runs:Bool) (w:World) (hp:Zw w vp p) (hh:Zah w vp p) (hl:Um p) (hbd:Zco p) (hx:FbV w v b) (hfl:b.frames.length≤1000) :
  Calls Tryd.prog 17 #[vp,v,.bool on,.bool runs] w fun e w'=>e=.returned (.bool (Jd p b on runs))∧Zb w w':=by
 obtain ⟨vf,rfl,hf⟩:=hx
 obtain ⟨of,cf,rfl,_,hc⟩:=id hf
 by_cases h0:b.frames.length=0
 ·rw [h0]
  refine (Zss vp of cf b.caller on runs w).mono ?_
  rintro e w' ⟨rfl,hk⟩
  refine ⟨?_,hk⟩
  unfold Jd
  rw [List.length_eq_zero_iff.1 h0]
  first | rfl | (simp;done)
 ·obtain ⟨bf,off,_,_,rfl,-⟩:=hc 0 _ (Zq b.frames 0 Fr.zero (by omega))
  exact Zqz p vp b bf off cf on runs w hp hh hl hbd (by omega) hf hfl
end Go.Proofs.YtblihfpigjiahaaDoor
