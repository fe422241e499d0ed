/-
  The statement StepSure: its walk, of the contracts of what it calls.
-/
import Derived.Test.YtadckjclgakcaaaGreatDoorSBG
import Derived.Test.YtadckjclgakcaaaGreatDoorTakesQ
import Derived.Test.YtadckjclgakcaaaGreatDoorXB17
import Derived.Deep.DeepCutAuto
import Derived.Deep.RegionHeld3
set_option maxRecDepth 100000
set_option maxHeartbeats 8000000
namespace Go.Proofs.YtadckjclgakcaaaGreatDoor
open Go.RowKit

theorem stepSure_off (vp:Value) (w:World) (er:Int) (oa oo:Option Addr) (N M cap co:Nat) (nn:Int) (h:er≠0∨nn < 0)
    (HC1:Hid (∀ u,Kept w u→Calls Tryz.prog 13 #[vp,.agg #[.slice oa N cap,.int .i64 nn,.slice oo M co]] u fun e w'=>e=.returned (.int .i64 er)∧Kept u w'))
    (HRB:Hid (∀ u,Kept w u→Calls Tryz.prog 11 #[] u fun e w'=>e=.returned (.bool true)∧Kept u w')) :
    Calls Tryz.prog 6 #[vp,.agg #[.slice oa N cap,.int .i64 nn,.slice oo M co]] w fun e w'=>e=.returned (.bool true)∧Kept w w':=by
  by_cases he:er=0
  · have hn:nn < 0:=h.resolve_left (fun h=>h he)
    subst he
    go_enter Tryz.func6,Tryz.ntmps6
    go_wp2_with fail
    refine ((un HC1) _ ((Kept.refl w).alloc _)).mono ?_
    rintro _ w2 ⟨rfl,hk⟩
    have a1:=cell_lays (lays_kept hk (lays_new (w:=w) (o:=.cells #[.slice oa N cap,.int .i64 nn,.slice oo M co] 26) rfl)) 1
    have HK:=hide (((Kept.refl w).alloc _).trans hk)
    clear hk
    go_wp2_with fail
    refine ((un HRB) _ (un HK)).mono ?_
    rintro _ w3 ⟨rfl,hk⟩
    replace HK:=hide ((un HK).trans hk)
    clear hk a1
    go_wp2
    go_ret
    exact ⟨rfl,un HK⟩
  · have he':(er != 0)=true:=by rw [bne_iff_ne]; exact he
    go_enter Tryz.func6,Tryz.ntmps6
    go_wp2_with fail
    refine ((un HC1) _ ((Kept.refl w).alloc _)).mono ?_
    rintro _ w2 ⟨rfl,hk⟩
    have HK:=hide (((Kept.refl w).alloc _).trans hk)
    clear hk
    go_wp2_with fail
    refine ((un HRB) _ (un HK)).mono ?_
    rintro _ w3 ⟨rfl,hk⟩
    replace HK:=hide ((un HK).trans hk)
    clear hk
    go_wp2
    go_ret
    exact ⟨rfl,un HK⟩

theorem stepSure_go (p:List Fn) (oq:Option Addr) (lp cp:Nat) (w:World) (s r:St) (i q f k:Nat) (fs:List Fr) (t t':Fr) (c:Int) (g:Fn) (kd a ta lb:Int) (j:Nat) (oa oo:Option Addr) (N M cap co:Nat) (se:Int)
    (HP:Hid (ProgAt w (.slice oq lp cp) p))
    (HS:Hid (StAt w (.agg #[.slice oa N cap,.int .i64 (i:Int),.slice oo M co]) s))
    (HC1:Hid (∀ u,Kept w u→Calls Tryz.prog 13 #[.slice oq lp cp,.agg #[.slice oa N cap,.int .i64 (i:Int),.slice oo M co]] u fun e w'=>e=.returned (.int .i64 0)∧Kept u w'))
    (HD:Hid (∀ u,Kept w u→GivesSt 9 #[.slice oq lp cp,.agg #[.slice oa N cap,.int .i64 (i:Int),.slice oo M co]] u r [.int .i64 se]))
    (HEF:Hid (∀ u,Kept w u→Calls Tryz.prog 15 #[.slice oq lp cp,.agg #[.int .i64 kd,.int .i64 a]] u fun e w'=>e=.returned (.tuple #[.int .i64 ta,.int .i64 lb,.int .i64 0])∧Kept u w'))
    (HNX:Hid (kd≤10→∀ u,Calls Tryz.prog 16 #[.agg #[.int .i64 kd,.int .i64 a],.int .i64 (k:Int)] u fun e w'=>∃ oa n cap,e=.returned (.slice oa n cap)∧n≤2∧(∃ z,z < n∧(∀ y,Kept w' y→∃ b o,oa=some ⟨b,o,none⟩∧y.cell? ⟨b,o + z,none⟩=some (.int .i64 (j:Int))))∧(∀ z,z < n→∃ b o v,oa=some ⟨b,o,none⟩∧w'.cell? ⟨b,o + z,none⟩=some (.int .i64 v))∧Kept u w'))
    (HRB:Hid (∀ u,Kept w u→Calls Tryz.prog 11 #[] u fun e w'=>e=.returned (.bool true)∧Kept u w'))
    (hi:i < s.fibers.length) (h5:s.fibers.length≤5) (hsi:fibAt s i=⟨fs++[t],c⟩) (hq:fs.length=q) (hq6:q≤6) (hf:t.fn=f) (hk:t.at_=k) (hg:p[f]?=some g) (hc:g.code[k]?=some (kd,a)) (hst:t.stack.length≤100)
    (hgood:kd≤10→se=0∧r.now=s.now∧r.fibers.length=s.fibers.length∧r.out.length=s.out.length∧fibAt r i=⟨fs++[t'],c⟩∧t'.fn=f∧t'.at_=j∧(t'.stack.length:Int)=t.stack.length - ta + lb∧0≤ta∧ta≤t.stack.length∧0≤lb∧lb≤1) :
    Calls Tryz.prog 6 #[.slice oq lp cp,.agg #[.slice oa N cap,.int .i64 (i:Int),.slice oo M co]] w fun e w'=>e=.returned (.bool true)∧Kept w w':=by
  have HG:=hide hgood
  have HPs:=hide (stAt_parts (un HS))
  obtain ⟨bs,os,of,cf,rfl,x0,x1,hfr⟩:=stAt_fib (un HS) hi
  rw [hsi] at x0 hfr
  obtain ⟨bf,off,ol,nl,cl,ot,nt,ct,rfl,p0,p1,p2,p3,-,-,-,ent⟩:=framesAt_fr hfr (j:=q) (by rw [← hq]; simp)
  have hget:(fs++[t]).getD q Fr.zero=t:=by rw [← hq]; simp
  have hget':(⟨fs++[t],c⟩:Fb).frames.getD q Fr.zero=t:=hget
  rw [hget',hf] at p0
  rw [hget',hk] at p1
  rw [hget'] at ent
  rw [show (⟨fs++[t],c⟩:Fb).frames.length=q + 1 by simp [hq]] at x0
  obtain ⟨oq',cp',e,_,hpc⟩:=id (un HP)
  cases e
  obtain ⟨bp,op,cv,rfl,_,_,r2,hcode⟩:=hpc f g hg
  obtain ⟨oc,cc,rfl,_,hcc⟩:=hcode
  obtain ⟨bc,oc',rfl,s0,s1⟩:=hcc k _ hc
  have hfl:f < p.length:=(List.getElem?_eq_some_iff.1 hg).1
  have hkl:k < g.code.length:=(List.getElem?_eq_some_iff.1 hc).1
  have hN:i < N∧N≤5:=by have:=un HPs; omega
  generalize hlp:p.length=lp at *
  generalize hlc:g.code.length=lc at *
  have HX:Hid (∀ y,Kept w y→(y.cell? ⟨bs,os + i * 2,none⟩=some (.slice (some ⟨bf,off,none⟩) (q + 1) cf)∧y.cell? ⟨bf,off + q * 4,none⟩=some (.int .i64 (f:Int))∧y.cell? ⟨bf,off + q * 4 + 1,none⟩=some (.int .i64 (k:Int))∧y.cell? ⟨bf,off + q * 4 + 2,none⟩=some (.slice ol nl cl)∧y.cell? ⟨bf,off + q * 4 + 3,none⟩=some (.slice ot nt ct)) ∧
    y.cell? ⟨bp,op + f * 3 + 2,none⟩=some (.slice (some ⟨bc,oc',none⟩) lc cc)∧y.cell? ⟨bc,oc' + k * 2,none⟩=some (.int .i64 kd)∧y.cell? ⟨bc,oc' + k * 2 + 1,none⟩=some (.int .i64 a)) :=
    hide (fun y h=>⟨⟨h.cell x0,h.cell p0,h.cell p1,h.cell p2,h.cell p3⟩,h.cell r2,h.cell s0,h.cell s1⟩)
  have HNT:=hide (And.intro ent hst)
  have HII:=hide (And.intro hi (And.intro h5 hq))
  clear x0 x1 hfr p0 p1 p2 p3 ent hget hget' hpc hcc r2 s0 s1 hg hc hlp hlc hsi hf hk hq hgood hst hi h5
  have g1:(i:Int) < (N:Int):=by omega
  have g2:¬ ((i:Int) < 0):=by omega
  have g3:¬ ((i:Int) ≥ (N:Int)):=by omega
  have g4:(0:Int)≤(i:Int):=by omega
  have g5:(((q + 1:Nat):Int) == 0)=false:=by rw [beq_eq_false_iff_ne]; omega
  have g6:((q:Int) + 1 == 0)=false:=by rw [beq_eq_false_iff_ne]; omega
  have g7:decide ((i:Int) < 0)=false:=decide_eq_false g2
  have g8:decide (N≤i)=false:=decide_eq_false (by omega)
  have hm1:(q:Int) < ((q + 1:Nat):Int):=by omega
  have hm2:(q:Int) < (q:Int) + 1:=by omega
  have hm0:(0:Int)≤(q:Int):=by omega
  have hwm:IntKind.i64.wrap (((q + 1:Nat):Int) - 1)=(q:Int):=by rw [wrap_tiny _ (by omega) (by omega)]; omega
  have hwm2:IntKind.i64.wrap ((q:Int) + 1 - 1)=(q:Int):=by rw [wrap_tiny _ (by omega) (by omega)]; omega
  have hwq:IntKind.i64.wrap (q:Int)=(q:Int):=wrap_tiny _ (by omega) (by omega)
  go_enter Tryz.func6,Tryz.ntmps6
  go_wp2_with fail
  obtain ⟨k9,l9⟩:=box_st (Kept.refl w) #[.slice (some ⟨bs,os,none⟩) N cap,.int .i64 (i:Int),.slice oo M co] 26
  generalize w.alloc (.cells #[.slice (some ⟨bs,os,none⟩) N cap,.int .i64 (i:Int),.slice oo M co] 26)=w1 at *
  generalize w.heap.size=B0 at *
  have HL:=hide l9
  have HK:=hide k9
  clear k9 l9
  refine ((un HC1) _ (un HK)).mono ?_
  rintro _ w2 ⟨rfl,hkk⟩
  replace HK:=hide ((un HK).trans hkk)
  replace HL:=hide (lays_kept hkk (un HL))
  clear hkk HC1
  have a0:=cell_lays (un HL) 0
  have a1:=cell_lays (un HL) 1
  obtain ⟨⟨x0,p0,p1,p2,p3⟩,r2,s0,s1⟩:=(un HX) _ (un HK)
  go_wp2_with fail
  obtain ⟨k9,l9⟩:=box_st (Kept.refl w2) #[.int .i64 (f:Int),.int .i64 (k:Int),.slice ol nl cl,.slice ot nt ct] 39
  generalize w2.alloc (.cells #[.int .i64 (f:Int),.int .i64 (k:Int),.slice ol nl cl,.slice ot nt ct] 39)=x2 at *
  generalize w2.heap.size=B2 at *
  replace HK:=hide ((un HK).trans k9)
  replace HL:=hide (lays_kept k9 (un HL))
  have HT:=hide l9
  clear k9 l9 a0 a1 x0 p0 p1 p2 p3 r2 s0 s1 g1 g2 g3 g5 g6 g7 g8 hm1 hm2 hwm hwm2
  obtain ⟨_,r2,s0,s1⟩:=(un HX) _ (un HK)
  have t0:=cell_lays (un HT) 0
  have t1:=cell_lays (un HT) 1
  have g1:¬ ((f:Int) < 0):=by omega
  have g2:¬ ((f:Int) ≥ (lp:Int)):=by omega
  have g3:¬ ((k:Int) < 0):=by omega
  have g5:¬ ((k:Int) ≥ (lc:Int)):=by omega
  have v1:decide ((f:Int) < 0)=false:=decide_eq_false g1
  have v2:decide (lp≤f)=false:=decide_eq_false (by omega)
  have v3:decide ((k:Int) < 0)=false:=decide_eq_false g3
  have v4:decide (lc≤k)=false:=decide_eq_false (by omega)
  have v5:decide ((f:Int) ≥ (lp:Int))=false:=decide_eq_false g2
  have v6:decide ((k:Int) ≥ (lc:Int))=false:=decide_eq_false g5
  have v7:decide ((lp:Int)≤(f:Int))=false:=decide_eq_false (by omega)
  have v8:decide ((lc:Int)≤(k:Int))=false:=decide_eq_false (by omega)
  have g6:(f:Int) < (lp:Int):=by omega
  have g7:(k:Int) < (lc:Int):=by omega
  have g8:(0:Int)≤(f:Int):=by omega
  have g9:(0:Int)≤(k:Int):=by omega
  go_quiet (fail)
  go_wp2_with fail
  generalize hxd:x2.drewN _=xd
  have hkx:Kept x2 xd:=by rw [← hxd]; exact (Kept.refl x2).drewN _
  replace HK:=hide ((un HK).trans hkx)
  replace HL:=hide (lays_kept hkx (un HL))
  replace HT:=hide (lays_kept hkx (un HT))
  clear hxd hkx r2 s0 s1 t0 t1 v1 v2 v3 v4 v5 v6 v7 v8 g1 g2 g3 g5
  have HY:Hid (∀ y,Kept xd y→y.cell? ⟨B2,0,none⟩=some (.int .i64 (f:Int))∧y.cell? ⟨B2,1,none⟩=some (.int .i64 (k:Int))∧y.cell? ⟨bp,op + f * 3 + 2,none⟩=some (.slice (some ⟨bc,oc',none⟩) lc cc)∧y.cell? ⟨bc,oc' + k * 2,none⟩=some (.int .i64 kd)∧y.cell? ⟨bc,oc' + k * 2 + 1,none⟩=some (.int .i64 a)) :=
    hide (fun y hy=>have h:=(un HX) y ((un HK).trans hy); ⟨hy.cell (cell_lays (un HT) 0),hy.cell (cell_lays (un HT) 1),h.2.1,h.2.2.1,h.2.2.2⟩)
  go_cut [7] from 86 to 212 (fun s7 wx=>∃ b7,s7=.pointer (some ⟨b7,0,none⟩)∧Hid (wx.heap[b7]?=some (.cells #[.int .i64 kd,.int .i64 a] 44)∧Kept xd wx))
  case first =>
    go_region_held3 (fun y=>y.cell? ⟨B2,0,none⟩=some (.int .i64 (f:Int))∧y.cell? ⟨B2,1,none⟩=some (.int .i64 (k:Int))∧y.cell? ⟨bp,op + f * 3 + 2,none⟩=some (.slice (some ⟨bc,oc',none⟩) lc cc)∧y.cell? ⟨bc,oc' + k * 2,none⟩=some (.int .i64 kd)∧y.cell? ⟨bc,oc' + k * 2 + 1,none⟩=some (.int .i64 a))
      (exact (un HY) _ (by repeat (first | exact Kept.refl _ | refine Kept.drew ?_ | refine Kept.alloc ?_ _ | refine Kept.setCell ?_ (by simp) _))) (fail)
    all_goals go_wp2_with fail
    all_goals go_meet
    all_goals exact ⟨_,rfl,hide ⟨lays_new (by simp),((Kept.refl xd).alloc _).drew⟩⟩
  case rest =>
    obtain ⟨b7,rfl,HC⟩:=hcut
    obtain ⟨l7,hkd⟩:=un HC
    replace HK:=hide ((un HK).trans hkd)
    replace HL:=hide (lays_kept hkd (un HL))
    replace HT:=hide (lays_kept hkd (un HT))
    have HO:=hide l7
    clear HC l7 hkd HY
    have c0:=cell_lays (un HO) 0
    by_cases h10:kd≤10
    · have u1:¬ (kd > 10):=by omega
      obtain ⟨e1,e2,e3,e4,e5,e6,e7,e8,e9,e10,e11,e12⟩:=(un HG) h10
      replace HNX:=hide ((un HNX) h10)
      subst e1
      have a0:=cell_lays (un HL) 0
      have a1:=cell_lays (un HL) 1
      have a2:=cell_lays (un HL) 2
      go_wp2_with fail
      refine ((un HD) _ (un HK)).mono ?_
      rintro _ wa ⟨ob,na,ca,za,oz,ma,da,rfl,hs,hkk⟩
      replace HK:=hide ((un HK).trans hkk)
      replace HL:=hide (lays_kept hkk (un HL))
      replace HT:=hide (lays_kept hkk (un HT))
      replace HO:=hide (lays_kept hkk (un HO))
      obtain ⟨f1,f2,f3⟩:=stAt_parts hs
      obtain ⟨d1,d2,d3⟩:=un HPs
      obtain rfl:za=(i:Int):=by rw [f1,e2,← d1]
      obtain rfl:N=na:=by rw [f2,e3,← d2]
      obtain rfl:M=ma:=by rw [f3,e4,← d3]
      obtain ⟨br,or,og,cg,rfl,y0,_,hfr⟩:=stAt_fib hs (i:=i) (by rw [e3]; exact (un HII).1)
      rw [e5] at y0 hfr
      have hlen:(⟨fs++[t'],c⟩:Fb).frames.length=q + 1:=by
        have:=(un HII).2.2
        simp [this]
      rw [hlen] at y0
      obtain ⟨bg,off2,ol2,nl2,cl2,ot2,nt2,ct2,rfl,p0,p1,p2,p3,-,-,-,ent2⟩:=framesAt_fr hfr (j:=q) (by rw [hlen]; omega)
      have hget:(⟨fs++[t'],c⟩:Fb).frames.getD q Fr.zero=t':=by
        have:=(un HII).2.2
        simp [← this]
      rw [hget,e6] at p0
      rw [hget,e7] at p1
      rw [hget] at ent2
      have HZ:Hid (∀ y,Kept wa y→y.cell? ⟨br,or + i * 2,none⟩=some (.slice (some ⟨bg,off2,none⟩) (q + 1) cg)∧y.cell? ⟨bg,off2 + q * 4,none⟩=some (.int .i64 (f:Int))∧y.cell? ⟨bg,off2 + q * 4 + 1,none⟩=some (.int .i64 (j:Int))∧y.cell? ⟨bg,off2 + q * 4 + 2,none⟩=some (.slice ol2 nl2 cl2)∧y.cell? ⟨bg,off2 + q * 4 + 3,none⟩=some (.slice ot2 nt2 ct2)) :=
        hide (fun y h=>⟨h.cell y0,h.cell p0,h.cell p1,h.cell p2,h.cell p3⟩)
      have hnt:(nt2:Int)=(nt:Int) - ta + lb:=by rw [ent2,e8,(un HNT).1]
      have hntb:nt≤100∧ta≤nt:=⟨by rw [(un HNT).1]; exact (un HNT).2,by rw [(un HNT).1]; exact e10⟩
      have HE:=hide (And.intro hnt (And.intro hntb (And.intro e9 (And.intro e11 e12))))
      clear hs hkk HD f1 f2 f3 d1 d2 d3 e2 e3 e4 e5 e6 e7 e8 e9 e10 e11 e12 y0 p0 p1 p2 p3 ent2 hfr hlen hget hnt hntb a0 a1 a2 c0
      have c0:=cell_new (un HO) 0
      have c1:=cell_new (un HO) 1
      go_wp2_with fail
      obtain ⟨k9,l9⟩:=box_st (Kept.refl wa) #[.slice (some ⟨br,or,none⟩) N ca,.int .i64 (i:Int),.slice oz M da] 26
      generalize wa.alloc (.cells #[.slice (some ⟨br,or,none⟩) N ca,.int .i64 (i:Int),.slice oz M da] 26)=x5 at *
      generalize wa.heap.size=B5 at *
      replace HK:=hide ((un HK).trans k9)
      replace HL:=hide (lays_kept k9 (un HL))
      replace HT:=hide (lays_kept k9 (un HT))
      replace HO:=hide (lays_kept k9 (un HO))
      have HR:=hide l9
      have HKA:=hide k9
      clear k9 l9 c0 c1
      refine ((un HEF) _ (un HK)).mono ?_
      rintro _ wb ⟨rfl,hkk⟩
      replace HK:=hide ((un HK).trans hkk)
      replace HL:=hide (lays_kept hkk (un HL))
      replace HT:=hide (lays_kept hkk (un HT))
      replace HO:=hide (lays_kept hkk (un HO))
      replace HR:=hide (lays_kept hkk (un HR))
      replace HKA:=hide ((un HKA).trans hkk)
      clear hkk HEF
      have a0:=cell_lays (un HL) 0
      have a1:=cell_lays (un HL) 1
      have a2:=cell_lays (un HL) 2
      have b0:=cell_lays (un HR) 0
      have b1:=cell_lays (un HR) 1
      have b2:=cell_lays (un HR) 2
      obtain ⟨y0,p0,p1,p2,p3⟩:=(un HZ) _ (un HKA)
      have c0:=cell_new (un HO) 0
      have c1:=cell_new (un HO) 1
      have t1:=cell_new (un HT) 1
      have g1:(i:Int) < (N:Int):=by omega
      have w1:((i:Int) != (i:Int))=false:=by simp
      have w2':((N:Int) != (N:Int))=false:=by simp
      have w3:((M:Int) != (M:Int))=false:=by simp
      have w4:(((q + 1:Nat):Int) != ((q + 1:Nat):Int))=false:=by simp
      have w5:((q:Int) + 1 != (q:Int) + 1)=false:=by simp
      have hm1:(q:Int) < ((q + 1:Nat):Int):=by omega
      have hm2:(q:Int) < (q:Int) + 1:=by omega
      have hwm:IntKind.i64.wrap (((q + 1:Nat):Int) - 1)=(q:Int):=by rw [wrap_tiny _ (by omega) (by omega)]; omega
      have hwm2:IntKind.i64.wrap ((q:Int) + 1 - 1)=(q:Int):=by rw [wrap_tiny _ (by omega) (by omega)]; omega
      go_wp2_with fail
      obtain ⟨k9,l9⟩:=box_st (Kept.refl wb) #[.int .i64 (f:Int),.int .i64 (j:Int),.slice ol2 nl2 cl2,.slice ot2 nt2 ct2] 39
      generalize wb.alloc (.cells #[.int .i64 (f:Int),.int .i64 (j:Int),.slice ol2 nl2 cl2,.slice ot2 nt2 ct2] 39)=x6 at *
      generalize wb.heap.size=B6 at *
      replace HK:=hide ((un HK).trans k9)
      replace HT:=hide (lays_kept k9 (un HT))
      have HW:=hide l9
      clear k9 l9 a0 a1 a2 b0 b1 b2 c0 c1 t1 y0 p0 p1 p2 p3 w1 w2' w3 w4 w5 hm1 hm2 hwm hwm2 HL HO HR HKA
      refine ((un HNX) _).mono ?_
      rintro _ wd ⟨ow,n,cw,rfl,hn2,⟨zj,hzj,hcj⟩,hcz,hkk⟩
      replace HK:=hide ((un HK).trans hkk)
      replace HT:=hide (lays_kept hkk (un HT))
      replace HW:=hide (lays_kept hkk (un HW))
      have HCJ:=hide hcj
      have HCZ:=hide hcz
      clear hkk hcj hcz HNX
      go_wp2_with fail
      go_loopw [15,16] (fun s15 s16 wr=>∃ (b:Bool) (z:Nat),z≤n∧s15=.bool b∧s16=.int .i64 z∧Hid (zj < z→b=true)∧Hid (Kept wd wr)) (fun _ s16 _=>n - (intOf s16).toNat)
      case atStart=>exact ⟨false,0,Nat.zero_le _,rfl,rfl,(fun h=>absurd h (Nat.not_lt_zero _)),Kept.refl _⟩
      case round =>
        obtain ⟨b,z,hzn,rfl,rfl,HB,HKr⟩:=hrel
        have hwz:IntKind.i64.wrap ((z:Int) + 1)=(z:Int) + 1:=wrap_tiny _ (by omega) (by omega)
        by_cases hlt:z < n
        · obtain ⟨bw,o2,v,rfl,cz⟩:=(un HCZ) z hlt
          have hz1:(z:Int) < (n:Int):=by omega
          have hz0:(0:Int)≤(z:Int):=by omega
          have cz':=(un HKr).cell cz
          have m1:=cell_lays (lays_kept (un HKr) (un HW)) 1
          have HV:Hid (z=zj→v=(j:Int)):=hide (fun h=>by
            subst h
            obtain ⟨b',o',e,h'⟩:=(un HCJ) wd (Kept.refl wd)
            cases e
            rw [cz] at h'
            simpa using h')
          clear cz
          cases b with
          | true =>
            go_wp2_with fail
            go_quiet (fail)
            go_wp2
            go_roundw
            case rel=>exact ⟨true,z + 1,by omega,rfl,by go_num,(fun _=>rfl),hide ((un HKr).drewN _)⟩
            case measure=>simp [intOf]; omega
          | false =>
            by_cases hv:v=(j:Int)
            · have hb:(v == (j:Int))=true:=by rw [beq_iff_eq]; exact hv
              clear hv
              go_wp2_with fail
              go_quiet (fail)
              go_wp2
              go_roundw
              case rel=>exact ⟨true,z + 1,by omega,rfl,by go_num,(fun _=>rfl),hide ((un HKr).drewN _)⟩
              case measure=>simp [intOf]; omega
            · have hb:(v == (j:Int))=false:=by rw [beq_eq_false_iff_ne]; exact hv
              have HN:Hid (zj < z + 1→false=true):=hide (fun h=>by
                by_cases e:z=zj
                · exact absurd ((un HV) e) hv
                · exact (un HB) (by omega))
              clear hv
              go_wp2_with fail
              go_quiet (fail)
              go_wp2
              go_roundw
              case rel=>exact ⟨false,z + 1,by omega,rfl,by go_num,un HN,hide ((un HKr).drewN _)⟩
              case measure=>simp [intOf]; omega
        · have hz1:¬ ((z:Int) < (n:Int)):=by omega
          obtain rfl:b=true:=(un HB) (by omega)
          go_wp2_with fail
          refine ((un HRB) _ ((un HK).trans (un HKr))).mono ?_
          rintro _ we ⟨rfl,hkk⟩
          replace HK:=hide (((un HK).trans (un HKr)).trans hkk)
          have q0:=cell_lays (lays_kept ((un HKr).trans hkk) (un HW)) 0
          have q3:=cell_lays (lays_kept ((un HKr).trans hkk) (un HW)) 3
          have m0:=cell_lays (lays_kept ((un HKr).trans hkk) (un HT)) 0
          have m3:=cell_lays (lays_kept ((un HKr).trans hkk) (un HT)) 3
          have he:=un HE
          have z1:IntKind.i64.wrap ((nt:Int) - ta)=(nt:Int) - ta:=wrap_tiny _ (by omega) (by omega)
          have z2:IntKind.i64.wrap ((nt:Int) - ta + lb)=(nt:Int) - ta + lb:=wrap_tiny _ (by omega) (by omega)
          have z3:((nt2:Int) == (nt:Int) - ta + lb)=true:=by rw [beq_iff_eq]; exact he.1
          clear hkk he
          go_wp2
          go_ret
          exact ⟨rfl,un HK⟩
    · have u1:kd > 10:=by omega
      go_wp2_with fail
      refine ((un HRB) _ (un HK)).mono ?_
      rintro _ w3 ⟨rfl,hkk⟩
      replace HK:=hide ((un HK).trans hkk)
      clear hkk c0
      go_wp2
      go_ret
      exact ⟨rfl,un HK⟩
end Go.Proofs.YtadckjclgakcaaaGreatDoor
