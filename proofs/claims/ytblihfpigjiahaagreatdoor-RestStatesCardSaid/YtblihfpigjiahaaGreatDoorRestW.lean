/-
  The statement RestStates: its walk, of the contracts of what it calls. (Printed by tools/genRest.py.)
-/
import Derived.Test.YtblihfpigjiahaaGreatDoorRSJ
import Derived.Test.YtblihfpigjiahaaGreatDoorStX
set_option maxRecDepth 100000
set_option maxHeartbeats 8000000
namespace Go.Proofs.YtblihfpigjiahaaGreatDoor
open Go.RowKit

def GivesOk (f:FuncId) (args:Array Value) (u:World) (s:St) (more:List Value):Prop :=
  Calls Tryz.prog f args u fun e w'=>∃ oa n cap c oo m co,e=.returned (.tuple (#[.agg #[.slice oa n cap,.int .i64 c,.slice oo m co]]++more.toArray))∧StAt w' (.agg #[.slice oa n cap,.int .i64 c,.slice oo m co]) s∧FbsOk w' u.heap.size (.slice oa n cap)∧IntsOk w' u.heap.size (.slice oo m co)∧Kept u w'
theorem LAt.kept {w0 w w':World} {L:Nat} {cs:Array Value} (h:LAt w0 w L cs) (hk:Kept w w'):LAt w0 w' L cs:=h.wr (h.2.2.1.trans hk) (Wr.kept hk)
theorem LAt.k {w0 w:World} {L:Nat} {cs:Array Value} (h:LAt w0 w L cs):Kept w0 w:=h.2.2.1

theorem restStates_w (vp:Value) (w:World) (oa oo:Option Addr) (n cap m co:Nat) (c fu fl:Int) (p:List Fn) (s s1 s2 s3:St) (er e2:Int) (k2:Nat)
    (hp:Hid (ProgAt w vp p)) (hs:Hid (StAt w (.agg #[.slice oa n cap,.int .i64 c,.slice oo m co]) s))
    (HE:Hid (∀ u,Kept w u→Calls Tryz.prog 11 #[vp,.agg #[.slice oa n cap,.int .i64 c,.slice oo m co]] u fun e w'=>e=.returned (.int .i64 0)∧Kept u w'))
    (HOS:Hid (∀ u,Kept w u→Calls Tryz.prog 13 #[.agg #[.slice oa n cap,.int .i64 c,.slice oo m co]] u fun e w'=>∃ oa n cap c oo m co,e=.returned (.agg #[.slice oa n cap,.int .i64 c,.slice oo m co])∧StAt w' (.agg #[.slice oa n cap,.int .i64 c,.slice oo m co]) s∧Kept u w'))
    (HOP:Hid (∀ u,Kept w u→Calls Tryz.prog 14 #[vp] u fun e w'=>∃ oa n cap,e=.returned (.slice oa n cap)∧ProgAt w' (.slice oa n cap) p∧Kept u w'))
    (HCH:Hid (∀ u,Calls Tryz.prog 9 #[.int .i64 fu,.int .i64 40] u fun e w'=>e=.returned (.int .i64 fl)∧w'=u))
    (HD:Hid (∀ u,Kept w u→GivesOk 15 #[vp,.agg #[.slice oa n cap,.int .i64 c,.slice oo m co]] u s1 [.int .i64 er]))
    (HR:Hid (∀ u,Kept w u→GivesOk 8 #[vp,.agg #[.slice oa n cap,.int .i64 c,.slice oo m co],.int .i64 fl] u s2 [.int .i64 k2,.int .i64 e2]))
    (HB:Hid (∀ u,Kept w u→GivesOk 16 #[vp] u s3 [.int .i64 0]))
    (HSO:Hid (∀ u,Kept w u→GivesSt 17 #[vp,.agg #[.slice oa n cap,.int .i64 c,.slice oo m co]] u s1 [.int .i64 er]))
    (HRO:Hid (∀ u,Kept w u→GivesSt 18 #[vp,.agg #[.slice oa n cap,.int .i64 c,.slice oo m co],.int .i64 fl] u s2 [.int .i64 k2,.int .i64 e2]))
    (HSS:Hid (∀ u v1 v2 s,StAt u v1 s→StAt u v2 s→Calls Tryz.prog 10 #[v1,v2] u fun e w'=>e=.returned (.bool true)∧Kept u w'))
    (HSP:Hid (∀ u v1 v2,ProgAt u v1 p→ProgAt u v2 p→Calls Tryz.prog 19 #[v1,v2] u fun e w'=>e=.returned (.bool true)∧Kept u w'))
    (HRB:Hid (∀ u,Kept w u→Calls Tryz.prog 12 #[] u fun e w'=>e=.returned (.bool true)∧Kept u w')) :
    Calls Tryz.prog 4 #[vp,.agg #[.slice oa n cap,.int .i64 c,.slice oo m co],.int .i64 fu] w fun e w'=>e=.returned (.bool true)∧Kept w w':=by
  have be:(er == er)=true:=by simp
  have bf:(e2 == e2)=true:=by simp
  go_enter Tryz.func4,Tryz.ntmps4
  go_wp2_with fail
  obtain ⟨k9,l9⟩:=box_st (Kept.refl w) #[.slice oa n cap,.int .i64 c,.slice oo m co] 26
  generalize w.alloc (.cells #[.slice oa n cap,.int .i64 c,.slice oo m co] 26)=w1 at *
  generalize w.heap.size=B0 at *
  have HL:=hide l9
  have HK:=hide k9
  clear k9 l9
  refine ((un HE) _ (un HK)).mono ?_
  rintro _ w2 ⟨rfl,hk⟩
  replace HK:=hide ((un HK).trans hk)
  replace HL:=hide (Zj hk (un HL))
  clear hk HE
  have a0:=Zb (un HL) 0
  have a1:=Zb (un HL) 1
  have a2:=Zb (un HL) 2
  go_wp2_with fail
  refine ((un HOS) _ (un HK)).mono ?_
  rintro _ w3 ⟨ow,nw,cw,zw,qw,mw,dw,rfl,hsw,hk⟩
  replace HK:=hide ((un HK).trans hk)
  replace HL:=hide (Zj hk (un HL))
  have HSw:=hide hsw
  clear hk hsw HOS a0 a1 a2
  go_wp2_with fail
  refine ((un HOP) _ (un HK)).mono ?_
  rintro _ w4 ⟨om,nm,cm,rfl,hpm,hk⟩
  replace HK:=hide ((un HK).trans hk)
  replace HL:=hide (Zj hk (un HL))
  replace HSw:=hide ((un HSw).kept hk)
  have HPm:=hide hpm
  clear hk hpm HOP
  go_wp2_with fail
  obtain ⟨k9,l9⟩:=box_st (Kept.refl w4) #[.slice ow nw cw,.int .i64 zw,.slice qw mw dw] 26
  generalize w4.alloc (.cells #[.slice ow nw cw,.int .i64 zw,.slice qw mw dw] 26)=w5 at *
  generalize w4.heap.size=Bw at *
  replace HK:=hide ((un HK).trans k9)
  replace HL:=hide (Zj k9 (un HL))
  replace HSw:=hide ((un HSw).kept k9)
  replace HPm:=hide ((un HPm).kept k9)
  have HLw:=hide l9
  clear k9 l9
  refine ((un HCH) _).mono ?_
  rintro _ w5 ⟨rfl,rfl⟩
  have HWK:=HK
  have HWL:=HL
  have HWS:=HSw
  have HWP:=HPm
  have HWw:=HLw
  clear HSw HPm HLw
  have H5:Hid (Kept w5 w5):=hide (Kept.refl w5)
  have a0:=Zb (un HL) 0
  have a1:=Zb (un HL) 1
  have a2:=Zb (un HL) 2
  go_wp2_with fail
  refine ((un HD) _ (un HK)).mono ?_
  rintro _ xt ⟨ot,nt,ct,zt,qt,mt,dt,rfl,-,hf,hi,hk⟩
  have HFt:=hide (hf.low (un H5).size)
  have HIt:=hide (hi.low (un H5).size)
  replace HK:=hide ((un HK).trans hk)
  replace HL:=hide (Zj hk (un HL))
  replace H5:=hide ((un H5).trans hk)
  clear hk hf hi a0 a1 a2
  have a0:=cell_new (un HL) 0
  have a1:=cell_new (un HL) 1
  have a2:=cell_new (un HL) 2
  go_wp2_with fail
  obtain ⟨k9,l9⟩:=box_st (Kept.refl xt) #[.slice ot nt ct,.int .i64 zt,.slice qt mt dt] 26
  generalize xt.alloc (.cells #[.slice ot nt ct,.int .i64 zt,.slice qt mt dt] 26)=yt at *
  generalize xt.heap.size=Bt at *
  replace HK:=hide ((un HK).trans k9)
  replace HL:=hide (Zj k9 (un HL))
  replace H5:=hide ((un H5).trans k9)
  replace HFt:=hide ((un HFt).wr (Wr.kept k9))
  replace HIt:=hide ((un HIt).wr (Wr.kept k9))
  have HLt:=hide l9
  clear k9 l9
  clear a0 a1 a2
  refine ((un HR) _ (un HK)).mono ?_
  rintro _ xu ⟨ou,nu,cu,zu,qu,mu,du,rfl,-,hf,hi,hk⟩
  have HFu:=hide (hf.low (un H5).size)
  have HIu:=hide (hi.low (un H5).size)
  replace HK:=hide ((un HK).trans hk)
  replace HL:=hide (Zj hk (un HL))
  replace H5:=hide ((un H5).trans hk)
  replace HFt:=hide ((un HFt).wr (Wr.kept hk))
  replace HIt:=hide ((un HIt).wr (Wr.kept hk))
  replace HLt:=hide (Zj hk (un HLt))
  clear hk hf hi
  go_wp2_with fail
  obtain ⟨k9,l9⟩:=box_st (Kept.refl xu) #[.slice ou nu cu,.int .i64 zu,.slice qu mu du] 26
  generalize xu.alloc (.cells #[.slice ou nu cu,.int .i64 zu,.slice qu mu du] 26)=yu at *
  generalize xu.heap.size=Bu at *
  replace HK:=hide ((un HK).trans k9)
  replace HL:=hide (Zj k9 (un HL))
  replace H5:=hide ((un H5).trans k9)
  replace HFt:=hide ((un HFt).wr (Wr.kept k9))
  replace HIt:=hide ((un HIt).wr (Wr.kept k9))
  replace HLt:=hide (Zj k9 (un HLt))
  replace HFu:=hide ((un HFu).wr (Wr.kept k9))
  replace HIu:=hide ((un HIu).wr (Wr.kept k9))
  have HLu:=hide l9
  clear k9 l9
  refine ((un HB) _ (un HK)).mono ?_
  rintro _ xb ⟨ob,nb,cb,zb,qb,mb,db,rfl,-,hf,hi,hk⟩
  have HFb:=hide (hf.low (un H5).size)
  have HIb:=hide (hi.low (un H5).size)
  replace HK:=hide ((un HK).trans hk)
  replace HL:=hide (Zj hk (un HL))
  replace H5:=hide ((un H5).trans hk)
  replace HFt:=hide ((un HFt).wr (Wr.kept hk))
  replace HIt:=hide ((un HIt).wr (Wr.kept hk))
  replace HLt:=hide (Zj hk (un HLt))
  replace HFu:=hide ((un HFu).wr (Wr.kept hk))
  replace HIu:=hide ((un HIu).wr (Wr.kept hk))
  replace HLu:=hide (Zj hk (un HLu))
  clear hk hf hi
  have T0:=fun ob=>(Zg (un HLt) ob:(xb.alloc ob).heap[Bt]?=_)
  have U0:=fun ob=>(Zg (un HLu) ob:(xb.alloc ob).heap[Bu]?=_)
  have t0:=fun ob=>Zb (T0 ob) 0
  have t1:=fun ob=>Zb (T0 ob) 1
  have t2:=fun ob=>Zb (T0 ob) 2
  have u0:=fun ob=>Zb (U0 ob) 0
  have u1:=fun ob=>Zb (U0 ob) 1
  have u2:=fun ob=>Zb (U0 ob) 2
  clear T0 U0
  go_wp2_with fail
  have kb:=(Kept.refl xb).alloc (.cells #[.slice ob nb cb,.int .i64 zb,.slice qb mb db] 26)
  replace HK:=hide ((un HK).trans kb)
  replace HL:=hide (Zj kb (un HL))
  replace H5:=hide ((un H5).trans kb)
  replace HFt:=hide ((un HFt).wr (Wr.kept kb))
  replace HIt:=hide ((un HIt).wr (Wr.kept kb))
  replace HLt:=hide (Zj kb (un HLt))
  replace HFu:=hide ((un HFu).wr (Wr.kept kb))
  replace HIu:=hide ((un HIu).wr (Wr.kept kb))
  replace HLu:=hide (Zj kb (un HLu))
  replace HFb:=hide ((un HFb).wr (Wr.kept kb))
  replace HIb:=hide ((un HIb).wr (Wr.kept kb))
  have hyb:(xb.alloc (.cells #[.slice ob nb cb,.int .i64 zb,.slice qb mb db] 26)).heap.size=xb.heap.size + 1:=by simp
  generalize xb.alloc (.cells #[.slice ob nb cb,.int .i64 zb,.slice qb mb db] 26)=yb at *
  generalize xb.heap.size=Bb at *
  clear kb t0 t1 t2 u0 u1 u2
  have kL:=(Kept.refl yb).alloc (.cells #[.slice ot nt ct,.int .i64 zt,.slice qt mt dt,.slice ou nu cu,.int .i64 zu,.slice qu mu du,.slice ob nb cb,.int .i64 zb,.slice qb mb db] 26)
  have HA:Hid (LAt w5 (yb.alloc (.cells #[.slice ot nt ct,.int .i64 zt,.slice qt mt dt,.slice ou nu cu,.int .i64 zu,.slice qu mu du,.slice ob nb cb,.int .i64 zb,.slice qb mb db] 26)) yb.heap.size #[.slice ot nt ct,.int .i64 zt,.slice qt mt dt,.slice ou nu cu,.int .i64 zu,.slice qu mu du,.slice ob nb cb,.int .i64 zb,.slice qb mb db]):=hide (LAt.make (Zd rfl) (un H5).size ((un H5).alloc _) ((un HFt).wr (Wr.kept kL)) ((un HIt).wr (Wr.kept kL)) ((un HFu).wr (Wr.kept kL)) ((un HIu).wr (Wr.kept kL)) ((un HFb).wr (Wr.kept kL)) ((un HIb).wr (Wr.kept kL)))
  generalize yb.alloc (.cells #[.slice ot nt ct,.int .i64 zt,.slice qt mt dt,.slice ou nu cu,.int .i64 zu,.slice qu mu du,.slice ob nb cb,.int .i64 zb,.slice qb mb db] 26)=wl at HA ⊢
  rw [hyb] at HA
  clear hyb
  generalize Bb + 1=L at HA ⊢
  generalize (#[.slice ot nt ct,.int .i64 zt,.slice qt mt dt,.slice ou nu cu,.int .i64 zu,.slice qu mu du,.slice ob nb cb,.int .i64 zb,.slice qb mb db]:Array Value)=cs at HA
  clear kL HK HL H5 HFt HIt HLt HFu HIu HLu HFb HIb HCH
  go_loopw [18] (fun s18 wr=>∃ i:Nat,i≤3∧s18=.int .i64 i∧Hid (LAt w5 wr L cs)) (fun s18 _=>3 - (intOf s18).toNat)
  case atStart=>exact ⟨0,by omega,rfl,HA⟩
  case round =>
    obtain ⟨i,hi3,rfl,HJ⟩:=hrel
    by_cases hi:i < 3
    · have i0:(0:Int)≤(i:Int):=by omega
      have i1:(i:Int) < 3:=by omega
      obtain ⟨of,nf,cf,ox,no,cx,-,-,q0,q2⟩:=(un HJ).fib hi
      have Q0:=hide q0
      have Q2:=hide q2
      clear q0 q2
      go_wp2_with fail
      go_loopw [19] (fun s19 wr=>∃ k:Nat,k≤nf∧s19=.int .i64 k∧Hid (LAt w5 wr L cs)) (fun s19 _=>nf - (intOf s19).toNat)
      case atStart=>exact ⟨0,Nat.zero_le _,rfl,HJ⟩
      case round =>
        obtain ⟨k,hkm,rfl,HJ2⟩:=hrel
        have x0:=(Zb (un HJ2).1 (i * 3)).trans (un Q0)
        by_cases hk:k < nf
        · obtain ⟨gf,curf,rfl,hgN,hgf,nfb,ofr,nfr,cfr,zf,c0,c1,-⟩:=(un HJ2).frs hi (un Q0) hk
          have HGN:=hide hgN
          have HGF:=hide (And.intro (un HJ2) hgf)
          have C0:=hide c0
          have C1:=hide c1
          have k0:(0:Int)≤(k:Int):=by omega
          have k1:(k:Int) < (nf:Int):=by omega
          clear hgN hgf c0 c1 HJ2
          go_wp2_with fail
          go_loopw [20] (fun s20 wr=>∃ j:Nat,j≤nfr∧s20=.int .i64 j∧Hid (LAt w5 wr L cs∧wr.heap[gf]?=some (.cells curf 46))) (fun s20 _=>nfr - (intOf s20).toNat)
          case atStart=>exact ⟨0,Nat.zero_le _,rfl,HGF⟩
          case round =>
            obtain ⟨j,hjm,rfl,HJ3⟩:=hrel
            clear x0
            have x0:=(Zb (un HJ3).1.1 (i * 3)).trans (un Q0)
            have y0:=(Zb (un HJ3).2 (k * 2)).trans (un C0)
            by_cases hj:j < nfr
            · obtain ⟨g,cur,rfl,-,-,a,b,ol,nl,cl,os,ns,cv,z0,z1,z2,z3,il,is,-,nrb⟩:=((un HJ3).1.frs2 hi (un Q0) hk (un HJ3).2 (un C0)).at hj
              have j0:(0:Int)≤(j:Int):=by omega
              have j1:(j:Int) < (nfr:Int):=by omega
              have HIL:=hide il
              have HIS:=hide is
              clear il is
              go_wp2_with fail
              have HX:Hid (XAt w5 (wr.alloc (.cells #[.int .i64 a,.int .i64 b,.slice ol nl cl,.slice os ns cv] 48)) L gf wr.heap.size cs curf #[.int .i64 a,.int .i64 b,.slice ol nl cl,.slice os ns cv] (.slice ol nl cl) (.slice os ns cv)):=hide ⟨(un HJ3).1.kept ((Kept.refl _).alloc (.cells #[.int .i64 a,.int .i64 b,.slice ol nl cl,.slice os ns cv] 48)),Zg (un HJ3).2 _,Zd rfl,(un HIL).wr (Wr.kept ((Kept.refl _).alloc _)),(un HIS).wr (Wr.kept ((Kept.refl _).alloc _))⟩
              clear HJ3 x0 y0 z0 z1 z2 z3 HIL HIS
              generalize wr.alloc (.cells #[.int .i64 a,.int .i64 b,.slice ol nl cl,.slice os ns cv] 48)=wx at HX ⊢
              generalize wr.heap.size=Bx at HX ⊢
              go_loopw [22] (fun s22 wr4=>∃ t:Nat,t≤nl∧s22=.int .i64 t∧Hid (XAt w5 wr4 L gf Bx cs curf #[.int .i64 a,.int .i64 b,.slice ol nl cl,.slice os ns cv] (.slice ol nl cl) (.slice os ns cv))) (fun s22 _=>nl - (intOf s22).toNat)
              case atStart=>exact ⟨0,Nat.zero_le _,rfl,HX⟩
              case round =>
                obtain ⟨t,htm,rfl,HX4⟩:=hrel
                have x2:=Zb (un HX4).2.2.1 2
                simp only [List.getElem?_toArray,List.getElem?_cons_zero,List.getElem?_cons_succ] at x2
                by_cases ht:t < nl
                · obtain ⟨gi,ci,xi,rfl,hgi,hhi,v0,f0,nib⟩:=(un HX4).2.2.2.1.at ht
                  have t0:(0:Int)≤(t:Int):=by omega
                  have t1:(t:Int) < (nl:Int):=by omega
                  have HN:=hide ((un HX4).int (i:=t) hhi hgi (.int .i64 (-5)))
                  clear hgi hhi HX4
                  go_wp2_with fail
                  go_roundw
                  case rel=>exact ⟨t + 1,by omega,by go_num,HN⟩
                  case measure=>simp [intOf]; omega
                · go_wp2_with fail
                  clear x2
                  go_loopw [23] (fun s23 wr5=>∃ t:Nat,t≤ns∧s23=.int .i64 t∧Hid (XAt w5 wr5 L gf Bx cs curf #[.int .i64 a,.int .i64 b,.slice ol nl cl,.slice os ns cv] (.slice ol nl cl) (.slice os ns cv))) (fun s23 _=>ns - (intOf s23).toNat)
                  case atStart=>exact ⟨0,Nat.zero_le _,rfl,HX4⟩
                  case round =>
                    obtain ⟨v,hvm,rfl,HX5⟩:=hrel
                    have x3:=Zb (un HX5).2.2.1 3
                    simp only [List.getElem?_toArray,List.getElem?_cons_zero,List.getElem?_cons_succ] at x3
                    by_cases hv:v < ns
                    · obtain ⟨gi,ci,xi,rfl,hgi,hhi,v0,f0,nib⟩:=(un HX5).2.2.2.2.at hv
                      have t0:(0:Int)≤(v:Int):=by omega
                      have t1:(v:Int) < (ns:Int):=by omega
                      have HN:=hide ((un HX5).int (i:=v) hhi hgi (.int .i64 (-5)))
                      clear hgi hhi HX5
                      go_wp2_with fail
                      go_roundw
                      case rel=>exact ⟨v + 1,by omega,by go_num,HN⟩
                      case measure=>simp [intOf]; omega
                    · obtain ⟨hL5,hg5,-,-,-⟩:=un HX5
                      have x0:=(Zb hL5.1 (i * 3)).trans (un Q0)
                      have y0:=(Zb hg5 (k * 2)).trans (un C0)
                      obtain ⟨g',cur',eg,hgN',hh',a',b',ol',nl',cl',os',ns',cv',z0,z1,z2,z3,-,-,hsz,-⟩:=(hL5.frs2 hi (un Q0) hk hg5 (un C0)).at hj
                      obtain rfl:g=g':=by simpa using eg
                      have f0:=Zi hh' (j * 4)
                      have f1:=Zi hh' (j * 4 + 1)
                      have f2:=Zi hh' (j * 4 + 2)
                      have f3:=Zi hh' (j * 4 + 3)
                      have HN:=hide (hL5.frame (j:=j) hg5 hh' hgN' hsz)
                      clear eg hgN' hh' hsz hL5 hg5 HX5
                      go_wp2_with fail
                      go_roundw
                      case rel=>exact ⟨j + 1,by omega,by go_num,HN⟩
                      case measure=>simp [intOf]; omega
            · have y1:=(Zb (un HJ3).2 (k * 2 + 1)).trans (un C1)
              have f0:=Zi (un HJ3).2 (k * 2)
              have f1:=Zi (un HJ3).2 (k * 2 + 1)
              have HN:=hide ((un HJ3).1.fiber (j:=k) (un HJ3).2 (un HGN) (Array.getElem?_eq_some_iff.1 (un C1)).1)
              clear HJ3
              go_wp2_with fail
              go_roundw
              case rel=>exact ⟨k + 1,by omega,by go_num,HN⟩
              case measure=>simp [intOf]; omega
        · go_wp2_with fail
          clear x0
          go_loopw [24] (fun s24 wr6=>∃ t:Nat,t≤no∧s24=.int .i64 t∧Hid (LAt w5 wr6 L cs)) (fun s24 _=>no - (intOf s24).toNat)
          case atStart=>exact ⟨0,Nat.zero_le _,rfl,HJ2⟩
          case round =>
            obtain ⟨t,htm,rfl,HJ6⟩:=hrel
            have x2:=(Zb (un HJ6).1 (i * 3 + 2)).trans (un Q2)
            by_cases ht:t < no
            · obtain ⟨gi,ci,xi,rfl,hgi,hhi,v0,f0,nib⟩:=((un HJ6).ints hi (un Q2)).at ht
              have t0:(0:Int)≤(t:Int):=by omega
              have t1:(t:Int) < (no:Int):=by omega
              have HN:=hide ((un HJ6).int (i:=t) hhi hgi (.int .i64 (-5)))
              clear hgi hhi HJ6
              go_wp2_with fail
              go_roundw
              case rel=>exact ⟨t + 1,by omega,by go_num,HN⟩
              case measure=>simp [intOf]; omega
            · go_wp2_with fail
              go_roundw
              case rel=>exact ⟨i + 1,by omega,by go_num,HJ6⟩
              case measure=>simp [intOf]; omega
    · have HKE:=hide (un HJ).k
      obtain rfl:i=3:=by omega
      have HK:=hide ((un HWK).trans (un HKE))
      have HL:=hide (Zj (un HKE) (un HWL))
      have HSw:=hide ((un HWS).kept (un HKE))
      have HPm:=hide ((un HWP).kept (un HKE))
      have HLw:=hide (Zj (un HKE) (un HWw))
      clear HKE HJ HWK HWL HWS HWP HWw HA hi hi3
      have a0:=Zb (un HL) 0
      have a1:=Zb (un HL) 1
      have a2:=Zb (un HL) 2
      go_wp2_with fail
      refine ((un HD) _ (un HK)).mono ?_
      rintro _ xv ⟨ov,nv,cv,zv,qv,mv,dv,rfl,hst,-,-,hk⟩
      clear a0 a1 a2
      replace HK:=hide ((un HK).trans hk)
      replace HL:=hide (Zj hk (un HL))
      replace HSw:=hide ((un HSw).kept hk)
      replace HPm:=hide ((un HPm).kept hk)
      replace HLw:=hide (Zj hk (un HLw))
      have HSv:=hide hst
      clear hk hst
      have a0:=cell_new (un HL) 0
      have a1:=cell_new (un HL) 1
      have a2:=cell_new (un HL) 2
      go_wp2_with fail
      obtain ⟨k9,l9⟩:=box_st (Kept.refl xv) #[.slice ov nv cv,.int .i64 zv,.slice qv mv dv] 26
      generalize xv.alloc (.cells #[.slice ov nv cv,.int .i64 zv,.slice qv mv dv] 26)=yv at *
      generalize xv.heap.size=Bv at *
      replace HK:=hide ((un HK).trans k9)
      replace HL:=hide (Zj k9 (un HL))
      replace HSw:=hide ((un HSw).kept k9)
      replace HPm:=hide ((un HPm).kept k9)
      replace HLw:=hide (Zj k9 (un HLw))
      replace HSv:=hide ((un HSv).kept k9)
      have HTv:=hide l9
      clear k9 l9
      clear a0 a1 a2
      refine ((un HR) _ (un HK)).mono ?_
      rintro _ xr ⟨or,nr,cr,zr,qr,mr,dr,rfl,hst,-,-,hk⟩
      replace HK:=hide ((un HK).trans hk)
      replace HL:=hide (Zj hk (un HL))
      replace HSw:=hide ((un HSw).kept hk)
      replace HPm:=hide ((un HPm).kept hk)
      replace HLw:=hide (Zj hk (un HLw))
      replace HSv:=hide ((un HSv).kept hk)
      replace HTv:=hide (Zj hk (un HTv))
      have HSr:=hide hst
      clear hk hst
      have a0:=cell_new (un HL) 0
      have a1:=cell_new (un HL) 1
      have a2:=cell_new (un HL) 2
      go_wp2_with fail
      obtain ⟨k9,l9⟩:=box_st (Kept.refl xr) #[.slice or nr cr,.int .i64 zr,.slice qr mr dr] 26
      generalize xr.alloc (.cells #[.slice or nr cr,.int .i64 zr,.slice qr mr dr] 26)=yr at *
      generalize xr.heap.size=Br at *
      replace HK:=hide ((un HK).trans k9)
      replace HL:=hide (Zj k9 (un HL))
      replace HSw:=hide ((un HSw).kept k9)
      replace HPm:=hide ((un HPm).kept k9)
      replace HLw:=hide (Zj k9 (un HLw))
      replace HSv:=hide ((un HSv).kept k9)
      replace HTv:=hide (Zj k9 (un HTv))
      replace HSr:=hide ((un HSr).kept k9)
      have HTr:=hide l9
      clear k9 l9
      clear a0 a1 a2
      refine ((un HSO) _ (un HK)).mono ?_
      rintro _ xg ⟨og,ng,cg,zg,qg,mg,dg,rfl,hst,hk⟩
      replace HK:=hide ((un HK).trans hk)
      replace HL:=hide (Zj hk (un HL))
      replace HSw:=hide ((un HSw).kept hk)
      replace HPm:=hide ((un HPm).kept hk)
      replace HLw:=hide (Zj hk (un HLw))
      replace HSv:=hide ((un HSv).kept hk)
      replace HTv:=hide (Zj hk (un HTv))
      replace HSr:=hide ((un HSr).kept hk)
      replace HTr:=hide (Zj hk (un HTr))
      have HSg:=hide hst
      clear hk hst
      have a0:=cell_new (un HL) 0
      have a1:=cell_new (un HL) 1
      have a2:=cell_new (un HL) 2
      go_wp2_with fail
      obtain ⟨k9,l9⟩:=box_st (Kept.refl xg) #[.slice og ng cg,.int .i64 zg,.slice qg mg dg] 26
      generalize xg.alloc (.cells #[.slice og ng cg,.int .i64 zg,.slice qg mg dg] 26)=yg at *
      generalize xg.heap.size=Bg at *
      replace HK:=hide ((un HK).trans k9)
      replace HL:=hide (Zj k9 (un HL))
      replace HSw:=hide ((un HSw).kept k9)
      replace HPm:=hide ((un HPm).kept k9)
      replace HLw:=hide (Zj k9 (un HLw))
      replace HSv:=hide ((un HSv).kept k9)
      replace HTv:=hide (Zj k9 (un HTv))
      replace HSr:=hide ((un HSr).kept k9)
      replace HTr:=hide (Zj k9 (un HTr))
      replace HSg:=hide ((un HSg).kept k9)
      have HTg:=hide l9
      clear k9 l9
      clear a0 a1 a2
      refine ((un HRO) _ (un HK)).mono ?_
      rintro _ xl ⟨ol,nl,cl,zl,ql,ml,dl,rfl,hst,hk⟩
      replace HK:=hide ((un HK).trans hk)
      replace HL:=hide (Zj hk (un HL))
      replace HSw:=hide ((un HSw).kept hk)
      replace HPm:=hide ((un HPm).kept hk)
      replace HLw:=hide (Zj hk (un HLw))
      replace HSv:=hide ((un HSv).kept hk)
      replace HTv:=hide (Zj hk (un HTv))
      replace HSr:=hide ((un HSr).kept hk)
      replace HTr:=hide (Zj hk (un HTr))
      replace HSg:=hide ((un HSg).kept hk)
      replace HTg:=hide (Zj hk (un HTg))
      have HSl:=hide hst
      clear hk hst
      go_wp2_with fail
      obtain ⟨k9,l9⟩:=box_st (Kept.refl xl) #[.slice ol nl cl,.int .i64 zl,.slice ql ml dl] 26
      generalize xl.alloc (.cells #[.slice ol nl cl,.int .i64 zl,.slice ql ml dl] 26)=yl at *
      generalize xl.heap.size=Bl at *
      replace HK:=hide ((un HK).trans k9)
      replace HL:=hide (Zj k9 (un HL))
      replace HSw:=hide ((un HSw).kept k9)
      replace HPm:=hide ((un HPm).kept k9)
      replace HLw:=hide (Zj k9 (un HLw))
      replace HSv:=hide ((un HSv).kept k9)
      replace HTv:=hide (Zj k9 (un HTv))
      replace HSr:=hide ((un HSr).kept k9)
      replace HTr:=hide (Zj k9 (un HTr))
      replace HSg:=hide ((un HSg).kept k9)
      replace HTg:=hide (Zj k9 (un HTg))
      replace HSl:=hide ((un HSl).kept k9)
      have HTl:=hide l9
      clear k9 l9
      refine ((un HRB) _ (un HK)).mono ?_
      rintro _ p1 ⟨rfl,hk⟩
      replace HK:=hide ((un HK).trans hk)
      replace HL:=hide (Zj hk (un HL))
      replace HSw:=hide ((un HSw).kept hk)
      replace HPm:=hide ((un HPm).kept hk)
      replace HLw:=hide (Zj hk (un HLw))
      replace HSv:=hide ((un HSv).kept hk)
      replace HTv:=hide (Zj hk (un HTv))
      replace HSr:=hide ((un HSr).kept hk)
      replace HTr:=hide (Zj hk (un HTr))
      replace HSg:=hide ((un HSg).kept hk)
      replace HTg:=hide (Zj hk (un HTg))
      replace HSl:=hide ((un HSl).kept hk)
      replace HTl:=hide (Zj hk (un HTl))
      clear hk
      have a0:=Zb (un HL) 0
      have a1:=Zb (un HL) 1
      have a2:=Zb (un HL) 2
      have b0:=Zb (un HLw) 0
      have b1:=Zb (un HLw) 1
      have b2:=Zb (un HLw) 2
      go_wp2_with fail
      refine ((un HSS) _ _ _ s ((un hs).kept (un HK)) (un HSw)).mono ?_
      rintro _ p2 ⟨rfl,hk⟩
      replace HK:=hide ((un HK).trans hk)
      replace HL:=hide (Zj hk (un HL))
      replace HSw:=hide ((un HSw).kept hk)
      replace HPm:=hide ((un HPm).kept hk)
      replace HLw:=hide (Zj hk (un HLw))
      replace HSv:=hide ((un HSv).kept hk)
      replace HTv:=hide (Zj hk (un HTv))
      replace HSr:=hide ((un HSr).kept hk)
      replace HTr:=hide (Zj hk (un HTr))
      replace HSg:=hide ((un HSg).kept hk)
      replace HTg:=hide (Zj hk (un HTg))
      replace HSl:=hide ((un HSl).kept hk)
      replace HTl:=hide (Zj hk (un HTl))
      clear hk a0 a1 a2 b0 b1 b2
      go_wp2_with fail
      refine ((un HSP) _ _ _ ((un hp).kept (un HK)) (un HPm)).mono ?_
      rintro _ p3 ⟨rfl,hk⟩
      replace HK:=hide ((un HK).trans hk)
      replace HL:=hide (Zj hk (un HL))
      replace HSw:=hide ((un HSw).kept hk)
      replace HPm:=hide ((un HPm).kept hk)
      replace HLw:=hide (Zj hk (un HLw))
      replace HSv:=hide ((un HSv).kept hk)
      replace HTv:=hide (Zj hk (un HTv))
      replace HSr:=hide ((un HSr).kept hk)
      replace HTr:=hide (Zj hk (un HTr))
      replace HSg:=hide ((un HSg).kept hk)
      replace HTg:=hide (Zj hk (un HTg))
      replace HSl:=hide ((un HSl).kept hk)
      replace HTl:=hide (Zj hk (un HTl))
      clear hk
      have a0:=Zb (un HTv) 0
      have a1:=Zb (un HTv) 1
      have a2:=Zb (un HTv) 2
      have b0:=Zb (un HTg) 0
      have b1:=Zb (un HTg) 1
      have b2:=Zb (un HTg) 2
      go_wp2_with fail
      refine ((un HSS) _ _ _ s1 (un HSv) (un HSg)).mono ?_
      rintro _ p4 ⟨rfl,hk⟩
      replace HK:=hide ((un HK).trans hk)
      replace HL:=hide (Zj hk (un HL))
      replace HSw:=hide ((un HSw).kept hk)
      replace HPm:=hide ((un HPm).kept hk)
      replace HLw:=hide (Zj hk (un HLw))
      replace HSv:=hide ((un HSv).kept hk)
      replace HTv:=hide (Zj hk (un HTv))
      replace HSr:=hide ((un HSr).kept hk)
      replace HTr:=hide (Zj hk (un HTr))
      replace HSg:=hide ((un HSg).kept hk)
      replace HTg:=hide (Zj hk (un HTg))
      replace HSl:=hide ((un HSl).kept hk)
      replace HTl:=hide (Zj hk (un HTl))
      clear hk a0 a1 a2 b0 b1 b2
      have a0:=Zb (un HTr) 0
      have a1:=Zb (un HTr) 1
      have a2:=Zb (un HTr) 2
      have b0:=Zb (un HTl) 0
      have b1:=Zb (un HTl) 1
      have b2:=Zb (un HTl) 2
      go_wp2_with fail
      refine ((un HSS) _ _ _ s2 (un HSr) (un HSl)).mono ?_
      rintro _ p5 ⟨rfl,hk⟩
      replace HK:=hide ((un HK).trans hk)
      replace HL:=hide (Zj hk (un HL))
      replace HSw:=hide ((un HSw).kept hk)
      replace HPm:=hide ((un HPm).kept hk)
      replace HLw:=hide (Zj hk (un HLw))
      replace HSv:=hide ((un HSv).kept hk)
      replace HTv:=hide (Zj hk (un HTv))
      replace HSr:=hide ((un HSr).kept hk)
      replace HTr:=hide (Zj hk (un HTr))
      replace HSg:=hide ((un HSg).kept hk)
      replace HTg:=hide (Zj hk (un HTg))
      replace HSl:=hide ((un HSl).kept hk)
      replace HTl:=hide (Zj hk (un HTl))
      clear hk a0 a1 a2 b0 b1 b2
      go_wp2_with fail
      go_ret
      exact ⟨rfl,un HK⟩
end Go.Proofs.YtblihfpigjiahaaGreatDoor
