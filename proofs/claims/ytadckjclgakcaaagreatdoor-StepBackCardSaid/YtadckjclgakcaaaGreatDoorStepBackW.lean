/-
  The statement StepBack: its walk, of the contracts of what it calls.
-/
import Derived.Test.YtadckjclgakcaaaGreatDoorSBG
import Derived.Test.YtadckjclgakcaaaGreatDoorXB17
import Derived.Test.YtadckjclgakcaaaGreatDoorTakesQ
import Derived.Deep.DeepCutAuto
import Derived.Deep.RegionHeld3
set_option maxRecDepth 100000
set_option maxHeartbeats 8000000
namespace Go.Proofs.YtadckjclgakcaaaGreatDoor
open Go.RowKit

theorem back_cases {se za nn:Int} {P:Prop} (hq:¬ (se=0∧za≠nn∧0≤za∧0≤nn)) (h1:(se != 0)=true→P) (h2:(se != 0)=false→(za == nn)=true→P) (h3:(se != 0)=false→(za == nn)=false→za < 0→P) (h4:(se != 0)=false→(za == nn)=false→¬ za < 0→nn < 0→P):P:=by
  by_cases q1:se=0
  · by_cases q2:za=nn
    · exact h2 (by rw [q1]; rfl) (by rw [beq_iff_eq]; exact q2)
    · by_cases q3:za < 0
      · exact h3 (by rw [q1]; rfl) (by rw [beq_eq_false_iff_ne]; exact q2) q3
      · exact h4 (by rw [q1]; rfl) (by rw [beq_eq_false_iff_ne]; exact q2) q3 (Int.not_le.1 (fun h=>hq ⟨q1,q2,by omega,h⟩))
  · exact h1 (by rw [bne_iff_ne]; exact q1)
theorem stepBack_w (vp:Value) (w:World) (s r:St) (se:Int) (oa oo:Option Addr) (N M cap co:Nat) (nn:Int)
    (HS:Hid (StAt w (.agg #[.slice oa N cap,.int .i64 nn,.slice oo M co]) s))
    (HD:Hid (∀ u,Kept w u→GivesCp 9 #[vp,.agg #[.slice oa N cap,.int .i64 nn,.slice oo M co]] u r [.int .i64 se]))
    (HSI:Hid (∀ u l v1 v2,IntsW u v1 l→IntsW u v2 l→Calls Tryz.prog 14 #[v1,v2] u fun e w'=>e=.returned (.bool true)∧Kept u w'))
    (HRB:Hid (∀ u,Kept w u→Calls Tryz.prog 11 #[] u fun e w'=>e=.returned (.bool true)∧Kept u w'))
    (hgood:se=0→r.now≠s.now→0≤r.now→0≤s.now→r.fibers.length=s.fibers.length∧s.now.toNat < s.fibers.length∧r.now.toNat < s.fibers.length∧s.fibers.length≤5 ∧
      (((fibAt s s.now.toNat).caller=r.now∧(fibAt r s.now.toNat).caller=-1∧∃ gs u d l v,fibAt s r.now.toNat=⟨gs++[u],d⟩∧fibAt r r.now.toNat=⟨gs++[⟨u.fn,u.at_,l,u.stack++[v]⟩],d⟩∧gs.length≤6∧u.stack.length≤100) ∨
       ((fibAt s s.now.toNat).caller≠r.now∧(fibAt r r.now.toNat).caller=s.now∧(fibAt s r.now.toNat).caller=-1))) :
    Calls Tryz.prog 7 #[vp,.agg #[.slice oa N cap,.int .i64 nn,.slice oo M co]] w fun e w'=>e=.returned (.bool true)∧Kept w w':=by
  have HG:=hide hgood
  have HPs:=hide (stAt_parts (un HS))
  clear hgood
  go_enter Tryz.func7,Tryz.ntmps7
  go_wp2_with fail
  obtain ⟨k9,l9⟩:=box_st (Kept.refl w) #[.slice oa N cap,.int .i64 nn,.slice oo M co] 26
  generalize w.alloc (.cells #[.slice oa N cap,.int .i64 nn,.slice oo M co] 26)=w1 at *
  generalize w.heap.size=B0 at *
  replace HS:=hide ((un HS).kept k9)
  have HL:=hide l9
  have HK:=hide k9
  clear k9 l9
  refine ((un HD) _ (un HK)).mono ?_
  rintro _ wa ⟨ob,na,ca,za,oq,ma,da,rfl,hs,hcp,hk⟩
  replace HK:=hide ((un HK).trans hk)
  replace HL:=hide (lays_kept hk (un HL))
  replace HS:=hide ((un HS).kept hk)
  have HR:=hide hs
  have HCP:=hide hcp
  have HPa:=hide (stAt_parts hs)
  clear hs hcp hk HD
  have a1:=cell_new (un HL) 1
  by_cases hq:se=0∧za≠nn∧0≤za∧0≤nn
  · obtain ⟨q1,q2,q3,q4⟩:=hq
    subst q1
    obtain ⟨i,rfl⟩:∃ i:Nat,nn=i:=⟨nn.toNat,by omega⟩
    obtain ⟨j,rfl⟩:∃ j:Nat,za=j:=⟨za.toNat,by omega⟩
    obtain ⟨e1,e2,e3⟩:=un HPs
    obtain ⟨f1,f2,f3⟩:=un HPa
    obtain ⟨g1,g2,g3,g4,g5⟩:=(un HG) rfl (by rw [← e1,← f1]; exact q2) (by rw [← f1]; omega) (by rw [← e1]; omega)
    rw [← e1,← f1,Int.toNat_natCast,Int.toNat_natCast] at g5
    rw [← e1,← e2,Int.toNat_natCast] at g2
    rw [← f1,← e2,Int.toNat_natCast] at g3
    rw [← e2] at g4
    rw [← f2,← e2] at g1
    have u1:((j:Int) == (i:Int))=false:=by rw [beq_eq_false_iff_ne]; omega
    have u2:¬ ((j:Int) < 0):=by omega
    have u3:¬ ((i:Int) < 0):=by omega
    have u4:¬ ((j:Int) ≥ (na:Int)):=by omega
    have u5:¬ ((i:Int) ≥ (N:Int)):=by omega
    have u6:¬ ((j:Int) ≥ (N:Int)):=by omega
    have a0:=cell_new (un HL) 0
    obtain ⟨bs,os,of1,cf1,rfl,x0,x1,_⟩:=stAt_fib (un HS) (i:=i) (by omega)
    obtain ⟨bs',os',of2,cf2,eb,y0,y1,hfr⟩:=stAt_fib (un HS) (i:=j) (by omega)
    obtain ⟨br,or,of3,cf3,rfl,t0,t1,_⟩:=stAt_fib (un HR) (i:=i) (by omega)
    obtain ⟨br',or',of4,cf4,ec,z0,z1,hfq⟩:=stAt_fib (un HR) (i:=j) (by omega)
    cases eb
    cases ec
    have HX:Hid (∀ u,Kept wa u→u.cell? ⟨bs,os + i * 2 + 1,none⟩=some (.int .i64 (fibAt s i).caller)∧u.cell? ⟨bs,os + j * 2,none⟩=some (.slice of2 (fibAt s j).frames.length cf2)∧u.cell? ⟨bs,os + j * 2 + 1,none⟩=some (.int .i64 (fibAt s j).caller) ∧
      u.cell? ⟨br,or + i * 2 + 1,none⟩=some (.int .i64 (fibAt r i).caller)∧u.cell? ⟨br,or + j * 2,none⟩=some (.slice of4 (fibAt r j).frames.length cf4)∧u.cell? ⟨br,or + j * 2 + 1,none⟩=some (.int .i64 (fibAt r j).caller)) :=
      hide (fun u hu=>⟨hu.cell x1,hu.cell y0,hu.cell y1,hu.cell t1,hu.cell z0,hu.cell z1⟩)
    have HFS:=hide hfr
    have HFR:=hide hfq
    clear x0 x1 y0 y1 t0 t1 z0 z1 hfr hfq
    have g6:(i:Int) < (N:Int):=by omega
    have g7:(j:Int) < (N:Int):=by omega
    have g8:(i:Int) < (na:Int):=by omega
    have g9:(j:Int) < (na:Int):=by omega
    have ha0:(0:Int)≤(i:Int):=by omega
    have hb0:(0:Int)≤(j:Int):=by omega
    have HG5:=hide g5
    have HE:=hide (And.intro e1 (And.intro e2 (And.intro f1 f2)))
    have g10:N≤5:=g4
    clear e1 e2 e3 f1 f2 f3 g1 g2 g3 g4 g5 q2 q3 q4
    go_wp2_with fail
    obtain ⟨kb,lb⟩:=box_st (Kept.refl wa) #[.slice (some ⟨br,or,none⟩) na ca,.int .i64 (j:Int),.slice oq ma da] 26
    generalize wa.alloc (.cells #[.slice (some ⟨br,or,none⟩) na ca,.int .i64 (j:Int),.slice oq ma da] 26)=xa at *
    generalize wa.heap.size=B1 at *
    replace HK:=hide ((un HK).trans kb)
    replace HL:=hide (lays_kept kb (un HL))
    have HT:=hide lb
    obtain ⟨x1,y0,y1,t1,z0,z1⟩:=(un HX) xa kb
    have HKB:=hide kb
    clear kb lb a0 a1
    have a0:=cell_lays (un HL) 0
    have a1:=cell_lays (un HL) 1
    have b0:=cell_lays (un HT) 0
    have b1:=cell_lays (un HT) 1
    by_cases hca:(fibAt s i).caller=j
    · rw [hca] at x1
      rcases un HG5 with ⟨_,hci,gs,u,d,l,v,hsj,hrj,hg6,hu6⟩ | ⟨hne,_⟩
      · rw [hsj] at y0
        rw [hrj] at z0
        rw [hci] at t1
        have hlen1:(gs++[u]).length=gs.length + 1:=by simp
        have hlen2:(gs++[(⟨u.fn,u.at_,l,u.stack++[v]⟩:Fr)]).length=gs.length + 1:=by simp
        rw [hlen1] at y0
        rw [hlen2] at z0
        have hfs:=un HFS
        have hfr:=un HFR
        rw [hsj] at hfs
        rw [hrj] at hfr
        obtain ⟨b1',o1',ol1,nl1,cl1,os1,ns1,cs1,rfl,p0,p1,p2,p3,-,is1,-,en1⟩:=framesAt_fr hfs (j:=gs.length) (by simp)
        obtain ⟨b2',o2',ol2,nl2,cl2,os2,ns2,cs2,rfl,q0,q1,q2,q3,-,is2,-,en2⟩:=framesAt_fr hfr (j:=gs.length) (by simp)
        have hcap:=(un HCP).2.2 j gs.length (by have:=un HE; omega) (by rw [hrj]; simp) br or _ _ _ _ _ _ _ _ rfl ((un HX) wa (Kept.refl wa)).2.2.2.2.1 rfl q3
        simp only [List.getD_eq_getElem?_getD,List.getElem?_concat_length,Option.getD_some] at p0 p1 q0 q1 is1 is2 en1 en2
        have HIS:=hide is1
        have HIR:=hide is2
        have hns:ns2=ns1 + 1:=by rw [en1,en2]; simp
        have hns1:ns1≤100:=by rw [en1]; exact hu6
        subst hns
        generalize hq:gs.length=q at *
        generalize u.fn=f0 at *
        generalize u.at_=f1 at *
        have HF:Hid (∀ y,Kept xa y→(y.cell? ⟨b1',o1' + q * 4,none⟩=some (.int .i64 f0)∧y.cell? ⟨b1',o1' + q * 4 + 1,none⟩=some (.int .i64 f1)∧y.cell? ⟨b1',o1' + q * 4 + 2,none⟩=some (.slice ol1 nl1 cl1)∧y.cell? ⟨b1',o1' + q * 4 + 3,none⟩=some (.slice os1 ns1 cs1)) ∧
          y.cell? ⟨b2',o2' + q * 4,none⟩=some (.int .i64 f0)∧y.cell? ⟨b2',o2' + q * 4 + 1,none⟩=some (.int .i64 f1)∧y.cell? ⟨b2',o2' + q * 4 + 2,none⟩=some (.slice ol2 nl2 cl2)∧y.cell? ⟨b2',o2' + q * 4 + 3,none⟩=some (.slice os2 (ns1 + 1) cs2)) :=
          hide (fun y hy=>have h:=(un HKB).trans hy; ⟨⟨h.cell p0,h.cell p1,h.cell p2,h.cell p3⟩,h.cell q0,h.cell q1,h.cell q2,h.cell q3⟩)
        have HI1:=hide is1
        have HI2:=hide (intsW_take is2)
        rw [← en1] at HI2
        have HCAP:=hide hcap
        have HCL:Hid (∀ y,Kept xa y→y.cell? ⟨B1,0,none⟩=some (.slice (some ⟨br,or,none⟩) na ca)∧y.cell? ⟨B0,1,none⟩=some (.int .i64 (i:Int))∧y.cell? ⟨br,or + i * 2 + 1,none⟩=some (.int .i64 (-1))):=hide (fun y hy=>⟨hy.cell b0,hy.cell a1,hy.cell t1⟩)
        have hq6:q≤6:=hg6
        clear hsj hrj hci hlen1 hlen2 hca hq p0 p1 p2 p3 q0 q1 q2 q3 is1 is2 en1 en2 hcap hfs hfr hg6 hu6 HIS HIR
        have hm1:(q:Int) < ((q + 1:Nat):Int):=by omega
        have hm2:(q:Int) < (q:Int) + 1:=by omega
        have hm0:(0:Int)≤(q:Int):=by omega
        have hwm:IntKind.i64.wrap (((q + 1:Nat):Int) - 1)=(q:Int):=by rw [wrap_tiny _ (by omega) (by omega)]; omega
        have hwm2:IntKind.i64.wrap ((q:Int) + 1 - 1)=(q:Int):=by rw [wrap_tiny _ (by omega) (by omega)]; omega
        have hwq:IntKind.i64.wrap (q:Int)=(q:Int):=wrap_tiny _ (by omega) (by omega)
        have v1:(((q + 1:Nat):Int) == 0)=false:=by rw [beq_eq_false_iff_ne]; omega
        go_quiet (fail)
        go_wp2_with fail
        go_quiet (fail)
        go_wp2_with fail
        generalize hxd:xa.drewN _=xd
        have hkx:Kept xa xd:=by rw [← hxd]; exact (Kept.refl xa).drewN _
        have HKX:=hide hkx
        have HF2:=hide (fun y (hy:Kept xd y)=>(un HF) y ((un HKX).trans hy))
        clear hxd hkx a0 a1 b0 b1 x1 y0 y1 t1 z0 z1
        go_cut [9,10] from 93 to 166 (fun s9 s10 wx=>∃ b9 b10,s9=.pointer (some ⟨b9,0,none⟩)∧s10=.pointer (some ⟨b10,0,none⟩)∧Hid (wx.heap[b9]?=some (.cells #[.int .i64 f0,.int .i64 f1,.slice ol1 nl1 cl1,.slice os1 ns1 cs1] 39)∧wx.heap[b10]?=some (.cells #[.int .i64 f0,.int .i64 f1,.slice ol2 nl2 cl2,.slice os2 (ns1 + 1) cs2] 39)∧Kept xa wx))
        case first =>
          go_region_held3 (fun y=>(y.cell? ⟨b1',o1' + q * 4,none⟩=some (.int .i64 f0)∧y.cell? ⟨b1',o1' + q * 4 + 1,none⟩=some (.int .i64 f1)∧y.cell? ⟨b1',o1' + q * 4 + 2,none⟩=some (.slice ol1 nl1 cl1)∧y.cell? ⟨b1',o1' + q * 4 + 3,none⟩=some (.slice os1 ns1 cs1)) ∧
            y.cell? ⟨b2',o2' + q * 4,none⟩=some (.int .i64 f0)∧y.cell? ⟨b2',o2' + q * 4 + 1,none⟩=some (.int .i64 f1)∧y.cell? ⟨b2',o2' + q * 4 + 2,none⟩=some (.slice ol2 nl2 cl2)∧y.cell? ⟨b2',o2' + q * 4 + 3,none⟩=some (.slice os2 (ns1 + 1) cs2))
            (exact (un HF2) _ (by repeat (first | exact Kept.refl _ | refine Kept.drew ?_ | refine Kept.alloc ?_ _ | refine Kept.setCell ?_ (by simp) _))) (fail)
          all_goals go_wp2_with fail
          all_goals go_meet
          all_goals first
            | exact ⟨_,_,rfl,rfl,hide ⟨lays_alloc (lays_new rfl) _,lays_new (by simp),(un HKX).trans ((((Kept.refl xd).alloc _).alloc _).drew)⟩⟩
            | exact ⟨_,_,rfl,rfl,hide ⟨lays_new (by simp),lays_alloc (lays_new rfl) _,(un HKX).trans ((((Kept.refl xd).alloc _).alloc _).drew)⟩⟩
        case rest =>
          obtain ⟨b9,b10,rfl,rfl,HC⟩:=hcut
          obtain ⟨l9,l10,hkd⟩:=un HC
          have HY:Hid (∀ y,Kept wc y→y.cell? ⟨B1,0,none⟩=some (.slice (some ⟨br,or,none⟩) na ca)∧y.cell? ⟨B0,1,none⟩=some (.int .i64 (i:Int))∧y.cell? ⟨br,or + i * 2 + 1,none⟩=some (.int .i64 (-1))∧y.cell? ⟨b9,1,none⟩=some (.int .i64 f1)∧y.cell? ⟨b10,1,none⟩=some (.int .i64 f1)∧y.cell? ⟨b9,3,none⟩=some (.slice os1 ns1 cs1)∧y.cell? ⟨b10,3,none⟩=some (.slice os2 (ns1 + 1) cs2)) :=
            hide (fun y hy=>have h:=(un HCL) y (hkd.trans hy); ⟨h.1,h.2.1,h.2.2,hy.cell (cell_lays l9 1),hy.cell (cell_lays l10 1),hy.cell (cell_lays l9 3),hy.cell (cell_lays l10 3)⟩)
          have h1:=(un HI1).kept ((un HKB).trans hkd)
          have h2:=(un HI2).kept ((un HKB).trans hkd)
          have HJ1:=hide h1
          have HJ2:=hide h2
          have HKW:=hide ((un HK).trans hkd)
          have hc2:ns1≤cs2:=by have:=un HCAP; omega
          have hw1:IntKind.i64.wrap ((ns1:Int) + 1)=(ns1:Int) + 1:=wrap_tiny _ (by omega) (by omega)
          have hw2:(((ns1 + 1:Nat):Int) == (ns1:Int) + 1)=true:=by rw [beq_iff_eq]; omega
          clear l9 l10 hkd HC h1 h2 HCL HF HI1 HI2 HCAP
          go_wp2_with fail
          refine wp_region_held_drew (S:=fun y=>y.cell? ⟨B1,0,none⟩=some (.slice (some ⟨br,or,none⟩) na ca)∧y.cell? ⟨B0,1,none⟩=some (.int .i64 (i:Int))∧y.cell? ⟨br,or + i * 2 + 1,none⟩=some (.int .i64 (-1))∧y.cell? ⟨b9,1,none⟩=some (.int .i64 f1)∧y.cell? ⟨b10,1,none⟩=some (.int .i64 f1)∧y.cell? ⟨b9,3,none⟩=some (.slice os1 ns1 cs1)∧y.cell? ⟨b10,3,none⟩=some (.slice os2 (ns1 + 1) cs2)) (by kernel_rfl) ((un HY) _ (Kept.drew (Kept.refl _))) (fun hHeld=>?_)
          refine take_one (i:=0) rfl (by kernel_rfl) (fun K hK=>?_)
          go_simp
          refine ((un HRB) _ ((un HKW).drew)).mono ?_
          rintro e wA ⟨rfl,hkA⟩
          refine hK.out _ _ ((un HY) _ (((Kept.refl _).drew).trans hkA)) (fun hHeld=>?_)
          clear hK K
          try simp only [PS]
          refine planY [1,2,3,4,5,6,7,8,9,10,11,12,13,14,15,16,17,18,19,20,21,22,23,24,25,26,27,28,29,30,31,32,33,34,35,36] ?_
          repeat
            refine takeY (v:=?_) hHeld (fun u hSu=>?_) ?_
            rotate_left
            · ((try dsimp only at hSu); go_simp) <;> with_reducible rfl
            try simp only [PS]
          refine endY ?_
          refine take_one (i:=37) rfl (by kernel_rfl) (fun K hK=>?_)
          go_simp
          refine ((un HSI) _ _ _ _ ((un HJ2).kept (((Kept.refl _).drew).trans hkA)) ((un HJ1).kept (((Kept.refl _).drew).trans hkA))).mono ?_
          rintro e wB ⟨rfl,hkB⟩
          refine hK.out _ _ ((un HY) _ ((((Kept.refl _).drew).trans hkA).trans hkB)) (fun hHeld=>?_)
          clear hK K
          try simp only [PS]
          refine planY [38,39] ?_
          repeat
            refine takeY (v:=?_) hHeld (fun u hSu=>?_) ?_
            rotate_left
            · ((try dsimp only at hSu); go_simp) <;> with_reducible rfl
            try simp only [PS]
          refine endY ?_
          refine wpAnyH_done (by kernel_rfl) ?_ _
          go_wp2_with fail
          go_ret
          exact ⟨rfl,(((un HKW).drew).trans hkA).trans hkB⟩
      · exact absurd hca hne
    · have hca':((fibAt s i).caller == (j:Int))=false:=by rw [beq_eq_false_iff_ne]; exact hca
      rcases un HG5 with ⟨he,_⟩ | ⟨_,hrc,hsc⟩
      · exact absurd he hca
      · rw [hsc] at y1
        rw [hrc] at z1
        generalize (fibAt s i).caller=cc at *
        have HY:Hid (∀ y,Kept xa y→y.cell? ⟨B1,0,none⟩=some (.slice (some ⟨br,or,none⟩) na ca)∧y.cell? ⟨B1,1,none⟩=some (.int .i64 (j:Int))∧y.cell? ⟨B0,0,none⟩=some (.slice (some ⟨bs,os,none⟩) N cap)∧y.cell? ⟨B0,1,none⟩=some (.int .i64 (i:Int))∧y.cell? ⟨br,or + j * 2 + 1,none⟩=some (.int .i64 (i:Int))∧y.cell? ⟨bs,os + j * 2 + 1,none⟩=some (.int .i64 (-1))) :=
          hide (fun y hy=>⟨hy.cell b0,hy.cell b1,hy.cell a0,hy.cell a1,hy.cell z1,hy.cell y1⟩)
        clear hca hrc hsc
        go_quiet (fail)
        go_wp2_with fail
        refine wp_region_held_drew (S:=fun y=>y.cell? ⟨B1,0,none⟩=some (.slice (some ⟨br,or,none⟩) na ca)∧y.cell? ⟨B1,1,none⟩=some (.int .i64 (j:Int))∧y.cell? ⟨B0,0,none⟩=some (.slice (some ⟨bs,os,none⟩) N cap)∧y.cell? ⟨B0,1,none⟩=some (.int .i64 (i:Int))∧y.cell? ⟨br,or + j * 2 + 1,none⟩=some (.int .i64 (i:Int))∧y.cell? ⟨bs,os + j * 2 + 1,none⟩=some (.int .i64 (-1))) (by kernel_rfl) ((un HY) _ (Kept.drew ((Kept.refl xa).drewN _))) (fun hHeld=>?_)
        refine take_one (i:=0) rfl (by kernel_rfl) (fun K hK=>?_)
        go_simp
        refine ((un HRB) _ (((un HK).drewN _).drew)).mono ?_
        rintro e wA ⟨rfl,hkA⟩
        refine hK.out _ _ ((un HY) _ ((((Kept.refl xa).drewN _).drew).trans hkA)) (fun hHeld=>?_)
        clear hK K
        try simp only [PS]
        refine planY [1,2,3,4,5,6,7,8,9,10,11,12,13,14,15,16,17,18,19,20,21,22,23] ?_
        repeat
          refine takeY (v:=?_) hHeld (fun u hSu=>?_) ?_
          rotate_left
          · ((try dsimp only at hSu); go_simp) <;> with_reducible rfl
          try simp only [PS]
        refine endY ?_
        refine wpAnyH_done (by kernel_rfl) ?_ _
        go_wp2_with fail
        go_ret
        exact ⟨rfl,(((un HK).drewN _).drew).trans hkA⟩
  · refine back_cases hq (fun h1=>?_) (fun h1 h2=>?_) (fun h1 h2 h3=>?_) (fun h1 h2 h3 h4=>?_)
    all_goals
      go_wp2_with fail
      refine ((un HRB) _ ((un HK).alloc _)).mono ?_
      rintro _ w3 ⟨rfl,hk⟩
      replace HK:=hide (((un HK).alloc _).trans hk)
      clear hk
      go_wp2
      go_ret
      exact ⟨rfl,un HK⟩
end Go.Proofs.YtadckjclgakcaaaGreatDoor
