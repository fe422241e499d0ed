/- StateN, EngX, Same, SameW, FlowH0, EngY, GoodF, RunSt, RunP, SameS, RunLs, OpAr, StepA, StepB -/
import Derived.Test.YtogcfkmekdpmmaaDoorFB29
import Derived.Test.YtogcfkmekdpmmaaDoorFB11
import Derived.Test.YtogcfkmekdpmmaaDoorFB08
import Derived.Test.YtogcfkmekdpmmaaDoorFB15
import Derived.Test.YtogcfkmekdpmmaaDoorStX
import Derived.Test.YtogcfkmekdpmmaaDoorFB22
import Derived.Deep.RegionHeld3
import Derived.Deep.DeepCutAuto
import Derived.Test.YtogcfkmekdpmmaaDoorFB01
import Derived.Test.YtogcfkmekdpmmaaDoorFB12
import Derived.Test.YtogcfkmekdpmmaaDoorFB16
import Derived.StillTailTactics
set_option maxRecDepth 100000
set_option maxHeartbeats 8000000
namespace Go.Proofs.YtogcfkmekdpmmaaDoor
open Go.RowKit
def BegPost (p:List Fn) (w:World) (e:Ending) (w':World):Prop :=
 ∃ v,e=.returned (.tuple #[v,.int .i64 (progS p)])∧StAt w' v (if progS p=0 then beginS p else St.zero)∧Kept w w'
theorem zero_at (w:World):StAt w (.agg #[.slice none 0 0,.int .i64 0,.slice none 0 0]) St.zero:=⟨_,_,rfl,FibersAt.nil _,IntsW.nil _⟩
theorem begin_bad (p:List Fn) (vp:Value) (w:World) (hp:ProgAt w vp p) (hk:KindsAt w) (hz:progS p≠0) :
  Calls Tryd.prog 24 #[vp] w fun e w'=>BegPost p w e w':=by
 have hc:∀ u,Kept w u→Calls Tryd.prog 20 #[vp] u fun e w'=>e=.returned (.int .i64 (progS p))∧Kept u w':=fun u hu=>progCheck_any p vp u (hp.kept hu) (hk.kept hu)
 have hzb:(progS p != 0)=true:=by rw [bne_iff_ne]; exact hz
 have hif:(if progS p=0 then beginS p else St.zero)=St.zero:=if_neg hz
 unfold BegPost
 rw [hif]
 have HC:=hide hc
 generalize progS p=r at *
 clear hc hp hk hz hif
 go_enter Tryd.func24,Tryd.ntmps24
 go_wp2_with fail
 refine ((un HC) _ ((Kept.refl w).alloc _)).mono ?_
 rintro e w1 ⟨rfl,hk1⟩
 have L0:w1.heap[w.heap.size]?=some (.cells #[.slice none 0 0,.int .i64 0,.slice none 0 0] 52):=lays_kept hk1 (lays_new rfl)
 have a0:w1.cell? ⟨w.heap.size,0,none⟩=some (.slice none 0 0):=cell_at L0 rfl
 have a1:w1.cell? ⟨w.heap.size,1,none⟩=some (.int .i64 0):=cell_at L0 rfl
 have a2:w1.cell? ⟨w.heap.size,2,none⟩=some (.slice none 0 0):=cell_at L0 rfl
 have f0:=frozen_lays L0 0
 have f1:=frozen_lays L0 1
 have f2:=frozen_lays L0 2
 have HL:=hide L0
 have HK1:=hide (((Kept.refl w).alloc _).trans hk1)
 clear L0 hk1
 go_wp2
 have M0:=lays_set (lays_set (lays_set (un HL) 0 (.slice none 0 0)) 1 (.int .i64 0)) 2 (.slice none 0 0)
 have HKw:=hide (((((un HK1).setCell (p:=⟨w.heap.size,0,none⟩) (Nat.le_refl _) (.slice none 0 0)).setCell (p:=⟨w.heap.size,1,none⟩) (Nat.le_refl _) (.int .i64 0)).setCell (p:=⟨w.heap.size,2,none⟩) (Nat.le_refl _) (.slice none 0 0)))
 generalize ((w1.setCell ⟨w.heap.size,0,none⟩ (.slice none 0 0)).setCell ⟨w.heap.size,1,none⟩ (.int .i64 0)).setCell ⟨w.heap.size,2,none⟩ (.slice none 0 0)=w2 at *
 have k0:w2.cell? ⟨w.heap.size,0,none⟩=some (.slice none 0 0):=cell_at M0 (by simp)
 have k1:w2.cell? ⟨w.heap.size,1,none⟩=some (.int .i64 0):=cell_at M0 (by simp)
 have k2:w2.cell? ⟨w.heap.size,2,none⟩=some (.slice none 0 0):=cell_at M0 (by simp)
 refine bodyPost_ret (v:=.tuple #[.agg #[.slice none 0 0,.int .i64 0,.slice none 0 0],.int .i64 r]) (by simp [results,Tryd.results24,go_sem,k0,k1,k2]) rfl ?_
 exact ⟨_,rfl,zero_at _,un HKw⟩
theorem begin_go (p:List Fn) (b o n cp lo:Nat) (w:World) (hp:ProgAt w (.slice (some ⟨b,o,none⟩) n cp) p) (hk:KindsAt w) (hz:progS p=0)
  (c1:w.cell? ⟨b,o + 1,none⟩=some (.int .i64 lo)) (hn:0 < n) (hlo:lo≤1000) :
  Calls Tryd.prog 24 #[.slice (some ⟨b,o,none⟩) n cp] w fun e w'=>∃ v,e=.returned (.tuple #[v,.int .i64 0])∧StAt w' v ⟨[⟨[⟨0,0,List.replicate lo 0,[]⟩],-1⟩],0,[]⟩∧Kept w w':=by
 have hc:∀ u,Kept w u→Calls Tryd.prog 20 #[.slice (some ⟨b,o,none⟩) n cp] u fun e w'=>e=.returned (.int .i64 0)∧Kept u w':=fun u hu=>by
  have:=progCheck_any p _ u (hp.kept hu) (hk.kept hu)
  rwa [hz] at this
 have HC:=hide hc
 have hmk:=make_ints lo (by omega)
 have hn1:(0:Int) < (n:Int):=by omega
 have HC1:=hide c1
 have lb:=cell_lt c1
 simp only at lb
 clear hc hp hk hz c1
 go_enter Tryd.func24,Tryd.ntmps24
 go_wp2_with fail
 refine ((un HC) _ ((Kept.refl w).alloc _)).mono ?_
 rintro e w1 ⟨rfl,hk1⟩
 have L0:w1.heap[w.heap.size]?=some (.cells #[.slice none 0 0,.int .i64 0,.slice none 0 0] 52):=lays_kept hk1 (lays_new rfl)
 have c1:w1.cell? ⟨b,o + 1,none⟩=some (.int .i64 lo):=(((Kept.refl w).alloc _).trans hk1).cell (un HC1)
 have a0:w1.cell? ⟨w.heap.size,0,none⟩=some (.slice none 0 0):=cell_at L0 rfl
 have a1:w1.cell? ⟨w.heap.size,1,none⟩=some (.int .i64 0):=cell_at L0 rfl
 have a2:w1.cell? ⟨w.heap.size,2,none⟩=some (.slice none 0 0):=cell_at L0 rfl
 have f0:=frozen_lays L0 0
 have f1:=frozen_lays L0 1
 have f2:=frozen_lays L0 2
 have HL:=hide L0
 have HK1:=hide (((Kept.refl w).alloc _).trans hk1)
 have l1:w.heap.size < w1.heap.size:=(Array.getElem?_eq_some_iff.1 L0).1
 have lb1:b < w1.heap.size:=by omega
 have g0:∀ o1 o2 o3 o4,((((w1.alloc o1).alloc o2).alloc o3).alloc o4).cell? ⟨w.heap.size,0,none⟩=some (.slice none 0 0):=fun o1 o2 o3 o4=>cell_at (lays_alloc (lays_alloc (lays_alloc (lays_alloc L0 o1) o2) o3) o4) rfl
 have h0:∀ o1 o2 o3 o4,((((w1.alloc o1).alloc o2).alloc o3).alloc o4).frozen? ⟨w.heap.size,0,none⟩=false:=fun o1 o2 o3 o4=>frozen_lays (lays_alloc (lays_alloc (lays_alloc (lays_alloc L0 o1) o2) o3) o4) 0
 have g1:∀ o1 o2 o3 o4,((((w1.alloc o1).alloc o2).alloc o3).alloc o4).cell? ⟨w.heap.size,1,none⟩=some (.int .i64 0):=fun o1 o2 o3 o4=>cell_at (lays_alloc (lays_alloc (lays_alloc (lays_alloc L0 o1) o2) o3) o4) rfl
 have h1:∀ o1 o2 o3 o4,((((w1.alloc o1).alloc o2).alloc o3).alloc o4).frozen? ⟨w.heap.size,1,none⟩=false:=fun o1 o2 o3 o4=>frozen_lays (lays_alloc (lays_alloc (lays_alloc (lays_alloc L0 o1) o2) o3) o4) 1
 have g2:∀ o1 o2 o3 o4,((((w1.alloc o1).alloc o2).alloc o3).alloc o4).cell? ⟨w.heap.size,2,none⟩=some (.slice none 0 0):=fun o1 o2 o3 o4=>cell_at (lays_alloc (lays_alloc (lays_alloc (lays_alloc L0 o1) o2) o3) o4) rfl
 have h2:∀ o1 o2 o3 o4,((((w1.alloc o1).alloc o2).alloc o3).alloc o4).frozen? ⟨w.heap.size,2,none⟩=false:=fun o1 o2 o3 o4=>frozen_lays (lays_alloc (lays_alloc (lays_alloc (lays_alloc L0 o1) o2) o3) o4) 2
 clear L0 hk1
 go_wp2
 have hrep:Array.replicate lo (Value.int .i64 0)=(ints (List.replicate lo 0)).toArray:=by simp [ints]
 rw [hrep]
 generalize hB:w1.heap.size=B1 at *
 generalize hA:w.heap.size=A0 at *
 have N1:((((w1.alloc (.cells (ints (List.replicate lo 0)).toArray 3)).alloc (.cells #[.int .i64 0,.int .i64 0,.slice (some ⟨B1,0,none⟩) lo lo,.slice none 0 0] 76)).alloc (.cells #[.int .i64 0,.int .i64 0,.slice (some ⟨B1,0,none⟩) lo lo,.slice none 0 0] 76)).alloc (.cells #[.slice (some ⟨B1 + 1 + 1,0,none⟩) 1 1,.int .i64 (-1)] 79)).heap[B1]?=some (.cells (ints (List.replicate lo 0)).toArray 3):=lays_alloc (lays_alloc (lays_alloc (lays_new hB) _) _) _
 have N2:((((w1.alloc (.cells (ints (List.replicate lo 0)).toArray 3)).alloc (.cells #[.int .i64 0,.int .i64 0,.slice (some ⟨B1,0,none⟩) lo lo,.slice none 0 0] 76)).alloc (.cells #[.int .i64 0,.int .i64 0,.slice (some ⟨B1,0,none⟩) lo lo,.slice none 0 0] 76)).alloc (.cells #[.slice (some ⟨B1 + 1 + 1,0,none⟩) 1 1,.int .i64 (-1)] 79)).heap[B1 + 1 + 1]?=some (.cells #[.int .i64 0,.int .i64 0,.slice (some ⟨B1,0,none⟩) lo lo,.slice none 0 0] 76):=lays_alloc (lays_new (by simp [hB])) _
 have N3:((((w1.alloc (.cells (ints (List.replicate lo 0)).toArray 3)).alloc (.cells #[.int .i64 0,.int .i64 0,.slice (some ⟨B1,0,none⟩) lo lo,.slice none 0 0] 76)).alloc (.cells #[.int .i64 0,.int .i64 0,.slice (some ⟨B1,0,none⟩) lo lo,.slice none 0 0] 76)).alloc (.cells #[.slice (some ⟨B1 + 1 + 1,0,none⟩) 1 1,.int .i64 (-1)] 79)).heap[B1 + 1 + 1 + 1]?=some (.cells #[.slice (some ⟨B1 + 1 + 1,0,none⟩) 1 1,.int .i64 (-1)] 79):=lays_new (by simp [hB])
 have N0:=lays_alloc (lays_alloc (lays_alloc (lays_alloc (un HL) (.cells (ints (List.replicate lo 0)).toArray 3)) (.cells #[.int .i64 0,.int .i64 0,.slice (some ⟨B1,0,none⟩) lo lo,.slice none 0 0] 76)) (.cells #[.int .i64 0,.int .i64 0,.slice (some ⟨B1,0,none⟩) lo lo,.slice none 0 0] 76)) (.cells #[.slice (some ⟨B1 + 1 + 1,0,none⟩) 1 1,.int .i64 (-1)] 79)
 have NK:=((((un HK1).alloc (.cells (ints (List.replicate lo 0)).toArray 3)).alloc (.cells #[.int .i64 0,.int .i64 0,.slice (some ⟨B1,0,none⟩) lo lo,.slice none 0 0] 76)).alloc (.cells #[.int .i64 0,.int .i64 0,.slice (some ⟨B1,0,none⟩) lo lo,.slice none 0 0] 76)).alloc (.cells #[.slice (some ⟨B1 + 1 + 1,0,none⟩) 1 1,.int .i64 (-1)] 79)
 clear g0 g1 g2 h0 h1 h2
 generalize (((w1.alloc (.cells (ints (List.replicate lo 0)).toArray 3)).alloc (.cells #[.int .i64 0,.int .i64 0,.slice (some ⟨B1,0,none⟩) lo lo,.slice none 0 0] 76)).alloc (.cells #[.int .i64 0,.int .i64 0,.slice (some ⟨B1,0,none⟩) lo lo,.slice none 0 0] 76)).alloc (.cells #[.slice (some ⟨B1 + 1 + 1,0,none⟩) 1 1,.int .i64 (-1)] 79)=wz at *
 have far:∀ {bb:Nat} {ob:Obj},A0 < bb→wz.heap[bb]?=some ob→(((wz.setCell ⟨A0,0,none⟩ (.slice (some ⟨B1 + 1 + 1 + 1,0,none⟩) 1 1)).setCell ⟨A0,1,none⟩ (.int .i64 0)).setCell ⟨A0,2,none⟩ (.slice none 0 0)).heap[bb]?=some ob:=fun hlt h =>
  lays_other (lays_other (lays_other h (a:=⟨A0,0,none⟩) (Nat.ne_of_gt hlt) _) (a:=⟨A0,1,none⟩) (Nat.ne_of_gt hlt) _) (a:=⟨A0,2,none⟩) (Nat.ne_of_gt hlt) _
 have R1:=far l1 N1
 have R2:=far (by omega) N2
 have R3:=far (by omega) N3
 have M0:=lays_set (lays_set (lays_set N0 0 (.slice (some ⟨B1 + 1 + 1 + 1,0,none⟩) 1 1)) 1 (.int .i64 0)) 2 (.slice none 0 0)
 have hle:w.heap.size≤A0:=by omega
 have HKw:=hide (((NK.setCell (p:=⟨A0,0,none⟩) hle (.slice (some ⟨B1 + 1 + 1 + 1,0,none⟩) 1 1)).setCell (p:=⟨A0,1,none⟩) hle (.int .i64 0)).setCell (p:=⟨A0,2,none⟩) hle (.slice none 0 0))
 clear far N0 N1 N2 N3 NK
 generalize ((wz.setCell ⟨A0,0,none⟩ (.slice (some ⟨B1 + 1 + 1 + 1,0,none⟩) 1 1)).setCell ⟨A0,1,none⟩ (.int .i64 0)).setCell ⟨A0,2,none⟩ (.slice none 0 0)=w2 at *
 have k0:w2.cell? ⟨A0,0,none⟩=some (.slice (some ⟨B1 + 1 + 1 + 1,0,none⟩) 1 1):=cell_at M0 (by simp)
 have k1:w2.cell? ⟨A0,1,none⟩=some (.int .i64 0):=cell_at M0 (by simp)
 have k2:w2.cell? ⟨A0,2,none⟩=some (.slice none 0 0):=cell_at M0 (by simp)
 refine bodyPost_ret (v:=.tuple #[.agg #[.slice (some ⟨B1 + 1 + 1 + 1,0,none⟩) 1 1,.int .i64 0,.slice none 0 0],.int .i64 0]) (by simp [results,Tryd.results24,go_sem,k0,k1,k2]) rfl ?_
 exact ⟨_,rfl,begin_at R1 R2 R3 hlo,un HKw⟩
theorem stBegin_any (p:List Fn) (vp:Value) (w:World) (hp:ProgAt w vp p) (hk:KindsAt w) :
  Calls Tryd.prog 24 #[vp] w fun e w'=>BegPost p w e w':=by
 by_cases hz:progS p=0
 ·unfold BegPost
  rw [if_pos hz,hz]
  obtain ⟨_,hp0,hck⟩:=progS_right hz
  obtain ⟨oa,cp,rfl,_,hcell⟩:=id hp
  obtain ⟨b,o,cv,rfl,_,c1,_,_⟩:=hcell 0 _ (getD_of_lt p 0 Fn.zero hp0)
  have hroom:0≤(p.getD 0 Fn.zero).locals∧(p.getD 0 Fn.zero).locals≤4:=by
   obtain ⟨i,hi,_,_,hr,_⟩:=chkS_zero (hck 0 hp0)
   obtain rfl:i=0:=by omega
   have:=roomB_iff.1 hr
   omega
  obtain ⟨lo,hlo⟩:∃ lo:Nat,(p.getD 0 Fn.zero).locals=lo:=⟨(p.getD 0 Fn.zero).locals.toNat,by omega⟩
  unfold beginS
  rw [hlo] at c1 hroom ⊢
  rw [Int.toNat_natCast]
  exact begin_go p b o _ cp lo w hp hk hz (by simpa using c1) hp0 (by omega)
 ·exact begin_bad p vp w hp hk hz
def allS (p:List Fn) (fuel:Int):List Int × Nat × Int :=
 if inB fuel 0 500=true then if progS p=0 then ((rnS p (beginS p) fuel).1.out,(rnS p (beginS p) fuel).2.1,(rnS p (beginS p) fuel).2.2) else ([],0,progS p) else ([],0,3)
def AlPost (r:List Int × Nat × Int) (w:World) (e:Ending) (w':World):Prop :=
 ∃ v,e=.returned (.tuple #[v,.int .i64 r.2.1,.int .i64 r.2.2])∧w'.ownsRow w.heap.size 3 1 v r.1.length (ints r.1)∧Kept w w'
theorem all_far (vp:Value) (fuel:Int) (w:World) (hin:inB fuel 0 500=false):Calls Tryd.prog 8 #[vp,.int .i64 fuel] w (AlPost ([],0,3) w):=by
 go_enter Tryd.func8,Tryd.ntmps8
 go_wp2_with (go_at_call 23; refine (isFuel_any _ _).mono ?_; rw [hin]; rintro e w' ⟨rfl,rfl⟩)
 refine bodyPost_ret (v:=.tuple #[.slice none 0 0,.int .i64 0,.int .i64 3]) (by simp [results,Tryd.results8,go_sem]) rfl ?_
 exact ⟨_,rfl,World.ownsRow_nil _ _ _ _,Kept.refl _⟩
theorem all_bad (vp:Value) (fuel:Int) (w:World) (er:Int) (he:er≠0) (hin:inB fuel 0 500=true)
  (HB:Hid (Calls Tryd.prog 24 #[vp] w fun e w'=>∃ v,e=.returned (.tuple #[v,.int .i64 er])∧(∃ oa n cap c oo m co,v=.agg #[.slice oa n cap,.int .i64 c,.slice oo m co])∧Kept w w')):Calls Tryd.prog 8 #[vp,.int .i64 fuel] w (AlPost ([],0,er) w):=by
 go_enter Tryd.func8,Tryd.ntmps8
 go_wp2_with (first | (go_at_call 23; refine (isFuel_any _ _).mono ?_; rw [hin]; rintro e w' ⟨rfl,rfl⟩) | (go_at_call 24; refine (un HB).mono ?_; rintro e w1 ⟨v,rfl,⟨oa,n,cap,c,oo,m,co,rfl⟩,hk1⟩; have HK1:=hide hk1; clear hk1 HB))
 refine bodyPost_ret (v:=.tuple #[.slice none 0 0,.int .i64 0,.int .i64 er]) (by simp [results,Tryd.results8,go_sem]) rfl ?_
 exact ⟨_,rfl,World.ownsRow_nil _ _ _ _,(un HK1).alloc _⟩
theorem all_go (s:St) (r:St × Nat × Int) (vp:Value) (fuel:Int) (w:World) (hin:inB fuel 0 500=true)
  (HB:Hid (Calls Tryd.prog 24 #[vp] w fun e w'=>∃ v,e=.returned (.tuple #[v,.int .i64 0])∧StAt w' v s∧Kept w w'))
  (HRU:Hid (∀ u v,Kept w u→StAt u v s→Calls Tryd.prog 25 #[vp,v,.int .i64 fuel] u (RnPost r u))):Calls Tryd.prog 8 #[vp,.int .i64 fuel] w (AlPost (r.1.out,r.2.1,r.2.2) w):=by
 go_enter Tryd.func8,Tryd.ntmps8
 go_wp2_with (go_at_call 23; refine (isFuel_any _ _).mono ?_; rw [hin]; rintro e w' ⟨rfl,rfl⟩; refine un ?_)
 refine hide ?_
 go_wp2_with fail
 refine (un HB).mono ?_
 rintro e w1 ⟨v,rfl,hs,hk1⟩
 have HS:=hide hs
 obtain ⟨vf,vo,rfl,⟨oa,cap,rfl,_,_⟩,⟨oo,co,rfl,_,_⟩⟩:=hs
 have hgo:=fun o=>(un HRU) (w1.alloc o) _ (hk1.alloc o) ((un HS).kept ((Kept.refl w1).alloc o))
 have HGO:=hide hgo
 have HK1:=hide hk1
 clear hgo hk1 HB HRU HS
 generalize s.fibers.length=N at *
 generalize s.out.length=M at *
 generalize s.now=c at *
 go_wp2_with fail
 refine ((un HGO) _).mono ?_
 rintro e w2 ⟨V,rfl,ho,hk2⟩
 obtain ⟨xs,hr,_⟩:=ho.piece .fibers trivial
 obtain ⟨o1,c1,e1,_⟩:=row_slice hr
 have hr2:World.ownsRow _ _ _ _ _ _ _:=ho.piece .out trivial
 obtain ⟨o2,c2,e2,_⟩:=row_slice hr2
 have l2:=lays_kept hk2 (lays_new (w:=w1) (o:=.cells #[.slice oa N cap,.int .i64 c,.slice oo M co] 52) rfl)
 have a0:=cell_lays l2 0
 have a1:=cell_lays l2 1
 have a2:=cell_lays l2 2
 have f0:=frozen_lays l2 0
 have f1:=frozen_lays l2 1
 have f2:=frozen_lays l2 2
 have hz:(w1.alloc (.cells #[.slice oa N cap,.int .i64 c,.slice oo M co] 52)).heap.size=w1.heap.size + 1:=by simp
 have hne:(V .out).ownBlock≠some w1.heap.size:=fun e=>by have:=(hr2.lt _ e).1; omega
 have t2:=ownsRow_setCell_other (ownsRow_setCell_other (ownsRow_setCell_other (row_base (base:=w.heap.size) hr2 (by have:=(un HK1).size; omega)) (a:=⟨w1.heap.size,0,none⟩) hne (V .fibers)) (a:=⟨w1.heap.size,1,none⟩) hne (.int .i64 r.1.now)) (a:=⟨w1.heap.size,2,none⟩) hne (V .out)
 have hk5:=(((((un HK1).alloc (.cells #[.slice oa N cap,.int .i64 c,.slice oo M co] 52)).trans hk2).setCell (p:=⟨w1.heap.size,0,none⟩) (un HK1).size (V .fibers)).setCell (p:=⟨w1.heap.size,1,none⟩) (un HK1).size (.int .i64 r.1.now)).setCell (p:=⟨w1.heap.size,2,none⟩) (un HK1).size (V .out)
 rw [e1,e2] at t2 hk5 ⊢
 have HT:=hide (And.intro t2 hk5)
 clear t2 hk5 hz hne hr hr2 e1 e2 l2 ho hk2 HGO HK1
 generalize hL:r.1.out.length=L at *
 generalize r.1.fibers.length=N1 at *
 generalize r.1.now=rn at *
 go_wp2
 refine bodyPost_ret (v:=.tuple #[.slice o2 L c2,.int .i64 r.2.1,.int .i64 r.2.2]) (by simp [results,Tryd.results8,go_sem]) rfl ?_
 exact ⟨_,rfl,by rw [hL]; exact (un HT).1,(un HT).2⟩
theorem runAll_any (p:List Fn) (vp:Value) (fuel:Int) (w:World) (hp:ProgAt w vp p) (hkd:KindsAt w):Calls Tryd.prog 8 #[vp,.int .i64 fuel] w (AlPost (allS p fuel) w):=by
 have HB:=stBegin_any p vp w hp hkd
 unfold allS
 by_cases hin:inB fuel 0 500=true
 ·rw [if_pos hin]
  by_cases h0:progS p=0
  ·rw [if_pos h0]
   refine all_go (beginS p) _ vp fuel w hin (hide (HB.mono ?_)) (hide (fun u v hu hs=>runRun_any p _ vp v fuel u (hp.kept hu) hs (hkd.kept hu)))
   rintro e w' ⟨v,rfl,hs,hk⟩
   rw [if_pos h0] at hs
   exact ⟨v,by rw [h0],hs,hk⟩
  ·rw [if_neg h0]
   refine all_bad vp fuel w _ h0 hin (hide (HB.mono ?_))
   rintro e w' ⟨v,rfl,hs,hk⟩
   obtain ⟨vf,vo,rfl,⟨oa,cap,rfl,_,_⟩,⟨oo,co,rfl,_,_⟩⟩:=hs
   exact ⟨_,rfl,⟨_,_,_,_,_,_,_,rfl⟩,hk⟩
 ·rw [if_neg hin]
  exact all_far vp fuel w (by simpa using hin)
theorem sameFrom {l1 l2:List Int} (hl:l1.length=l2.length) (h:∀ i,i < l1.length→l1.getD i 0=l2.getD i 0):l1=l2:=by
 apply List.ext_getElem hl
 intro k h1 h2
 have:=h k h1
 simpa [List.getD,h1,h2] using this
theorem sameInts_w (l1 l2:List Int) (v1 v2:Value) (w:World) (h1:IntsW w v1 l1) (h2:IntsW w v2 l2) :
  Calls Tryd.prog 11 #[v1,v2] w fun e w'=>e=.returned (.bool (decide (l1=l2)))∧Kept w w':=by
 obtain ⟨oa,ca,rfl,n1,i1⟩:=h1
 obtain ⟨ob,cb,rfl,n2,i2⟩:=h2
 by_cases hl:l1.length=l2.length
 ·have HI1:=hide i1
  have HI2:=hide i2
  have HL:=hide hl
  have hl':((l1.length:Int) != (l2.length:Int))=false:=by rw [hl]; simp
  clear i1 i2 hl
  go_enter Tryd.func11,Tryd.ntmps11
  go_wp2
  go_loopw [5] (fun s5 wr=>∃ k:Nat,k≤l1.length∧s5=.int .i64 k∧Hid (∀ i,i < k→l1.getD i 0=l2.getD i 0)∧Hid (Kept w wr)) (fun s5 _=>l1.length - (intOf s5).toNat)
  case atStart=>exact ⟨0,Nat.zero_le _,rfl,(fun i hi=>by omega),Kept.refl _⟩
  case round =>
   obtain ⟨k,hkm,rfl,HA,HKr⟩:=hrel
   by_cases hlt:k < l1.length
   ·have hlt2:k < l2.length:=by have:=un HL; omega
    obtain ⟨b1,o1,e1,c1⟩:=(un HI1) k _ (getD_of_lt l1 k 0 hlt)
    obtain ⟨b2,o2,e2,c2⟩:=(un HI2) k _ (getD_of_lt l2 k 0 hlt2)
    have d1:=(un HKr).cell c1
    have d2:=(un HKr).cell c2
    generalize hz1:l1.getD k 0=z1 at *
    generalize hz2:l2.getD k 0=z2 at *
    have Z1:=hide hz1
    have Z2:=hide hz2
    subst e1 e2
    clear c1 c2 hz1 hz2
    by_cases hz:z1=z2
    ·have hzb:(z1 != z2)=false:=by rw [hz]; simp
     have HZ:=hide hz
     clear hz
     go_wp2
     go_quiet (fail)
     go_wp2
     go_roundw
     case rel =>
      refine ⟨k + 1,by omega,by go_num,?_,(un HKr).drewN _⟩
      intro i hi
      by_cases e:i=k
      ·subst e; rw [un Z1,un Z2,un HZ]
      ·exact (un HA) i (by omega)
     case measure=>simp [intOf]; omega
    ·have hzb:(z1 != z2)=true:=by rw [bne_iff_ne]; exact hz
     have HZ:=hide hz
     clear hz
     go_wp2
     go_quiet (fail)
     go_wp2
     go_ret
     refine ⟨?_,(un HKr).drewN _⟩
     rw [decide_eq_false]
     ·rfl
     ·intro e
      apply un HZ
      rw [← un Z1,← un Z2,e]
   ·go_wp2
    go_ret
    refine ⟨?_,un HKr⟩
    rw [decide_eq_true]
    ·rfl
    ·exact sameFrom (un HL) (fun i hi=>(un HA) i (by omega))
 ·have hl':((l1.length:Int) != (l2.length:Int))=true:=by rw [bne_iff_ne]; omega
  have HL:=hide hl
  clear i1 i2 hl
  go_enter Tryd.func11,Tryd.ntmps11
  go_wp2
  go_ret
  refine ⟨?_,Kept.refl _⟩
  rw [decide_eq_false]
  ·rfl
  ·intro e; exact (un HL) (by rw [e])
theorem one_prog {w:World} {b0 b n:Nat} {c:List (Int × Int)} {A:Array Value} (h0:w.heap[b0]?=some (.cells A 61)) (hA:A=(flatOps c).toArray) (hl:c.length≤8796093022208) (hn:n=c.length)
  (h:w.heap[b]?=some (.cells #[.int .i64 0,.int .i64 0,.slice (some ⟨b0,0,none⟩) n n] 33)):ProgAt w (.slice (some ⟨b,0,none⟩) 1 1) [⟨0,0,c⟩]:=by
 refine progAt_block h [(⟨0,0,c⟩,.slice (some ⟨b0,0,none⟩) n n)] rfl (by simp) ?_ 1 1 rfl _ rfl
 intro x hx
 simp only [List.mem_cons,List.not_mem_nil,or_false] at hx
 subst hx
 exact codeAt_block h0 c hA hl n n hn
theorem ints_block {w:World} {b n:Nat} {l:List Int} {A:Array Value} (h:w.heap[b]?=some (.cells A 3)) (hA:A=(l.map fun z=>Value.int .i64 z).toArray) (hl:l.length≤8796093022208) (hn:n=l.length):IntsAt w (.slice (some ⟨b,0,none⟩) n n) l:=by
 subst hA hn
 refine ⟨_,_,rfl,hl,fun i z hz=>⟨b,0,rfl,?_⟩⟩
 rw [cell_lays h,Nat.zero_add]
 simp [hz]
theorem cnt_ok:progS cntL=0:=by decide +kernel
theorem b_all:allS cntL 99=([7,8,99],28,0):=by decide +kernel
theorem b_run:(rnS cntL (beginS cntL) 6).2=(6,0)∧(rnS cntL (beginS cntL) 6).1.now=1:=by decide +kernel
theorem b_far:allS cntL 501=([],0,3):=by decide +kernel
theorem b_alone:allS [⟨0,0,[(0,1),(15,0),(12,0)]⟩] 9=([],1,7):=by decide +kernel
theorem runBegun_any (w:World) (hk:KindsAt w):Calls Tryd.prog 10 #[] w fun e w'=>e=.returned (.bool true)∧Kept w w':=by
 have HK:=hide hk
 clear hk
 go_enter Tryd.func10,Tryd.ntmps10
 go_wp2_with fail
 refine (count_any _).mono ?_
 rintro _ w1 ⟨v1,rfl,hc1,hk1⟩
 have h1:=runAll_any cntL v1 99 w1 hc1.prog ((un HK).kept hk1)
 unfold AlPost at h1
 rw [b_all] at h1
 have H1:=hide h1
 have HK1:=hide hk1
 clear h1 hc1 hk1
 go_wp2_with fail
 refine (un H1).mono ?_
 rintro _ w2 ⟨vl,rfl,hr2,hk2⟩
 have HI2:=hide (ints_row hr2 (by decide))
 have HK2:=hide ((un HK1).trans hk2)
 clear hr2 hk2 H1 HK1
 go_wp2_with fail
 refine (count_any _).mono ?_
 rintro _ w3 ⟨v3,rfl,hc3,hk3⟩
 have HP3:=hide hc3.prog
 have HI3:=hide ((un HI2).kept hk3)
 have HK3:=hide ((un HK2).trans hk3)
 clear hc3 hk3 HI2 HK2
 go_wp2_with fail
 refine (count_any _).mono ?_
 rintro _ w4 ⟨v4,rfl,hc4,hk4⟩
 have HB4:=hide (beginOf_any cntL v4 w4 hc4.prog cnt_ok)
 have HP4:=hide ((un HP3).kept hk4)
 have HI4:=hide ((un HI3).kept hk4)
 have HK4:=hide ((un HK3).trans hk4)
 clear hc4 hk4 HI3 HK3 HP3
 go_wp2_with fail
 refine (un HB4).mono ?_
 rintro _ w5 ⟨vs,rfl,hs5,hk5⟩
 have h5:=runRun_any cntL (beginS cntL) v3 vs 6 w5 ((un HP4).kept hk5) hs5 ((un HK).kept ((un HK4).trans hk5))
 unfold RnPost at h5
 rw [b_run.1,b_run.2] at h5
 have H5:=hide h5
 have HI5:=hide ((un HI4).kept hk5)
 have HK5:=hide ((un HK4).trans hk5)
 clear h5 hs5 hk5 HI4 HK4 HP4 HB4
 go_wp2_with fail
 refine (un H5).mono ?_
 rintro _ w6 ⟨V6,rfl,ho6,hk6⟩
 obtain ⟨xs6,hr6,_⟩:=ho6.piece .fibers trivial
 obtain ⟨o6,c6,E6,_⟩:=row_slice hr6
 have hr7:=ho6.piece .out trivial
 obtain ⟨o7,c7,E7,_⟩:=row_slice hr7
 rw [E6,E7]
 generalize (rnS cntL (beginS cntL) 6).1.fibers.length=N6 at *
 generalize (rnS cntL (beginS cntL) 6).1.out.length=M6 at *
 have HI6:=hide ((un HI5).kept hk6)
 have HK6:=hide ((un HK5).trans hk6)
 clear hr6 hr7 E6 E7 ho6 hk6 HI5 HK5 H5
 go_wp2_with fail
 have hx6:(w6.alloc (.cells #[.slice o6 N6 c6,.int .i64 1,.slice o7 M6 c7] 52)).heap[w6.heap.size]?=some (.cells #[.slice o6 N6 c6,.int .i64 1,.slice o7 M6 c7] 52):=lays_new rfl
 have hkx:Kept w6 (w6.alloc (.cells #[.slice o6 N6 c6,.int .i64 1,.slice o7 M6 c7] 52)):=(Kept.refl w6).alloc _
 generalize hwx:w6.alloc (.cells #[.slice o6 N6 c6,.int .i64 1,.slice o7 M6 c7] 52)=wx at *
 have HX:=hide hx6
 have HIX:=hide ((un HI6).kept hkx)
 have HKX:=hide ((un HK6).trans hkx)
 clear hwx hx6 hkx HI6 HK6
 refine (count_any _).mono ?_
 rintro _ w7 ⟨v7,rfl,hc7,hk7⟩
 have h7:=runAll_any cntL v7 501 w7 hc7.prog ((un HK).kept ((un HKX).trans hk7))
 unfold AlPost at h7
 rw [b_far] at h7
 have H7:=hide h7
 have HX7:=hide (lays_kept hk7 (un HX))
 have HI7:=hide ((un HIX).kept hk7)
 have HK7:=hide ((un HKX).trans hk7)
 clear h7 hc7 hk7 HX HIX HKX
 go_wp2_with fail
 refine (un H7).mono ?_
 rintro _ w8 ⟨v8,rfl,_,hk8⟩
 have HX8:=hide (lays_kept hk8 (un HX7))
 have HI8:=hide ((un HI7).kept hk8)
 have HK8:=hide ((un HK7).trans hk8)
 clear hk8 H7 HX7 HI7 HK7
 go_wp2_with (go_at_call 31; refine (o_any _ _ _).mono ?_; rintro e w' ⟨rfl,rfl⟩)
 have hkA:=((((((Kept.refl w8).alloc (.cells #[.int .i64 0,.int .i64 1] 61)).alloc (.cells #[.int .i64 15,.int .i64 0] 61)).alloc (.cells #[.int .i64 12,.int .i64 0] 61)).alloc (.cells #[.int .i64 0,.int .i64 1,.int .i64 15,.int .i64 0,.int .i64 12,.int .i64 0] 61)).alloc (.cells #[.int .i64 0,.int .i64 0,.slice (some ⟨w8.heap.size + 1 + 1 + 1,0,none⟩) 3 3] 33))
 have h9:=runAll_any [⟨0,0,[(0,1),(15,0),(12,0)]⟩] (.slice (some ⟨w8.heap.size + 1 + 1 + 1 + 1,0,none⟩) 1 1) 9 _ (one_prog (b0:=w8.heap.size + 1 + 1 + 1) (b:=w8.heap.size + 1 + 1 + 1 + 1) (lays_alloc (lays_new (by simp)) _) rfl (by decide) rfl (lays_new (by simp))) ((un HK).kept ((un HK8).trans hkA))
 unfold AlPost at h9
 rw [b_alone] at h9
 refine h9.mono ?_
 rintro _ w9 ⟨v9,rfl,hr9,hk9⟩
 obtain ⟨o9,c9,rfl,_⟩:=row_slice hr9
 have hk89:=hkA.trans hk9
 have HX9:=hide (lays_kept hk89 (un HX8))
 have HI9:=hide ((un HI8).kept hk89)
 have HK9:=hide ((un HK8).trans hk89)
 clear hkA h9 hr9 hk9 hk89 HX8 HI8 HK8
 go_wp2_with fail
 have hkB:=(Kept.refl w9).alloc (.cells #[.int .i64 7,.int .i64 8,.int .i64 99] 3)
 refine (sameInts_w [7,8,99] [7,8,99] _ _ _ ((un HI9).kept hkB) ((ints_block (lays_new rfl) rfl (by decide) rfl).wide)).mono ?_
 rintro _ wE ⟨rfl,hkE⟩
 have hk9E:=hkB.trans hkE
 have lE:=lays_kept hk9E (un HX9)
 have z1:wE.cell? ⟨w6.heap.size,1,none⟩=some (.int .i64 1):=cell_lays lE 1
 have HKE:=hide ((un HK9).trans hk9E)
 clear hkB hkE hk9E lE HX9 HI9 HK9
 rw [show decide ([7,8,99]=([7,8,99]:List Int))=true by decide]
 go_wp2
 go_ret
 exact ⟨rfl,un HKE⟩
theorem begin_begun (p:List Fn):beginS p=⟨[⟨[begunS p 0 []],-1⟩],0,[]⟩:=by simp [beginS,begunS]
theorem begin_right {p:List Fn} (h:progS p=0):stErrS p (beginS p)=0:=by
 obtain ⟨_,h0,_⟩:=progS_right h
 have hl:0≤(p.getD 0 Fn.zero).locals:=by have:=room_of h h0; omega
 obtain ⟨hf,hh⟩:=frame_begun h (f:=0) (by omega) (by omega) (vals:=[]) (by simpa using hl)
 refine good_right (l:=[0]) ⟨h,by simp [beginS],by simp [beginS],fun k hk=>?_,?_,by simp,.inr rfl,by simp [beginS],fun hn=>absurd (by simp) hn,fun k hk=>?_⟩
 ·obtain rfl:k=0:=by simp [beginS] at hk; omega
  simp [fibAt,beginS]
 ·simp [Path,beginS,callerOf]
 ·obtain rfl:k=0:=by simp [beginS] at hk; omega
  rw [begin_begun]
  simp [fibAt,fiberB,framesB,hf,hh]
  rfl
theorem rnS_small {p:List Fn} {s:St} {f:Int}:Small (rnS p s f).1:=by
 have hz:Small St.zero:=by unfold Small St.zero; simp
 unfold rnS
 split
 ·split
  ·rename_i h; exact right_small (run_right _ h)
  ·exact hz
 ·exact hz
theorem own_st {base:Nat} {w:World} {V:Key→Value} {s:St} (h:Own base w V s) (hs:Small s):∃ oa n cap c oo m co,(.agg #[V .fibers,.int .i64 s.now,V .out]:Value)=.agg #[.slice oa n cap,.int .i64 c,.slice oo m co]∧StAt w (.agg #[.slice oa n cap,.int .i64 c,.slice oo m co]) s:=by
 obtain ⟨xs,hr,_⟩:=h.piece .fibers trivial
 obtain ⟨o3,c3,E3,_⟩:=row_slice hr
 have hr4:=h.piece .out trivial
 obtain ⟨o4,c4,E4,_⟩:=row_slice hr4
 have:=h.reads hs
 rw [E3,E4] at this
 exact ⟨_,_,_,_,_,_,_,by rw [E3,E4],this⟩
theorem runRun_st (p:List Fn) (s:St) (vp vs:Value) (fuel:Int) (w:World) (hp:ProgAt w vp p) (hs:StAt w vs s) (hkd:KindsAt w) :
  Calls Tryd.prog 25 #[vp,vs,.int .i64 fuel] w fun e w'=>∃ oa n cap c oo m co,e=.returned (.tuple #[.agg #[.slice oa n cap,.int .i64 c,.slice oo m co],.int .i64 (rnS p s fuel).2.1,.int .i64 (rnS p s fuel).2.2])∧StAt w' (.agg #[.slice oa n cap,.int .i64 c,.slice oo m co]) (rnS p s fuel).1∧Kept w w':=by
 refine (runRun_any p s vp vs fuel w hp hs hkd).mono ?_
 rintro e w' ⟨V,rfl,ho,hk⟩
 obtain ⟨oa,n,cap,c,oo,m,co,h1,h2⟩:=own_st ho rnS_small
 exact ⟨oa,n,cap,c,oo,m,co,by rw [h1],h2,hk⟩
theorem all_small {p:List Fn} {f:Int}:(allS p f).1.length≤1000:=by
 unfold allS
 split
 ·split
  ·exact rnS_small.2.1
  ·simp
 ·simp
theorem runAll_gives (p:List Fn) (vp:Value) (fuel:Int) (w:World) (hp:ProgAt w vp p) (hkd:KindsAt w):GivesInts 8 #[vp,.int .i64 fuel] w (allS p fuel).1 [.int .i64 (allS p fuel).2.1,.int .i64 (allS p fuel).2.2]:=by
 refine (runAll_any p vp fuel w hp hkd).mono ?_
 rintro e w' ⟨v,rfl,hr,hk⟩
 obtain ⟨oa,cap,rfl,_⟩:=row_slice hr
 exact ⟨oa,_,cap,rfl,rfl,row_cap hr,ints_row hr all_small,hk⟩
theorem runRun_gives (p:List Fn) (s:St) (vp vs:Value) (fuel:Int) (w:World) (hp:ProgAt w vp p) (hs:StAt w vs s) (hkd:KindsAt w):GivesSt 25 #[vp,vs,.int .i64 fuel] w (rnS p s fuel).1 [.int .i64 (rnS p s fuel).2.1,.int .i64 (rnS p s fuel).2.2]:=runRun_st p s vp vs fuel w hp hs hkd
theorem sameInts_is (l:List Int) (u:World) (v1 v2:Value) (h1:IntsW u v1 l) (h2:IntsW u v2 l):Calls Tryd.prog 11 #[v1,v2] u fun e w'=>e=.returned (.bool true)∧Kept u w':=by
 refine (sameInts_w l l v1 v2 u h1 h2).mono ?_
 rintro e w' ⟨rfl,h⟩
 exact ⟨by rw [decide_eq_true rfl],h⟩
theorem run_in {p:List Fn} {s:St} {m:Nat} (hm:m≤500) (h0:stErrS p s=0):rnS p s m=runS p m s:=by
 unfold rnS
 rw [if_pos (inB_true (by omega) (by omega)),if_pos h0]
 rfl
theorem all_in {p:List Fn} {m:Nat} (hm:m≤500) (h0:progS p=0):allS p m=((runS p m (beginS p)).1.out,(runS p m (beginS p)).2):=by
 unfold allS
 rw [if_pos (inB_true (by omega) (by omega)),if_pos h0,run_in hm (begin_right h0)]
theorem right_over {p:List Fn} {s:St} (h:stErrS p s=0) (hn:s.now < 0):s.now=-1:=by
 have:=(limS_zero (right_parts h).2.1).2.2.2.2.1
 omega
theorem within_any (i l n:Int) (w:World) :
  Calls Tryd.prog 26 #[.int .i64 i,.int .i64 l,.int .i64 n] w fun e w'=>e=.returned (.bool (inB i l n))∧w=w':=by
 by_cases h1:l≤i
 ·by_cases h2:i≤n
  ·rw [inB_true h1 h2]
   go_enter Tryd.func26,Tryd.ntmps26
   go_wp2
   go_ret
   exact ⟨rfl,rfl⟩
  ·rw [inB_false (by omega)]
   go_enter Tryd.func26,Tryd.ntmps26
   go_wp2
   go_ret
   exact ⟨rfl,rfl⟩
 ·rw [inB_false (by omega)]
  go_enter Tryd.func26,Tryd.ntmps26
  go_wp2
  go_ret
  exact ⟨rfl,rfl⟩
def Turned (base bs:Nat) (s':St) (r:Value) (w:World) (e:Ending) (w':World):Prop:=e=.returned r∧∃ V',OwnVar base w' bs V' s'∧Below base w w'
theorem top_any (bs N capF gF i q cap g:Nat) (w:World) (hi:i < N) (hq:0 < q) (hqs:q≤1000)
  (c0:w.cell? ⟨bs,0,none⟩=some (.slice (some ⟨gF,0,none⟩) N capF)) (c1:w.cell? ⟨gF,i * 2,none⟩=some (.slice (some ⟨g,0,none⟩) q cap)) :
  Calls Tryd.prog 90 #[.pointer (some ⟨bs,0,none⟩),.int .i64 i] w fun e w'=>e=.returned (.pointer (some ⟨g,(q - 1) * 4,none⟩))∧∃ m,w'=w.drewN m:=by
 obtain ⟨t,rfl⟩:∃ t,q=t + 1:=⟨q - 1,by omega⟩
 have hi1:(i:Int) < (N:Int):=by omega
 have hi0:(0:Int)≤(i:Int):=by omega
 have hw:IntKind.i64.wrap (((t + 1:Nat):Int) - 1)=(t:Int):=by rw [IntKind.wrap_i64]; omega
 have hw2:IntKind.i64.wrap ((t:Int) + 1 - 1)=(t:Int):=by rw [IntKind.wrap_i64]; omega
 have ht:(t:Int) + 1 - 1=(t:Int):=by omega
 have ht1:(t:Int) < (t:Int) + 1:=by omega
 have ht0:(0:Int)≤(t:Int):=by omega
 go_enter Tryd.func90,Tryd.ntmps90
 go_wp2
 go_quiet (fail)
 go_wp2
 go_ret
 exact ⟨rfl,_,rfl⟩
theorem top_own {base bs:Nat} {w:World} {V:Key→Value} {s:St} (h:OwnVar base w bs V s) {i:Nat} (hi:i < s.fibers.length) (hq:0 < (fibAt s i).frames.length) (hqs:(fibAt s i).frames.length≤1000) :
  ∃ g cap,V (.frames i)=.slice (some ⟨g,0,none⟩) (fibAt s i).frames.length cap∧Calls Tryd.prog 90 #[.pointer (some ⟨bs,0,none⟩),.int .i64 i] w fun e w'=>e=.returned (.pointer (some ⟨g,((fibAt s i).frames.length - 1) * 4,none⟩))∧∃ m,w'=w.drewN m:=by
 obtain ⟨gF,capF,eF,_,k0,_⟩:=h.own.fib hi
 obtain ⟨g,cap,eg,_,_⟩:=h.own.fr hi (j:=0) hq
 obtain ⟨c0,_⟩:=h.cells
 rw [eF] at c0
 rw [eg] at k0
 exact ⟨g,cap,eg,top_any bs _ capF gF i _ cap g w hi hq hqs c0 k0⟩
theorem push_any (base bs:Nat) (V:Key→Value) (s:St) (i:Nat) (z:Int) (w:World) (h:OwnVar base w bs V s) (hi:i < s.fibers.length) (hq:0 < (fibAt s i).frames.length) (hqs:(fibAt s i).frames.length≤1000) (hst:(frAt s i ((fibAt s i).frames.length - 1)).stack.length≤1000) :
  Calls Tryd.prog 91 #[.pointer (some ⟨bs,0,none⟩),.int .i64 i,.int .i64 z] w fun e w'=>Turned base bs (pushV s i z) (.tuple #[]) w e w':=by
 obtain ⟨i0,hi0,hz0,hz1,hz2⟩:=info_parts infoInt
 obtain ⟨g,cap,eg,htop⟩:=top_own h hi hq hqs
 unfold pushV
 rw [turnTop_setFr]
 generalize hj:(fibAt s i).frames.length - 1=j at *
 have hjl:j < (fibAt s i).frames.length:=by omega
 have HT:=hide htop
 have HO:=hide h
 have HEG:=hide eg
 clear htop h
 go_enter Tryd.func91,Tryd.ntmps91
 go_wp2_with fail
 refine (un HT).mono ?_
 rintro e w1 ⟨rfl,m,rfl⟩
 generalize hw1:w.drewN m=w1
 have ho1:OwnVar base w1 bs V s:=(un HO).same (by rw [← hw1]; rfl)
 have hb1:Below base w w1:=by rw [← hw1]; exact below_drewN (Below.refl _ w) m
 obtain ⟨g',cap',eg',_,f0,f1,f2,f3,ffz,hbg⟩:=ho1.own.fr hi hjl
 rw [un HEG] at eg'
 obtain ⟨⟨rfl⟩,-,rfl⟩:=(by simpa using eg':(g=g')∧True∧cap=cap')
 have hs:=ho1.own.stk hi hjl
 have hlg:=cell_lt f0
 simp only at hlg
 have hbw:base≤w1.heap.size:=by omega
 have hgs:(V (.stack i j)).ownBlock≠some g:=fun e=>by
  have:=ho1.own.apart (.stack i j) (.frames i) g ⟨hi,hjl⟩ hi e (by rw [un HEG]; rfl)
  cases this
 have HO1:=hide ho1
 have HB1:=hide hb1
 have HS:=hide hs
 have hfz:=ffz (j * 4 + 3)
 generalize hvs:V (.stack i j)=vs0 at *
 have HVS:=hide hvs
 generalize hl:(frAt s i j).stack=l at *
 have HL:=hide hl
 clear hw1 hb1 ho1 hvs hl hs f0 f1 f2 ffz eg'
 go_wp2_with (at_builtin; refine wpList_append_own_at _ rfl _ _ 23 rfl base 3 i0 (.int .i64 0) 1 8 Tryd.underlying23 hi0 hz0 hz1 hz2 rfl (by decide) _ _ _ rfl ((un HS).alloc _) ⟨w1.heap.size,0,none⟩ 1 1 [.int .i64 z] rfl rfl (new_one _ _ _) (int_one _) (by unfold maxLen; omega) (by omega) (by simp; omega) ?_; intro v' w2 hown' hgrow _ hat; obtain ⟨o2,c2,rfl,-⟩:=row_slice hown'; have g3:w2.cell? ⟨g,j * 4 + 3,none⟩=some vs0:=hgrow.cell (((Kept.refl w1).alloc _).cell f3) (fun e=>hgs e.symm); have gz:w2.frozen? ⟨g,j * 4 + 3,none⟩=false:=(World.frozen?_of_block (hgrow.block g (by simp; omega) (fun e=>hgs e.symm))).trans ((World.frozen?_of_block (Below.heap_alloc w1 _ g hlg)).trans hfz); have HOW:=hide hown'; have HGR:=hide hgrow; have HAT:=hide hat; clear hown' hgrow hat)
 go_end0
 have hfin:=((un HO1).alloc (.cells #[.int .i64 z] 3)).turnStack (w2:=w2) hi hjl (un HEG) (.slice o2 (l.length + 1) c2) (l++[z]) (by rw [un HVS]; exact un HGR) (by rw [ints_append,List.length_append]; exact un HOW) (by rw [un HVS]; exact un HAT)
 unfold Turned
 refine ⟨rfl,upd V (.stack i j) (.slice o2 (l.length + 1) c2),?_,?_⟩
 ·rw [un HL]
  exact hfin.1
 ·exact Below.trans (un HB1) (Below.trans (Below.alloc (Below.refl _ w1) hbw _) hfin.2)
def Pulled (base bs:Nat) (s':St) (r:Value) (V:Key→Value) (i:Nat) (w:World) (e:Ending) (w':World):Prop :=
 e=.returned r∧∃ V',OwnVar base w' bs V' s'∧Below base w w'∧V' (.frames i)=V (.frames i)∧(∀ k,(V' k).ownBlock=(V k).ownBlock)∧∀ b,(V (.frames i)).ownBlock≠some b→w'.heap[b]?=w.heap[b]?
theorem pull_sharp (base bs:Nat) (V:Key→Value) (s:St) (i:Nat) (w:World) (h:OwnVar base w bs V s) (hn:s.now=i) (hi:i < s.fibers.length) (hq:0 < (fibAt s i).frames.length) (hqs:(fibAt s i).frames.length≤1000) (hst:(frAt s i ((fibAt s i).frames.length - 1)).stack.length≤1000) (hst0:0 < (frAt s i ((fibAt s i).frames.length - 1)).stack.length) :
  Calls Tryd.prog 92 #[.pointer (some ⟨bs,0,none⟩)] w fun e w'=>Pulled base bs (pullV s) (.int .i64 (lastV s)) V i w e w':=by
 obtain ⟨g,cap,eg,htop⟩:=top_own h hi hq hqs
 have hlast:lastV s=(frAt s i ((fibAt s i).frames.length - 1)).stack.getD ((frAt s i ((fibAt s i).frames.length - 1)).stack.length - 1) 0:=by
  unfold lastV St.top St.fib
  rw [hn,Int.toNat_natCast,show s.fibers.getD i Fb.zero=fibAt s i from rfl,top_frAt,List.getLast?_eq_getElem?]
  rfl
 have hpull:pullV s=setFr s i ((fibAt s i).frames.length - 1) { frAt s i ((fibAt s i).frames.length - 1) with stack:=(frAt s i ((fibAt s i).frames.length - 1)).stack.dropLast }:=by
  unfold pullV
  rw [hn,turnTop_setFr]
 rw [hpull]
 generalize hzz:lastV s=z at *
 clear hpull hzz
 generalize hj:(fibAt s i).frames.length - 1=j at *
 have hjl:j < (fibAt s i).frames.length:=by omega
 obtain ⟨_,c1,_,_⟩:=h.cells
 rw [hn] at c1
 have HT:=hide htop
 have HO:=hide h
 have HEG:=hide eg
 clear htop h
 go_enter Tryd.func92,Tryd.ntmps92
 go_wp2_with fail
 refine (un HT).mono ?_
 rintro e w1 ⟨rfl,m,rfl⟩
 generalize hw1:w.drewN m=w1
 have ho1:OwnVar base w1 bs V s:=(un HO).same (by rw [← hw1]; rfl)
 have hb1:Below base w w1:=by rw [← hw1]; exact below_drewN (Below.refl _ w) m
 have HSM:Hid (w1.heap=w.heap):=by rw [← hw1]; exact hide rfl
 obtain ⟨g',cap',eg',_,f0,f1,f2,f3,ffz,hbg⟩:=ho1.own.fr hi hjl
 rw [un HEG] at eg'
 obtain ⟨⟨rfl⟩,-,rfl⟩:=(by simpa using eg':(g=g')∧True∧cap=cap')
 have hs:=ho1.own.stk hi hjl
 obtain ⟨gs,cs,es,hcs,hcell,_,_⟩:=row_some hs hst0
 have hfz:=ffz (j * 4 + 3)
 have HO1:=hide ho1
 have HB1:=hide hb1
 rw [es] at f3 hs
 have HS:=hide hs
 have HES:=hide es
 have hlt:(frAt s i j).stack.length - 1 < (frAt s i j).stack.length:=by omega
 have hcl:=hcell ((frAt s i j).stack.length - 1) (.int .i64 ((frAt s i j).stack.getD ((frAt s i j).stack.length - 1) 0)) (ints_at (getD_of_lt _ _ 0 hlt))
 generalize hl:(frAt s i j).stack=l at *
 have HL:=hide hl
 obtain ⟨t,ht⟩:∃ t,l.length=t + 1:=⟨l.length - 1,by omega⟩
 rw [← hlast] at hcl
 rw [ht] at f3 hcl
 simp only [Nat.add_sub_cancel] at hcl
 have hw:IntKind.i64.wrap ((t:Int) + 1 - 1)=(t:Int):=by rw [IntKind.wrap_i64]; omega
 have hts:(t:Int) + 1 - 1=(t:Int):=by omega
 have ht1:(t:Int) < (t:Int) + 1:=by omega
 have ht0:(0:Int)≤(t:Int):=by omega
 have htc:(t:Int)≤(cs:Int):=by omega
 have HTL:=hide ht
 clear hw1 hb1 ho1 es hl hs f0 f1 f2 ffz eg' hcell hlast
 go_wp2
 go_quiet (fail)
 go_wp2
 generalize hw3:w1.drewN nq=w3
 have ho3:OwnVar base w3 bs V s:=(un HO1).same (by rw [← hw3]; rfl)
 have k3:w3.cell? ⟨g,j * 4 + 3,none⟩=some (.slice (some ⟨gs,0,none⟩) (t + 1) cs):=by rw [← hw3]; exact f3
 have kz:w3.frozen? ⟨g,j * 4 + 3,none⟩=false:=by rw [← hw3]; exact hfz
 have HB3:Hid (Below base w w3):=by rw [← hw3]; exact hide (below_drewN (un HB1) nq)
 have HSM3:Hid (w3.heap=w.heap):=by rw [← hw3]; exact hide (un HSM)
 have HO3:=hide ho3
 clear hw3 ho3 f3 hfz hcl HB1 HO1
 go_region
 all_goals go_wp2_with fail
 go_ret
 have hdl:l.dropLast=l.take t:=by rw [List.dropLast_eq_take,un HTL,Nat.add_sub_cancel]
 have hrow:w3.ownsRow base 3 1 (.slice (some ⟨gs,0,none⟩) t cs) (l.take t).length (ints (l.take t)):=by
  have h3:=(un HO3).own.stk hi hjl
  rw [un HES,un HL] at h3
  have hlt':(l.take t).length=t:=by rw [List.length_take]; have:=un HTL; omega
  rw [hlt']
  exact row_cut h3 rfl t (by have:=un HTL; omega)
 have hfin:=(un HO3).turnStack (w2:=w3) hi hjl (un HEG) (.slice (some ⟨gs,0,none⟩) t cs) (l.take t) (grown_refl _ _) hrow (.inl (by rw [un HES]; rfl))
 unfold Pulled
 refine ⟨rfl,upd V (.stack i j) (.slice (some ⟨gs,0,none⟩) t cs),?_,?_,upd_ne V _ (by simp),fun k=>?_,fun b hb=>?_⟩
 ·rw [un HL,hdl]
  exact OwnVar.same hfin.1 rfl
 ·exact Below.drew (Below.trans (un HB3) hfin.2)
 ·by_cases e:k=.stack i j
  ·subst e; rw [upd_same,un HES]; rfl
  ·rw [upd_ne V _ e]
 ·show (w3.setCell _ _).heap[b]?=_
  rw [Below.heap_setCell _ _ _ _ (fun e=>hb (by rw [un HEG]; exact congrArg some e.symm)),un HSM3]
theorem pull_any (base bs:Nat) (V:Key→Value) (s:St) (i:Nat) (w:World) (h:OwnVar base w bs V s) (hn:s.now=i) (hi:i < s.fibers.length) (hq:0 < (fibAt s i).frames.length) (hqs:(fibAt s i).frames.length≤1000) (hst:(frAt s i ((fibAt s i).frames.length - 1)).stack.length≤1000) (hst0:0 < (frAt s i ((fibAt s i).frames.length - 1)).stack.length) :
  Calls Tryd.prog 92 #[.pointer (some ⟨bs,0,none⟩)] w fun e w'=>Turned base bs (pullV s) (.int .i64 (lastV s)) w e w' :=
 (pull_sharp base bs V s i w h hn hi hq hqs hst hst0).mono fun _ _ ⟨h1,V',h2,h3,_⟩=>⟨h1,V',h2,h3⟩
def PutPost (base bs:Nat) (s:St) (v:Int) (w:World) (e:Ending) (w':World):Prop :=
 e=.returned (.int .i64 (putS s v).2)∧Below base w w'∧((putS s v).2=0→∃ V',OwnVar base w' bs V' (putS s v).1)
theorem put_any (base bs:Nat) (V:Key→Value) (s:St) (z:Int) (w:World) (h:OwnVar base w bs V s) (ho:s.out.length≤30) :
  Calls Tryd.prog 97 #[.pointer (some ⟨bs,0,none⟩),.int .i64 z] w fun e w'=>PutPost base bs s z w e w':=by
 obtain ⟨i0,hi0,hz0,hz1,hz2⟩:=info_parts infoInt
 obtain ⟨_,_,c2,fz⟩:=h.cells
 have hs:w.ownsRow base 3 1 (V .out) s.out.length (ints s.out):=h.own.piece .out trivial
 have hbsw:=lt_of_block h.var
 have hlow:=h.low
 have hbs:(V .out).ownBlock≠some bs:=h.off .out trivial
 have f2:=fz 2
 obtain ⟨oo,co,eo,hrow⟩:=row_slice hs
 have HO:=hide h
 have HS:=hide hs
 have HEO:=hide eo
 rw [eo] at c2
 clear h fz hrow
 by_cases h30:s.out.length=30
 ·have hp:putS s z=(St.zero,2):=by unfold putS; rw [if_pos h30]
  have HP:=hide hp
  rw [h30] at c2
  clear hp h30
  go_enter Tryd.func97,Tryd.ntmps97
  go_wp2
  go_ret
  exact ⟨by rw [un HP]; rfl,Below.refl _ _,fun e=>by rw [un HP] at e; cases e⟩
 ·have hp:putS s z=({ s with out:=s.out++[z] },0):=by unfold putS; rw [if_neg h30]
  have HP:=hide hp
  have hb:((s.out.length:Int) == 30)=false:=by rw [beq_eq_false_iff_ne]; omega
  rw [eo] at hs hbs
  have HS2:=hide hs
  have hlw:base≤w.heap.size:=by omega
  clear hp hs
  generalize hl:s.out=l at *
  have HL:=hide hl
  clear hl
  go_enter Tryd.func97,Tryd.ntmps97
  go_wp2_with (at_builtin; refine wpList_append_own_at _ rfl _ _ 23 rfl base 3 i0 (.int .i64 0) 1 8 Tryd.underlying23 hi0 hz0 hz1 hz2 rfl (by decide) _ _ _ rfl ((un HS2).alloc _) ⟨w.heap.size,0,none⟩ 1 1 [.int .i64 z] rfl rfl (new_one _ _ _) (int_one _) (by unfold maxLen; omega) (by omega) (by simp; omega) ?_; intro v' w2 hown' hgrow _ hat; obtain ⟨o2,q2,rfl,-⟩:=row_slice hown'; have g2:w2.cell? ⟨bs,2,none⟩=some (.slice oo l.length co):=hgrow.cell (((Kept.refl w).alloc _).cell c2) (fun e=>hbs e.symm); have gz:w2.frozen? ⟨bs,2,none⟩=false:=(World.frozen?_of_block (hgrow.block bs (by simp; omega) (fun e=>hbs e.symm))).trans ((World.frozen?_of_block (Below.heap_alloc w _ bs hbsw)).trans f2); have HOW:=hide hown'; have HGR:=hide hgrow; have HAT:=hide hat; clear hown' hgrow hat)
  go_ret
  have hfin:=((un HO).alloc (.cells #[.int .i64 z] 3)).turnOut (w2:=w2) (l++[z]) (.slice o2 (l.length + 1) q2) (by rw [un HEO]; exact un HGR) (by rw [ints_append,List.length_append]; exact un HOW) (by rw [un HEO]; exact un HAT)
  refine ⟨by rw [un HP]; rfl,Below.trans (Below.alloc (Below.refl _ w) hlw _) hfin.2,fun _=>⟨upd V .out (.slice o2 (l.length + 1) q2),?_⟩⟩
  rw [un HP]
  exact hfin.1
end Go.Proofs.YtogcfkmekdpmmaaDoor
