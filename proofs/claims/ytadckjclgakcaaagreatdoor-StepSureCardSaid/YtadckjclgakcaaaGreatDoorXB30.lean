/- StateN, EngX, Same, SameW, FlowH0, EngY, GoodF, RunSt, RunP, SameS, RunLs -/
import Derived.Test.YtadckjclgakcaaaGreatDoorXB29
import Derived.Test.YtadckjclgakcaaaGreatDoorXB11
import Derived.Test.YtadckjclgakcaaaGreatDoorXB08
import Derived.Test.YtadckjclgakcaaaGreatDoorXB15
import Derived.Test.YtadckjclgakcaaaGreatDoorStX
import Derived.Test.YtadckjclgakcaaaGreatDoorXB22
import Derived.Deep.RegionHeld3
import Derived.Deep.DeepCutAuto
set_option maxRecDepth 100000
set_option maxHeartbeats 8000000
namespace Go.Proofs.YtadckjclgakcaaaGreatDoor
open Go.RowKit
def BegPost (p:List Fn) (w:World) (e:Ending) (w':World):Prop :=
 ∃ v,e=.returned (.tuple #[v,.int .i64 (progS p)])∧StAt w' v (if progS p=0 then beginS p else St.zero)∧Kept w w'
theorem zero_at (w:World):StAt w (.agg #[.slice none 0 0,.int .i64 0,.slice none 0 0]) St.zero:=⟨_,_,rfl,FibersAt.nil _,IntsW.nil _⟩
theorem begin_bad (p:List Fn) (vp:Value) (w:World) (hp:ProgAt w vp p) (hk:KindsAt w) (hz:progS p≠0) :
  Calls Tryz.prog 55 #[vp] w fun e w'=>BegPost p w e w':=by
 have hc:∀ u,Kept w u→Calls Tryz.prog 27 #[vp] u fun e w'=>e=.returned (.int .i64 (progS p))∧Kept u w':=fun u hu=>progCheck_any p vp u (hp.kept hu) (hk.kept hu)
 have hzb:(progS p != 0)=true:=by rw [bne_iff_ne]; exact hz
 have hif:(if progS p=0 then beginS p else St.zero)=St.zero:=if_neg hz
 unfold BegPost
 rw [hif]
 have HC:=hide hc
 generalize progS p=r at *
 clear hc hp hk hz hif
 go_enter Tryz.func55,Tryz.ntmps55
 go_wp2_with fail
 refine ((un HC) _ ((Kept.refl w).alloc _)).mono ?_
 rintro e w1 ⟨rfl,hk1⟩
 have L0:w1.heap[w.heap.size]?=some (.cells #[.slice none 0 0,.int .i64 0,.slice none 0 0] 26):=lays_kept hk1 (lays_new rfl)
 have a0:w1.cell? ⟨w.heap.size,0,none⟩=some (.slice none 0 0):=cell_at L0 rfl
 have a1:w1.cell? ⟨w.heap.size,1,none⟩=some (.int .i64 0):=cell_at L0 rfl
 have a2:w1.cell? ⟨w.heap.size,2,none⟩=some (.slice none 0 0):=cell_at L0 rfl
 have f0:=frozen_lays L0 0
 have f1:=frozen_lays L0 1
 have f2:=frozen_lays L0 2
 have HL:=hide L0
 have HK1:=hide (((Kept.refl w).alloc _).trans hk1)
 clear L0 hk1
 go_wp2
 have M0:=lays_set (lays_set (lays_set (un HL) 0 (.slice none 0 0)) 1 (.int .i64 0)) 2 (.slice none 0 0)
 have HKw:=hide (((((un HK1).setCell (p:=⟨w.heap.size,0,none⟩) (Nat.le_refl _) (.slice none 0 0)).setCell (p:=⟨w.heap.size,1,none⟩) (Nat.le_refl _) (.int .i64 0)).setCell (p:=⟨w.heap.size,2,none⟩) (Nat.le_refl _) (.slice none 0 0)))
 generalize ((w1.setCell ⟨w.heap.size,0,none⟩ (.slice none 0 0)).setCell ⟨w.heap.size,1,none⟩ (.int .i64 0)).setCell ⟨w.heap.size,2,none⟩ (.slice none 0 0)=w2 at *
 have k0:w2.cell? ⟨w.heap.size,0,none⟩=some (.slice none 0 0):=cell_at M0 (by simp)
 have k1:w2.cell? ⟨w.heap.size,1,none⟩=some (.int .i64 0):=cell_at M0 (by simp)
 have k2:w2.cell? ⟨w.heap.size,2,none⟩=some (.slice none 0 0):=cell_at M0 (by simp)
 refine bodyPost_ret (v:=.tuple #[.agg #[.slice none 0 0,.int .i64 0,.slice none 0 0],.int .i64 r]) (by simp [results,Tryz.results55,go_sem,k0,k1,k2]) rfl ?_
 exact ⟨_,rfl,zero_at _,un HKw⟩
theorem begin_go (p:List Fn) (b o n cp lo:Nat) (w:World) (hp:ProgAt w (.slice (some ⟨b,o,none⟩) n cp) p) (hk:KindsAt w) (hz:progS p=0)
  (c1:w.cell? ⟨b,o + 1,none⟩=some (.int .i64 lo)) (hn:0 < n) (hlo:lo≤1000) :
  Calls Tryz.prog 55 #[.slice (some ⟨b,o,none⟩) n cp] w fun e w'=>∃ v,e=.returned (.tuple #[v,.int .i64 0])∧StAt w' v ⟨[⟨[⟨0,0,List.replicate lo 0,[]⟩],-1⟩],0,[]⟩∧Kept w w':=by
 have hc:∀ u,Kept w u→Calls Tryz.prog 27 #[.slice (some ⟨b,o,none⟩) n cp] u fun e w'=>e=.returned (.int .i64 0)∧Kept u w':=fun u hu=>by
  have:=progCheck_any p _ u (hp.kept hu) (hk.kept hu)
  rwa [hz] at this
 have HC:=hide hc
 have hmk:=make_ints lo (by omega)
 have hn1:(0:Int) < (n:Int):=by omega
 have HC1:=hide c1
 have lb:=cell_lt c1
 simp only at lb
 clear hc hp hk hz c1
 go_enter Tryz.func55,Tryz.ntmps55
 go_wp2_with fail
 refine ((un HC) _ ((Kept.refl w).alloc _)).mono ?_
 rintro e w1 ⟨rfl,hk1⟩
 have L0:w1.heap[w.heap.size]?=some (.cells #[.slice none 0 0,.int .i64 0,.slice none 0 0] 26):=lays_kept hk1 (lays_new rfl)
 have c1:w1.cell? ⟨b,o + 1,none⟩=some (.int .i64 lo):=(((Kept.refl w).alloc _).trans hk1).cell (un HC1)
 have a0:w1.cell? ⟨w.heap.size,0,none⟩=some (.slice none 0 0):=cell_at L0 rfl
 have a1:w1.cell? ⟨w.heap.size,1,none⟩=some (.int .i64 0):=cell_at L0 rfl
 have a2:w1.cell? ⟨w.heap.size,2,none⟩=some (.slice none 0 0):=cell_at L0 rfl
 have f0:=frozen_lays L0 0
 have f1:=frozen_lays L0 1
 have f2:=frozen_lays L0 2
 have HL:=hide L0
 have HK1:=hide (((Kept.refl w).alloc _).trans hk1)
 have l1:w.heap.size < w1.heap.size:=(Array.getElem?_eq_some_iff.1 L0).1
 have lb1:b < w1.heap.size:=by omega
 have g0:∀ o1 o2 o3 o4,((((w1.alloc o1).alloc o2).alloc o3).alloc o4).cell? ⟨w.heap.size,0,none⟩=some (.slice none 0 0):=fun o1 o2 o3 o4=>cell_at (lays_alloc (lays_alloc (lays_alloc (lays_alloc L0 o1) o2) o3) o4) rfl
 have h0:∀ o1 o2 o3 o4,((((w1.alloc o1).alloc o2).alloc o3).alloc o4).frozen? ⟨w.heap.size,0,none⟩=false:=fun o1 o2 o3 o4=>frozen_lays (lays_alloc (lays_alloc (lays_alloc (lays_alloc L0 o1) o2) o3) o4) 0
 have g1:∀ o1 o2 o3 o4,((((w1.alloc o1).alloc o2).alloc o3).alloc o4).cell? ⟨w.heap.size,1,none⟩=some (.int .i64 0):=fun o1 o2 o3 o4=>cell_at (lays_alloc (lays_alloc (lays_alloc (lays_alloc L0 o1) o2) o3) o4) rfl
 have h1:∀ o1 o2 o3 o4,((((w1.alloc o1).alloc o2).alloc o3).alloc o4).frozen? ⟨w.heap.size,1,none⟩=false:=fun o1 o2 o3 o4=>frozen_lays (lays_alloc (lays_alloc (lays_alloc (lays_alloc L0 o1) o2) o3) o4) 1
 have g2:∀ o1 o2 o3 o4,((((w1.alloc o1).alloc o2).alloc o3).alloc o4).cell? ⟨w.heap.size,2,none⟩=some (.slice none 0 0):=fun o1 o2 o3 o4=>cell_at (lays_alloc (lays_alloc (lays_alloc (lays_alloc L0 o1) o2) o3) o4) rfl
 have h2:∀ o1 o2 o3 o4,((((w1.alloc o1).alloc o2).alloc o3).alloc o4).frozen? ⟨w.heap.size,2,none⟩=false:=fun o1 o2 o3 o4=>frozen_lays (lays_alloc (lays_alloc (lays_alloc (lays_alloc L0 o1) o2) o3) o4) 2
 clear L0 hk1
 go_wp2
 have hrep:Array.replicate lo (Value.int .i64 0)=(ints (List.replicate lo 0)).toArray:=by simp [ints]
 rw [hrep]
 generalize hB:w1.heap.size=B1 at *
 generalize hA:w.heap.size=A0 at *
 have N1:((((w1.alloc (.cells (ints (List.replicate lo 0)).toArray 3)).alloc (.cells #[.int .i64 0,.int .i64 0,.slice (some ⟨B1,0,none⟩) lo lo,.slice none 0 0] 39)).alloc (.cells #[.int .i64 0,.int .i64 0,.slice (some ⟨B1,0,none⟩) lo lo,.slice none 0 0] 39)).alloc (.cells #[.slice (some ⟨B1 + 1 + 1,0,none⟩) 1 1,.int .i64 (-1)] 37)).heap[B1]?=some (.cells (ints (List.replicate lo 0)).toArray 3):=lays_alloc (lays_alloc (lays_alloc (lays_new hB) _) _) _
 have N2:((((w1.alloc (.cells (ints (List.replicate lo 0)).toArray 3)).alloc (.cells #[.int .i64 0,.int .i64 0,.slice (some ⟨B1,0,none⟩) lo lo,.slice none 0 0] 39)).alloc (.cells #[.int .i64 0,.int .i64 0,.slice (some ⟨B1,0,none⟩) lo lo,.slice none 0 0] 39)).alloc (.cells #[.slice (some ⟨B1 + 1 + 1,0,none⟩) 1 1,.int .i64 (-1)] 37)).heap[B1 + 1 + 1]?=some (.cells #[.int .i64 0,.int .i64 0,.slice (some ⟨B1,0,none⟩) lo lo,.slice none 0 0] 39):=lays_alloc (lays_new (by simp [hB])) _
 have N3:((((w1.alloc (.cells (ints (List.replicate lo 0)).toArray 3)).alloc (.cells #[.int .i64 0,.int .i64 0,.slice (some ⟨B1,0,none⟩) lo lo,.slice none 0 0] 39)).alloc (.cells #[.int .i64 0,.int .i64 0,.slice (some ⟨B1,0,none⟩) lo lo,.slice none 0 0] 39)).alloc (.cells #[.slice (some ⟨B1 + 1 + 1,0,none⟩) 1 1,.int .i64 (-1)] 37)).heap[B1 + 1 + 1 + 1]?=some (.cells #[.slice (some ⟨B1 + 1 + 1,0,none⟩) 1 1,.int .i64 (-1)] 37):=lays_new (by simp [hB])
 have N0:=lays_alloc (lays_alloc (lays_alloc (lays_alloc (un HL) (.cells (ints (List.replicate lo 0)).toArray 3)) (.cells #[.int .i64 0,.int .i64 0,.slice (some ⟨B1,0,none⟩) lo lo,.slice none 0 0] 39)) (.cells #[.int .i64 0,.int .i64 0,.slice (some ⟨B1,0,none⟩) lo lo,.slice none 0 0] 39)) (.cells #[.slice (some ⟨B1 + 1 + 1,0,none⟩) 1 1,.int .i64 (-1)] 37)
 have NK:=((((un HK1).alloc (.cells (ints (List.replicate lo 0)).toArray 3)).alloc (.cells #[.int .i64 0,.int .i64 0,.slice (some ⟨B1,0,none⟩) lo lo,.slice none 0 0] 39)).alloc (.cells #[.int .i64 0,.int .i64 0,.slice (some ⟨B1,0,none⟩) lo lo,.slice none 0 0] 39)).alloc (.cells #[.slice (some ⟨B1 + 1 + 1,0,none⟩) 1 1,.int .i64 (-1)] 37)
 clear g0 g1 g2 h0 h1 h2
 generalize (((w1.alloc (.cells (ints (List.replicate lo 0)).toArray 3)).alloc (.cells #[.int .i64 0,.int .i64 0,.slice (some ⟨B1,0,none⟩) lo lo,.slice none 0 0] 39)).alloc (.cells #[.int .i64 0,.int .i64 0,.slice (some ⟨B1,0,none⟩) lo lo,.slice none 0 0] 39)).alloc (.cells #[.slice (some ⟨B1 + 1 + 1,0,none⟩) 1 1,.int .i64 (-1)] 37)=wz at *
 have far:∀ {bb:Nat} {ob:Obj},A0 < bb→wz.heap[bb]?=some ob→(((wz.setCell ⟨A0,0,none⟩ (.slice (some ⟨B1 + 1 + 1 + 1,0,none⟩) 1 1)).setCell ⟨A0,1,none⟩ (.int .i64 0)).setCell ⟨A0,2,none⟩ (.slice none 0 0)).heap[bb]?=some ob:=fun hlt h =>
  lays_other (lays_other (lays_other h (a:=⟨A0,0,none⟩) (Nat.ne_of_gt hlt) _) (a:=⟨A0,1,none⟩) (Nat.ne_of_gt hlt) _) (a:=⟨A0,2,none⟩) (Nat.ne_of_gt hlt) _
 have R1:=far l1 N1
 have R2:=far (by omega) N2
 have R3:=far (by omega) N3
 have M0:=lays_set (lays_set (lays_set N0 0 (.slice (some ⟨B1 + 1 + 1 + 1,0,none⟩) 1 1)) 1 (.int .i64 0)) 2 (.slice none 0 0)
 have hle:w.heap.size≤A0:=by omega
 have HKw:=hide (((NK.setCell (p:=⟨A0,0,none⟩) hle (.slice (some ⟨B1 + 1 + 1 + 1,0,none⟩) 1 1)).setCell (p:=⟨A0,1,none⟩) hle (.int .i64 0)).setCell (p:=⟨A0,2,none⟩) hle (.slice none 0 0))
 clear far N0 N1 N2 N3 NK
 generalize ((wz.setCell ⟨A0,0,none⟩ (.slice (some ⟨B1 + 1 + 1 + 1,0,none⟩) 1 1)).setCell ⟨A0,1,none⟩ (.int .i64 0)).setCell ⟨A0,2,none⟩ (.slice none 0 0)=w2 at *
 have k0:w2.cell? ⟨A0,0,none⟩=some (.slice (some ⟨B1 + 1 + 1 + 1,0,none⟩) 1 1):=cell_at M0 (by simp)
 have k1:w2.cell? ⟨A0,1,none⟩=some (.int .i64 0):=cell_at M0 (by simp)
 have k2:w2.cell? ⟨A0,2,none⟩=some (.slice none 0 0):=cell_at M0 (by simp)
 refine bodyPost_ret (v:=.tuple #[.agg #[.slice (some ⟨B1 + 1 + 1 + 1,0,none⟩) 1 1,.int .i64 0,.slice none 0 0],.int .i64 0]) (by simp [results,Tryz.results55,go_sem,k0,k1,k2]) rfl ?_
 exact ⟨_,rfl,begin_at R1 R2 R3 hlo,un HKw⟩
theorem stBegin_any (p:List Fn) (vp:Value) (w:World) (hp:ProgAt w vp p) (hk:KindsAt w) :
  Calls Tryz.prog 55 #[vp] w fun e w'=>BegPost p w e w':=by
 by_cases hz:progS p=0
 ·unfold BegPost
  rw [if_pos hz,hz]
  obtain ⟨_,hp0,hck⟩:=progS_right hz
  obtain ⟨oa,cp,rfl,_,hcell⟩:=id hp
  obtain ⟨b,o,cv,rfl,_,c1,_,_⟩:=hcell 0 _ (getD_of_lt p 0 Fn.zero hp0)
  have hroom:0≤(p.getD 0 Fn.zero).locals∧(p.getD 0 Fn.zero).locals≤4:=by
   obtain ⟨i,hi,_,_,hr,_⟩:=chkS_zero (hck 0 hp0)
   obtain rfl:i=0:=by omega
   have:=roomB_iff.1 hr
   omega
  obtain ⟨lo,hlo⟩:∃ lo:Nat,(p.getD 0 Fn.zero).locals=lo:=⟨(p.getD 0 Fn.zero).locals.toNat,by omega⟩
  unfold beginS
  rw [hlo] at c1 hroom ⊢
  rw [Int.toNat_natCast]
  exact begin_go p b o _ cp lo w hp hk hz (by simpa using c1) hp0 (by omega)
 ·exact begin_bad p vp w hp hk hz
def allS (p:List Fn) (fuel:Int):List Int × Nat × Int :=
 if inB fuel 0 500=true then if progS p=0 then ((rnS p (beginS p) fuel).1.out,(rnS p (beginS p) fuel).2.1,(rnS p (beginS p) fuel).2.2) else ([],0,progS p) else ([],0,3)
def AlPost (r:List Int × Nat × Int) (w:World) (e:Ending) (w':World):Prop :=
 ∃ v,e=.returned (.tuple #[v,.int .i64 r.2.1,.int .i64 r.2.2])∧w'.ownsRow w.heap.size 3 1 v r.1.length (ints r.1)∧Kept w w'
theorem all_far (vp:Value) (fuel:Int) (w:World) (hin:inB fuel 0 500=false):Calls Tryz.prog 33 #[vp,.int .i64 fuel] w (AlPost ([],0,3) w):=by
 go_enter Tryz.func33,Tryz.ntmps33
 go_wp2_with (go_at_call 30; refine (isFuel_any _ _).mono ?_; rw [hin]; rintro e w' ⟨rfl,rfl⟩)
 refine bodyPost_ret (v:=.tuple #[.slice none 0 0,.int .i64 0,.int .i64 3]) (by simp [results,Tryz.results33,go_sem]) rfl ?_
 exact ⟨_,rfl,World.ownsRow_nil _ _ _ _,Kept.refl _⟩
theorem all_bad (vp:Value) (fuel:Int) (w:World) (er:Int) (he:er≠0) (hin:inB fuel 0 500=true)
  (HB:Hid (Calls Tryz.prog 55 #[vp] w fun e w'=>∃ v,e=.returned (.tuple #[v,.int .i64 er])∧(∃ oa n cap c oo m co,v=.agg #[.slice oa n cap,.int .i64 c,.slice oo m co])∧Kept w w')):Calls Tryz.prog 33 #[vp,.int .i64 fuel] w (AlPost ([],0,er) w):=by
 go_enter Tryz.func33,Tryz.ntmps33
 go_wp2_with (first | (go_at_call 30; refine (isFuel_any _ _).mono ?_; rw [hin]; rintro e w' ⟨rfl,rfl⟩) | (go_at_call 55; refine (un HB).mono ?_; rintro e w1 ⟨v,rfl,⟨oa,n,cap,c,oo,m,co,rfl⟩,hk1⟩; have HK1:=hide hk1; clear hk1 HB))
 refine bodyPost_ret (v:=.tuple #[.slice none 0 0,.int .i64 0,.int .i64 er]) (by simp [results,Tryz.results33,go_sem]) rfl ?_
 exact ⟨_,rfl,World.ownsRow_nil _ _ _ _,(un HK1).alloc _⟩
theorem all_go (s:St) (r:St × Nat × Int) (vp:Value) (fuel:Int) (w:World) (hin:inB fuel 0 500=true)
  (HB:Hid (Calls Tryz.prog 55 #[vp] w fun e w'=>∃ v,e=.returned (.tuple #[v,.int .i64 0])∧StAt w' v s∧Kept w w'))
  (HRU:Hid (∀ u v,Kept w u→StAt u v s→Calls Tryz.prog 17 #[vp,v,.int .i64 fuel] u (RnPost r u))):Calls Tryz.prog 33 #[vp,.int .i64 fuel] w (AlPost (r.1.out,r.2.1,r.2.2) w):=by
 go_enter Tryz.func33,Tryz.ntmps33
 go_wp2_with (go_at_call 30; refine (isFuel_any _ _).mono ?_; rw [hin]; rintro e w' ⟨rfl,rfl⟩; refine un ?_)
 refine hide ?_
 go_wp2_with fail
 refine (un HB).mono ?_
 rintro e w1 ⟨v,rfl,hs,hk1⟩
 have HS:=hide hs
 obtain ⟨vf,vo,rfl,⟨oa,cap,rfl,_,_⟩,⟨oo,co,rfl,_,_⟩⟩:=hs
 have hgo:=fun o=>(un HRU) (w1.alloc o) _ (hk1.alloc o) ((un HS).kept ((Kept.refl w1).alloc o))
 have HGO:=hide hgo
 have HK1:=hide hk1
 clear hgo hk1 HB HRU HS
 generalize s.fibers.length=N at *
 generalize s.out.length=M at *
 generalize s.now=c at *
 go_wp2_with fail
 refine ((un HGO) _).mono ?_
 rintro e w2 ⟨V,rfl,ho,hk2⟩
 obtain ⟨xs,hr,_⟩:=ho.piece .fibers trivial
 obtain ⟨o1,c1,e1,_⟩:=row_slice hr
 have hr2:World.ownsRow _ _ _ _ _ _ _:=ho.piece .out trivial
 obtain ⟨o2,c2,e2,_⟩:=row_slice hr2
 have l2:=lays_kept hk2 (lays_new (w:=w1) (o:=.cells #[.slice oa N cap,.int .i64 c,.slice oo M co] 26) rfl)
 have a0:=cell_lays l2 0
 have a1:=cell_lays l2 1
 have a2:=cell_lays l2 2
 have f0:=frozen_lays l2 0
 have f1:=frozen_lays l2 1
 have f2:=frozen_lays l2 2
 have hz:(w1.alloc (.cells #[.slice oa N cap,.int .i64 c,.slice oo M co] 26)).heap.size=w1.heap.size + 1:=by simp
 have hne:(V .out).ownBlock≠some w1.heap.size:=fun e=>by have:=(hr2.lt _ e).1; omega
 have t2:=ownsRow_setCell_other (ownsRow_setCell_other (ownsRow_setCell_other (row_base (base:=w.heap.size) hr2 (by have:=(un HK1).size; omega)) (a:=⟨w1.heap.size,0,none⟩) hne (V .fibers)) (a:=⟨w1.heap.size,1,none⟩) hne (.int .i64 r.1.now)) (a:=⟨w1.heap.size,2,none⟩) hne (V .out)
 have hk5:=(((((un HK1).alloc (.cells #[.slice oa N cap,.int .i64 c,.slice oo M co] 26)).trans hk2).setCell (p:=⟨w1.heap.size,0,none⟩) (un HK1).size (V .fibers)).setCell (p:=⟨w1.heap.size,1,none⟩) (un HK1).size (.int .i64 r.1.now)).setCell (p:=⟨w1.heap.size,2,none⟩) (un HK1).size (V .out)
 rw [e1,e2] at t2 hk5 ⊢
 have HT:=hide (And.intro t2 hk5)
 clear t2 hk5 hz hne hr hr2 e1 e2 l2 ho hk2 HGO HK1
 generalize hL:r.1.out.length=L at *
 generalize r.1.fibers.length=N1 at *
 generalize r.1.now=rn at *
 go_wp2
 refine bodyPost_ret (v:=.tuple #[.slice o2 L c2,.int .i64 r.2.1,.int .i64 r.2.2]) (by simp [results,Tryz.results33,go_sem]) rfl ?_
 exact ⟨_,rfl,by rw [hL]; exact (un HT).1,(un HT).2⟩
theorem runAll_any (p:List Fn) (vp:Value) (fuel:Int) (w:World) (hp:ProgAt w vp p) (hkd:KindsAt w):Calls Tryz.prog 33 #[vp,.int .i64 fuel] w (AlPost (allS p fuel) w):=by
 have HB:=stBegin_any p vp w hp hkd
 unfold allS
 by_cases hin:inB fuel 0 500=true
 ·rw [if_pos hin]
  by_cases h0:progS p=0
  ·rw [if_pos h0]
   refine all_go (beginS p) _ vp fuel w hin (hide (HB.mono ?_)) (hide (fun u v hu hs=>runRun_any p _ vp v fuel u (hp.kept hu) hs (hkd.kept hu)))
   rintro e w' ⟨v,rfl,hs,hk⟩
   rw [if_pos h0] at hs
   exact ⟨v,by rw [h0],hs,hk⟩
  ·rw [if_neg h0]
   refine all_bad vp fuel w _ h0 hin (hide (HB.mono ?_))
   rintro e w' ⟨v,rfl,hs,hk⟩
   obtain ⟨vf,vo,rfl,⟨oa,cap,rfl,_,_⟩,⟨oo,co,rfl,_,_⟩⟩:=hs
   exact ⟨_,rfl,⟨_,_,_,_,_,_,_,rfl⟩,hk⟩
 ·rw [if_neg hin]
  exact all_far vp fuel w (by simpa using hin)
theorem sameFrom {l1 l2:List Int} (hl:l1.length=l2.length) (h:∀ i,i < l1.length→l1.getD i 0=l2.getD i 0):l1=l2:=by
 apply List.ext_getElem hl
 intro k h1 h2
 have:=h k h1
 simpa [List.getD,h1,h2] using this
theorem sameInts_w (l1 l2:List Int) (v1 v2:Value) (w:World) (h1:IntsW w v1 l1) (h2:IntsW w v2 l2) :
  Calls Tryz.prog 14 #[v1,v2] w fun e w'=>e=.returned (.bool (decide (l1=l2)))∧Kept w w':=by
 obtain ⟨oa,ca,rfl,n1,i1⟩:=h1
 obtain ⟨ob,cb,rfl,n2,i2⟩:=h2
 by_cases hl:l1.length=l2.length
 ·have HI1:=hide i1
  have HI2:=hide i2
  have HL:=hide hl
  have hl':((l1.length:Int) != (l2.length:Int))=false:=by rw [hl]; simp
  clear i1 i2 hl
  go_enter Tryz.func14,Tryz.ntmps14
  go_wp2
  go_loopw [5] (fun s5 wr=>∃ k:Nat,k≤l1.length∧s5=.int .i64 k∧Hid (∀ i,i < k→l1.getD i 0=l2.getD i 0)∧Hid (Kept w wr)) (fun s5 _=>l1.length - (intOf s5).toNat)
  case atStart=>exact ⟨0,Nat.zero_le _,rfl,(fun i hi=>by omega),Kept.refl _⟩
  case round =>
   obtain ⟨k,hkm,rfl,HA,HKr⟩:=hrel
   by_cases hlt:k < l1.length
   ·have hlt2:k < l2.length:=by have:=un HL; omega
    obtain ⟨b1,o1,e1,c1⟩:=(un HI1) k _ (getD_of_lt l1 k 0 hlt)
    obtain ⟨b2,o2,e2,c2⟩:=(un HI2) k _ (getD_of_lt l2 k 0 hlt2)
    have d1:=(un HKr).cell c1
    have d2:=(un HKr).cell c2
    generalize hz1:l1.getD k 0=z1 at *
    generalize hz2:l2.getD k 0=z2 at *
    have Z1:=hide hz1
    have Z2:=hide hz2
    subst e1 e2
    clear c1 c2 hz1 hz2
    by_cases hz:z1=z2
    ·have hzb:(z1 != z2)=false:=by rw [hz]; simp
     have HZ:=hide hz
     clear hz
     go_wp2
     go_quiet (fail)
     go_wp2
     go_roundw
     case rel =>
      refine ⟨k + 1,by omega,by go_num,?_,(un HKr).drewN _⟩
      intro i hi
      by_cases e:i=k
      ·subst e; rw [un Z1,un Z2,un HZ]
      ·exact (un HA) i (by omega)
     case measure=>simp [intOf]; omega
    ·have hzb:(z1 != z2)=true:=by rw [bne_iff_ne]; exact hz
     have HZ:=hide hz
     clear hz
     go_wp2
     go_quiet (fail)
     go_wp2
     go_ret
     refine ⟨?_,(un HKr).drewN _⟩
     rw [decide_eq_false]
     ·rfl
     ·intro e
      apply un HZ
      rw [← un Z1,← un Z2,e]
   ·go_wp2
    go_ret
    refine ⟨?_,un HKr⟩
    rw [decide_eq_true]
    ·rfl
    ·exact sameFrom (un HL) (fun i hi=>(un HA) i (by omega))
 ·have hl':((l1.length:Int) != (l2.length:Int))=true:=by rw [bne_iff_ne]; omega
  have HL:=hide hl
  clear i1 i2 hl
  go_enter Tryz.func14,Tryz.ntmps14
  go_wp2
  go_ret
  refine ⟨?_,Kept.refl _⟩
  rw [decide_eq_false]
  ·rfl
  ·intro e; exact (un HL) (by rw [e])
theorem one_prog {w:World} {b0 b n:Nat} {c:List (Int × Int)} {A:Array Value} (h0:w.heap[b0]?=some (.cells A 44)) (hA:A=(flatOps c).toArray) (hl:c.length≤8796093022208) (hn:n=c.length)
  (h:w.heap[b]?=some (.cells #[.int .i64 0,.int .i64 0,.slice (some ⟨b0,0,none⟩) n n] 42)):ProgAt w (.slice (some ⟨b,0,none⟩) 1 1) [⟨0,0,c⟩]:=by
 refine progAt_block h [(⟨0,0,c⟩,.slice (some ⟨b0,0,none⟩) n n)] rfl (by simp) ?_ 1 1 rfl _ rfl
 intro x hx
 simp only [List.mem_cons,List.not_mem_nil,or_false] at hx
 subst hx
 exact codeAt_block h0 c hA hl n n hn
theorem ints_block {w:World} {b n:Nat} {l:List Int} {A:Array Value} (h:w.heap[b]?=some (.cells A 3)) (hA:A=(l.map fun z=>Value.int .i64 z).toArray) (hl:l.length≤8796093022208) (hn:n=l.length):IntsAt w (.slice (some ⟨b,0,none⟩) n n) l:=by
 subst hA hn
 refine ⟨_,_,rfl,hl,fun i z hz=>⟨b,0,rfl,?_⟩⟩
 rw [cell_lays h,Nat.zero_add]
 simp [hz]
theorem cnt_ok:progS cntL=0:=by decide +kernel
theorem b_all:allS cntL 99=([7,8,99],28,0):=by decide +kernel
theorem b_run:(rnS cntL (beginS cntL) 6).2=(6,0)∧(rnS cntL (beginS cntL) 6).1.now=1:=by decide +kernel
theorem b_far:allS cntL 501=([],0,3):=by decide +kernel
theorem b_alone:allS [⟨0,0,[(0,1),(15,0),(12,0)]⟩] 9=([],1,7):=by decide +kernel
theorem runBegun_any (w:World) (hk:KindsAt w):Calls Tryz.prog 19 #[] w fun e w'=>e=.returned (.bool true)∧Kept w w':=by
 have HK:=hide hk
 clear hk
 go_enter Tryz.func19,Tryz.ntmps19
 go_wp2_with fail
 refine (count_any _).mono ?_
 rintro _ w1 ⟨v1,rfl,hc1,hk1⟩
 have h1:=runAll_any cntL v1 99 w1 hc1.prog ((un HK).kept hk1)
 unfold AlPost at h1
 rw [b_all] at h1
 have H1:=hide h1
 have HK1:=hide hk1
 clear h1 hc1 hk1
 go_wp2_with fail
 refine (un H1).mono ?_
 rintro _ w2 ⟨vl,rfl,hr2,hk2⟩
 have HI2:=hide (ints_row hr2 (by decide))
 have HK2:=hide ((un HK1).trans hk2)
 clear hr2 hk2 H1 HK1
 go_wp2_with fail
 refine (count_any _).mono ?_
 rintro _ w3 ⟨v3,rfl,hc3,hk3⟩
 have HP3:=hide hc3.prog
 have HI3:=hide ((un HI2).kept hk3)
 have HK3:=hide ((un HK2).trans hk3)
 clear hc3 hk3 HI2 HK2
 go_wp2_with fail
 refine (count_any _).mono ?_
 rintro _ w4 ⟨v4,rfl,hc4,hk4⟩
 have HB4:=hide (beginOf_any cntL v4 w4 hc4.prog cnt_ok)
 have HP4:=hide ((un HP3).kept hk4)
 have HI4:=hide ((un HI3).kept hk4)
 have HK4:=hide ((un HK3).trans hk4)
 clear hc4 hk4 HI3 HK3 HP3
 go_wp2_with fail
 refine (un HB4).mono ?_
 rintro _ w5 ⟨vs,rfl,hs5,hk5⟩
 have h5:=runRun_any cntL (beginS cntL) v3 vs 6 w5 ((un HP4).kept hk5) hs5 ((un HK).kept ((un HK4).trans hk5))
 unfold RnPost at h5
 rw [b_run.1,b_run.2] at h5
 have H5:=hide h5
 have HI5:=hide ((un HI4).kept hk5)
 have HK5:=hide ((un HK4).trans hk5)
 clear h5 hs5 hk5 HI4 HK4 HP4 HB4
 go_wp2_with fail
 refine (un H5).mono ?_
 rintro _ w6 ⟨V6,rfl,ho6,hk6⟩
 obtain ⟨xs6,hr6,_⟩:=ho6.piece .fibers trivial
 obtain ⟨o6,c6,E6,_⟩:=row_slice hr6
 have hr7:=ho6.piece .out trivial
 obtain ⟨o7,c7,E7,_⟩:=row_slice hr7
 rw [E6,E7]
 generalize (rnS cntL (beginS cntL) 6).1.fibers.length=N6 at *
 generalize (rnS cntL (beginS cntL) 6).1.out.length=M6 at *
 have HI6:=hide ((un HI5).kept hk6)
 have HK6:=hide ((un HK5).trans hk6)
 clear hr6 hr7 E6 E7 ho6 hk6 HI5 HK5 H5
 go_wp2_with fail
 have hx6:(w6.alloc (.cells #[.slice o6 N6 c6,.int .i64 1,.slice o7 M6 c7] 26)).heap[w6.heap.size]?=some (.cells #[.slice o6 N6 c6,.int .i64 1,.slice o7 M6 c7] 26):=lays_new rfl
 have hkx:Kept w6 (w6.alloc (.cells #[.slice o6 N6 c6,.int .i64 1,.slice o7 M6 c7] 26)):=(Kept.refl w6).alloc _
 generalize hwx:w6.alloc (.cells #[.slice o6 N6 c6,.int .i64 1,.slice o7 M6 c7] 26)=wx at *
 have HX:=hide hx6
 have HIX:=hide ((un HI6).kept hkx)
 have HKX:=hide ((un HK6).trans hkx)
 clear hwx hx6 hkx HI6 HK6
 refine (count_any _).mono ?_
 rintro _ w7 ⟨v7,rfl,hc7,hk7⟩
 have h7:=runAll_any cntL v7 501 w7 hc7.prog ((un HK).kept ((un HKX).trans hk7))
 unfold AlPost at h7
 rw [b_far] at h7
 have H7:=hide h7
 have HX7:=hide (lays_kept hk7 (un HX))
 have HI7:=hide ((un HIX).kept hk7)
 have HK7:=hide ((un HKX).trans hk7)
 clear h7 hc7 hk7 HX HIX HKX
 go_wp2_with fail
 refine (un H7).mono ?_
 rintro _ w8 ⟨v8,rfl,_,hk8⟩
 have HX8:=hide (lays_kept hk8 (un HX7))
 have HI8:=hide ((un HI7).kept hk8)
 have HK8:=hide ((un HK7).trans hk8)
 clear hk8 H7 HX7 HI7 HK7
 go_wp2_with (go_at_call 26; refine (o_any _ _ _).mono ?_; rintro e w' ⟨rfl,rfl⟩)
 have hkA:=((((((Kept.refl w8).alloc (.cells #[.int .i64 0,.int .i64 1] 44)).alloc (.cells #[.int .i64 15,.int .i64 0] 44)).alloc (.cells #[.int .i64 12,.int .i64 0] 44)).alloc (.cells #[.int .i64 0,.int .i64 1,.int .i64 15,.int .i64 0,.int .i64 12,.int .i64 0] 44)).alloc (.cells #[.int .i64 0,.int .i64 0,.slice (some ⟨w8.heap.size + 1 + 1 + 1,0,none⟩) 3 3] 42))
 have h9:=runAll_any [⟨0,0,[(0,1),(15,0),(12,0)]⟩] (.slice (some ⟨w8.heap.size + 1 + 1 + 1 + 1,0,none⟩) 1 1) 9 _ (one_prog (b0:=w8.heap.size + 1 + 1 + 1) (b:=w8.heap.size + 1 + 1 + 1 + 1) (lays_alloc (lays_new (by simp)) _) rfl (by decide) rfl (lays_new (by simp))) ((un HK).kept ((un HK8).trans hkA))
 unfold AlPost at h9
 rw [b_alone] at h9
 refine h9.mono ?_
 rintro _ w9 ⟨v9,rfl,hr9,hk9⟩
 obtain ⟨o9,c9,rfl,_⟩:=row_slice hr9
 have hk89:=hkA.trans hk9
 have HX9:=hide (lays_kept hk89 (un HX8))
 have HI9:=hide ((un HI8).kept hk89)
 have HK9:=hide ((un HK8).trans hk89)
 clear hkA h9 hr9 hk9 hk89 HX8 HI8 HK8
 go_wp2_with fail
 have hkB:=(Kept.refl w9).alloc (.cells #[.int .i64 7,.int .i64 8,.int .i64 99] 3)
 refine (sameInts_w [7,8,99] [7,8,99] _ _ _ ((un HI9).kept hkB) ((ints_block (lays_new rfl) rfl (by decide) rfl).wide)).mono ?_
 rintro _ wE ⟨rfl,hkE⟩
 have hk9E:=hkB.trans hkE
 have lE:=lays_kept hk9E (un HX9)
 have z1:wE.cell? ⟨w6.heap.size,1,none⟩=some (.int .i64 1):=cell_lays lE 1
 have HKE:=hide ((un HK9).trans hk9E)
 clear hkB hkE hk9E lE HX9 HI9 HK9
 rw [show decide ([7,8,99]=([7,8,99]:List Int))=true by decide]
 go_wp2
 go_ret
 exact ⟨rfl,un HKE⟩
theorem begin_begun (p:List Fn):beginS p=⟨[⟨[begunS p 0 []],-1⟩],0,[]⟩:=by simp [beginS,begunS]
theorem begin_right {p:List Fn} (h:progS p=0):stErrS p (beginS p)=0:=by
 obtain ⟨_,h0,_⟩:=progS_right h
 have hl:0≤(p.getD 0 Fn.zero).locals:=by have:=room_of h h0; omega
 obtain ⟨hf,hh⟩:=frame_begun h (f:=0) (by omega) (by omega) (vals:=[]) (by simpa using hl)
 refine good_right (l:=[0]) ⟨h,by simp [beginS],by simp [beginS],fun k hk=>?_,?_,by simp,.inr rfl,by simp [beginS],fun hn=>absurd (by simp) hn,fun k hk=>?_⟩
 ·obtain rfl:k=0:=by simp [beginS] at hk; omega
  simp [fibAt,beginS]
 ·simp [Path,beginS,callerOf]
 ·obtain rfl:k=0:=by simp [beginS] at hk; omega
  rw [begin_begun]
  simp [fibAt,fiberB,framesB,hf,hh]
  rfl
theorem rnS_small {p:List Fn} {s:St} {f:Int}:Small (rnS p s f).1:=by
 have hz:Small St.zero:=by unfold Small St.zero; simp
 unfold rnS
 split
 ·split
  ·rename_i h; exact right_small (run_right _ h)
  ·exact hz
 ·exact hz
theorem stpS_small {p:List Fn} {s:St}:Small (stpS p s).1:=by
 unfold stpS
 split
 ·rename_i h
  unfold oneS
  split
  ·exact zero_small
  ·exact step_small h (by omega)
 ·exact zero_small
theorem own_st {base:Nat} {w:World} {V:Key→Value} {s:St} (h:Own base w V s) (hs:Small s):∃ oa n cap c oo m co,(.agg #[V .fibers,.int .i64 s.now,V .out]:Value)=.agg #[.slice oa n cap,.int .i64 c,.slice oo m co]∧StAt w (.agg #[.slice oa n cap,.int .i64 c,.slice oo m co]) s:=by
 obtain ⟨xs,hr,_⟩:=h.piece .fibers trivial
 obtain ⟨o3,c3,E3,_⟩:=row_slice hr
 have hr4:=h.piece .out trivial
 obtain ⟨o4,c4,E4,_⟩:=row_slice hr4
 have:=h.reads hs
 rw [E3,E4] at this
 exact ⟨_,_,_,_,_,_,_,by rw [E3,E4],this⟩
theorem runRun_st (p:List Fn) (s:St) (vp vs:Value) (fuel:Int) (w:World) (hp:ProgAt w vp p) (hs:StAt w vs s) (hkd:KindsAt w) :
  Calls Tryz.prog 17 #[vp,vs,.int .i64 fuel] w fun e w'=>∃ oa n cap c oo m co,e=.returned (.tuple #[.agg #[.slice oa n cap,.int .i64 c,.slice oo m co],.int .i64 (rnS p s fuel).2.1,.int .i64 (rnS p s fuel).2.2])∧StAt w' (.agg #[.slice oa n cap,.int .i64 c,.slice oo m co]) (rnS p s fuel).1∧Kept w w':=by
 refine (runRun_any p s vp vs fuel w hp hs hkd).mono ?_
 rintro e w' ⟨V,rfl,ho,hk⟩
 obtain ⟨oa,n,cap,c,oo,m,co,h1,h2⟩:=own_st ho rnS_small
 exact ⟨oa,n,cap,c,oo,m,co,by rw [h1],h2,hk⟩
theorem stepDo_st (p:List Fn) (s:St) (vp vs:Value) (w:World) (hp:ProgAt w vp p) (hs:StAt w vs s) (hkd:KindsAt w) :
  Calls Tryz.prog 9 #[vp,vs] w fun e w'=>∃ oa n cap c oo m co,e=.returned (.tuple #[.agg #[.slice oa n cap,.int .i64 c,.slice oo m co],.int .i64 (stpS p s).2])∧StAt w' (.agg #[.slice oa n cap,.int .i64 c,.slice oo m co]) (stpS p s).1∧Kept w w':=by
 refine (stepDo_any p s vp vs w hp hs hkd).mono ?_
 rintro e w' ⟨V,rfl,ho,hk⟩
 obtain ⟨oa,n,cap,c,oo,m,co,h1,h2⟩:=own_st ho stpS_small
 exact ⟨oa,n,cap,c,oo,m,co,by rw [h1],h2,hk⟩
theorem sameStates_same (s:St) (v1 v2:Value) (w:World) (h1:StAt w v1 s) (h2:StAt w v2 s) :
  Calls Tryz.prog 12 #[v1,v2] w fun e w'=>e=.returned (.bool true)∧Kept w w':=by
 obtain ⟨vf1,vo1,rfl,hf1,ho1⟩:=h1
 obtain ⟨vf2,vo2,rfl,hf2,ho2⟩:=h2
 obtain ⟨oa1,cap1,rfl,hl,i1⟩:=hf1
 obtain ⟨oa2,cap2,rfl,_,i2⟩:=hf2
 have HSI:Hid (∀ u,Kept w u→Calls Tryz.prog 14 #[vo1,vo2] u fun e w'=>e=.returned (.bool true)∧Kept u w'):=hide (fun u hu=>by
  have:=sameInts_w s.out s.out vo1 vo2 u (ho1.kept hu) (ho2.kept hu)
  rwa [decide_eq_true rfl] at this)
 obtain ⟨oo1,co1,rfl,_,_⟩:=ho1
 obtain ⟨oo2,co2,rfl,_,_⟩:=ho2
 have hn1:(s.now != s.now)=false:=by simp
 have hn2:((s.fibers.length:Int) != (s.fibers.length:Int))=false:=by simp
 generalize hN:s.fibers.length=N at *
 generalize s.out.length=M at *
 have HI1:=hide i1
 have HI2:=hide i2
 have HN:=hide hN
 clear i1 i2 hN
 go_enter Tryz.func12,Tryz.ntmps12
 go_wp2_with fail
 refine ((un HSI) _ (((Kept.refl w).alloc _).alloc _)).mono ?_
 rintro e w1 ⟨rfl,hk1⟩
 have hkw:=(((Kept.refl w).alloc (.cells #[.slice oa1 N cap1,.int .i64 s.now,.slice oo1 M co1] 26)).alloc (.cells #[.slice oa2 N cap2,.int .i64 s.now,.slice oo2 M co2] 26)).trans hk1
 have L0:=lays_kept hk1 (lays_alloc (lays_new (w:=w) (o:=.cells #[.slice oa1 N cap1,.int .i64 s.now,.slice oo1 M co1] 26) rfl) (.cells #[.slice oa2 N cap2,.int .i64 s.now,.slice oo2 M co2] 26))
 have L1:w1.heap[w.heap.size + 1]?=some (.cells #[.slice oa2 N cap2,.int .i64 s.now,.slice oo2 M co2] 26):=lays_kept hk1 (lays_new (by simp))
 have X0:Hid (w1.cell? ⟨w.heap.size,0,none⟩=some (.slice oa1 N cap1)):=hide (cell_at L0 rfl)
 have Y0:Hid (w1.cell? ⟨w.heap.size + 1,0,none⟩=some (.slice oa2 N cap2)):=hide (cell_at L1 rfl)
 have HKW:=hide hkw
 clear hk1 hkw L0 L1 HSI
 go_wp2
 go_loopw [5] (fun s5 wr=>∃ k:Nat,k≤N∧s5=.int .i64 k∧Hid (Kept w1 wr)) (fun s5 _=>N - (intOf s5).toNat)
 case atStart=>exact ⟨0,Nat.zero_le _,rfl,Kept.refl _⟩
 case round =>
  obtain ⟨k,hkm,rfl,HKr⟩:=hrel
  have dx:=(un HKr).cell (un X0)
  have dy:=(un HKr).cell (un Y0)
  by_cases hlt:k < N
  ·obtain ⟨f,hx⟩:∃ f,s.fibers[k]?=some f:=⟨_,List.getElem?_eq_getElem (by rw [un HN]; exact hlt)⟩
   obtain ⟨p1,o1,vf1,rfl,x0,x1,hc1⟩:=(un HI1) k _ hx
   obtain ⟨p2,o2,vf2,rfl,y0,y1,hc2⟩:=(un HI2) k _ hx
   have hk:=(un HKW).trans (un HKr)
   obtain ⟨oc1,cc1,rfl,hlf,j1⟩:=hc1
   obtain ⟨oc2,cc2,rfl,_,j2⟩:=hc2
   have HJ1:=hide j1
   have HJ2:=hide j2
   have hk1:(k:Int) < (N:Int):=by omega
   have hk0:(0:Int)≤(k:Int):=by omega
   have HY:Hid (∀ u,Kept wr u→u.cell? ⟨w.heap.size,0,none⟩=some (.slice (some ⟨p1,o1,none⟩) N cap1)∧u.cell? ⟨w.heap.size + 1,0,none⟩=some (.slice (some ⟨p2,o2,none⟩) N cap2)∧u.cell? ⟨p1,o1 + k * 2,none⟩=some (.slice oc1 f.frames.length cc1)∧u.cell? ⟨p1,o1 + k * 2 + 1,none⟩=some (.int .i64 f.caller)∧u.cell? ⟨p2,o2 + k * 2,none⟩=some (.slice oc2 f.frames.length cc2)∧u.cell? ⟨p2,o2 + k * 2 + 1,none⟩=some (.int .i64 f.caller)) :=
    hide (fun u hu=>⟨hu.cell dx,hu.cell dy,hu.cell (hk.cell x0),hu.cell (hk.cell x1),hu.cell (hk.cell y0),hu.cell (hk.cell y1)⟩)
   have HKW2:=hide hk
   clear j1 j2 x0 x1 y0 y1 hk
   go_wp2_with fail
   go_cut [6,7] from 33 to 108 (fun s6 s7 wx=>∃ b6 b7,s6=.pointer (some ⟨b6,0,none⟩)∧s7=.pointer (some ⟨b7,0,none⟩)∧Hid (wx.cell? ⟨b6,0,none⟩=some (.slice oc1 f.frames.length cc1)∧wx.cell? ⟨b6,1,none⟩=some (.int .i64 f.caller)∧wx.cell? ⟨b7,0,none⟩=some (.slice oc2 f.frames.length cc2)∧wx.cell? ⟨b7,1,none⟩=some (.int .i64 f.caller)∧Kept wr wx))
   case first =>
    go_region_held3 (fun u=>u.cell? ⟨w.heap.size,0,none⟩=some (.slice (some ⟨p1,o1,none⟩) N cap1)∧u.cell? ⟨w.heap.size + 1,0,none⟩=some (.slice (some ⟨p2,o2,none⟩) N cap2)∧u.cell? ⟨p1,o1 + k * 2,none⟩=some (.slice oc1 f.frames.length cc1)∧u.cell? ⟨p1,o1 + k * 2 + 1,none⟩=some (.int .i64 f.caller)∧u.cell? ⟨p2,o2 + k * 2,none⟩=some (.slice oc2 f.frames.length cc2)∧u.cell? ⟨p2,o2 + k * 2 + 1,none⟩=some (.int .i64 f.caller))
     (exact (un HY) _ (by repeat (first | exact Kept.refl _ | refine Kept.drew ?_ | refine Kept.alloc ?_ _ | refine Kept.setCell ?_ (by simp) _))) (fail)
    all_goals go_wp2_with fail
    all_goals go_meet
    all_goals exact ⟨_,_,rfl,rfl,hide ⟨by simp,by simp,by simp,by simp,(((Kept.refl wr).alloc _).alloc _).drew⟩⟩
   case rest =>
    obtain ⟨b6,b7,rfl,rfl,HC⟩:=hcut
    obtain ⟨z0,z1,z2,z3,hkc⟩:=un HC
    have hn3:(f.caller != f.caller)=false:=by simp
    have HZ0:=hide z0
    have HZ2:=hide z2
    have HKC:=hide hkc
    have HKr0:=HKr
    have HFW:=hide ((un HKW2).trans hkc)
    generalize hq:f.frames.length=q at *
    have HQ:=hide hq
    have hn4:((q:Int) != (q:Int))=false:=by simp
    clear HC hkc hq dx dy HY
    go_wp2
    clear z0 z1 z2 z3
    go_loopw [8] (fun s8 wr=>∃ i:Nat,i≤q∧s8=.int .i64 i∧Hid (Kept wc wr)) (fun s8 _=>q - (intOf s8).toNat)
    case atStart=>exact ⟨0,Nat.zero_le _,rfl,Kept.refl _⟩
    case round =>
     obtain ⟨i,hiq,rfl,HKi⟩:=hrel
     have dz:=(un HKi).cell (un HZ0)
     have dw:=(un HKi).cell (un HZ2)
     by_cases hil:i < q
     ·obtain ⟨x,hx2⟩:∃ x,f.frames[i]?=some x:=⟨_,List.getElem?_eq_getElem (by rw [un HQ]; exact hil)⟩
      obtain ⟨g1,t1,vl1,vs1,rfl,a0,a1,a2,a3,hvl1,hvs1⟩:=(un HJ1) i _ hx2
      obtain ⟨g2,t2,vl2,vs2,rfl,e0,e1,e2,e3,hvl2,hvs2⟩:=(un HJ2) i _ hx2
      have hk:=(un HFW).trans (un HKi)
      have HSL:Hid (∀ u,Kept wr u→Calls Tryz.prog 14 #[vl1,vl2] u fun e w'=>e=.returned (.bool true)∧Kept u w'):=hide (fun u hu=>by
       have:=sameInts_w x.locals x.locals vl1 vl2 u (hvl1.kept (hk.trans hu)) (hvl2.kept (hk.trans hu))
       rwa [decide_eq_true rfl] at this)
      have HSS:Hid (∀ u,Kept wr u→Calls Tryz.prog 14 #[vs1,vs2] u fun e w'=>e=.returned (.bool true)∧Kept u w'):=hide (fun u hu=>by
       have:=sameInts_w x.stack x.stack vs1 vs2 u (hvs1.kept (hk.trans hu)) (hvs2.kept (hk.trans hu))
       rwa [decide_eq_true rfl] at this)
      obtain ⟨ol1,cl1,rfl,_,_⟩:=hvl1
      obtain ⟨os1,cs1,rfl,_,_⟩:=hvs1
      obtain ⟨ol2,cl2,rfl,_,_⟩:=hvl2
      obtain ⟨os2,cs2,rfl,_,_⟩:=hvs2
      have HYi:Hid (∀ u,Kept wr u→u.cell? ⟨b6,0,none⟩=some (.slice (some ⟨g1,t1,none⟩) q cc1)∧u.cell? ⟨b7,0,none⟩=some (.slice (some ⟨g2,t2,none⟩) q cc2)∧u.cell? ⟨g1,t1 + i * 4,none⟩=some (.int .i64 x.fn)∧u.cell? ⟨g1,t1 + i * 4 + 1,none⟩=some (.int .i64 x.at_)∧u.cell? ⟨g1,t1 + i * 4 + 2,none⟩=some (.slice ol1 x.locals.length cl1)∧u.cell? ⟨g1,t1 + i * 4 + 3,none⟩=some (.slice os1 x.stack.length cs1)∧u.cell? ⟨g2,t2 + i * 4,none⟩=some (.int .i64 x.fn)∧u.cell? ⟨g2,t2 + i * 4 + 1,none⟩=some (.int .i64 x.at_)∧u.cell? ⟨g2,t2 + i * 4 + 2,none⟩=some (.slice ol2 x.locals.length cl2)∧u.cell? ⟨g2,t2 + i * 4 + 3,none⟩=some (.slice os2 x.stack.length cs2)) :=
       hide (fun u hu=>⟨hu.cell dz,hu.cell dw,hu.cell (hk.cell a0),hu.cell (hk.cell a1),hu.cell (hk.cell a2),hu.cell (hk.cell a3),hu.cell (hk.cell e0),hu.cell (hk.cell e1),hu.cell (hk.cell e2),hu.cell (hk.cell e3)⟩)
      have hi1:(i:Int) < (q:Int):=by omega
      have hi0:(0:Int)≤(i:Int):=by omega
      have hn5:(x.fn != x.fn)=false:=by simp
      have hn6:(x.at_ != x.at_)=false:=by simp
      clear a0 a1 a2 a3 e0 e1 e2 e3 hk hx2
      go_wp2_with fail
      go_cut [9,10] from 64 to 108 (fun s9 s10 wx=>∃ b9 b10,s9=.pointer (some ⟨b9,0,none⟩)∧s10=.pointer (some ⟨b10,0,none⟩)∧Hid (wx.heap[b9]?=some (.cells #[.int .i64 x.fn,.int .i64 x.at_,.slice ol1 x.locals.length cl1,.slice os1 x.stack.length cs1] 39)∧wx.heap[b10]?=some (.cells #[.int .i64 x.fn,.int .i64 x.at_,.slice ol2 x.locals.length cl2,.slice os2 x.stack.length cs2] 39)∧Kept wr wx))
      case first =>
       go_region_held3 (fun u=>u.cell? ⟨b6,0,none⟩=some (.slice (some ⟨g1,t1,none⟩) q cc1)∧u.cell? ⟨b7,0,none⟩=some (.slice (some ⟨g2,t2,none⟩) q cc2)∧u.cell? ⟨g1,t1 + i * 4,none⟩=some (.int .i64 x.fn)∧u.cell? ⟨g1,t1 + i * 4 + 1,none⟩=some (.int .i64 x.at_)∧u.cell? ⟨g1,t1 + i * 4 + 2,none⟩=some (.slice ol1 x.locals.length cl1)∧u.cell? ⟨g1,t1 + i * 4 + 3,none⟩=some (.slice os1 x.stack.length cs1)∧u.cell? ⟨g2,t2 + i * 4,none⟩=some (.int .i64 x.fn)∧u.cell? ⟨g2,t2 + i * 4 + 1,none⟩=some (.int .i64 x.at_)∧u.cell? ⟨g2,t2 + i * 4 + 2,none⟩=some (.slice ol2 x.locals.length cl2)∧u.cell? ⟨g2,t2 + i * 4 + 3,none⟩=some (.slice os2 x.stack.length cs2))
        (exact (un HYi) _ (by repeat (first | exact Kept.refl _ | refine Kept.drew ?_ | refine Kept.alloc ?_ _ | refine Kept.setCell ?_ (by simp) _))) (fail)
       all_goals go_wp2_with fail
       all_goals go_meet
       all_goals first
        | exact ⟨_,_,rfl,rfl,hide ⟨lays_alloc (lays_new rfl) _,lays_new (by simp),(((Kept.refl wr).alloc _).alloc _).drew⟩⟩
        | exact ⟨_,_,rfl,rfl,hide ⟨lays_new (by simp),lays_alloc (lays_new rfl) _,(((Kept.refl wr).alloc _).alloc _).drew⟩⟩
      case rest =>
       obtain ⟨b9,b10,rfl,rfl,HD⟩:=hcut
       obtain ⟨l9,l10,hkd⟩:=un HD
       have y0:=cell_at l9 (i:=0) rfl
       have y1:=cell_at l9 (i:=1) rfl
       have y2:=cell_at l9 (i:=2) rfl
       have y4:=cell_at l10 (i:=0) rfl
       have y5:=cell_at l10 (i:=1) rfl
       have y6:=cell_at l10 (i:=2) rfl
       have HL9:=hide l9
       have HL10:=hide l10
       have HKD:=hide hkd
       clear HD l9 l10 hkd dz dw HYi
       go_wp2_with fail
       refine ((un HSL) _ (un HKD)).mono ?_
       rintro e w4 ⟨rfl,hk4⟩
       have y3:=cell_at (lays_kept hk4 (un HL9)) (i:=3) rfl
       have y7:=cell_at (lays_kept hk4 (un HL10)) (i:=3) rfl
       have HK4:=hide ((un HKD).trans hk4)
       clear hk4
       go_wp2_with fail
       refine ((un HSS) _ (un HK4)).mono ?_
       rintro e w5 ⟨rfl,hk5⟩
       have HK5:=hide ((un HK4).trans hk5)
       clear hk5
       go_wp2
       go_roundw
       case rel=>exact ⟨i + 1,by omega,by go_num,(un HKi).trans (un HK5)⟩
       case measure=>simp [intOf]; omega
     ·have hi1:¬ ((i:Int) < (q:Int)):=by omega
      go_wp2
      go_roundw
      case rel=>exact ⟨k + 1,by omega,by go_num,(un HKr0).trans ((un HKC).trans (un HKi))⟩
      case measure=>simp [intOf]; omega
  ·go_wp2
   go_ret
   exact ⟨rfl,(un HKW).trans (un HKr)⟩
theorem runRun_gives (p:List Fn) (s:St) (vp vs:Value) (fuel:Int) (w:World) (hp:ProgAt w vp p) (hs:StAt w vs s) (hkd:KindsAt w):GivesSt 17 #[vp,vs,.int .i64 fuel] w (rnS p s fuel).1 [.int .i64 (rnS p s fuel).2.1,.int .i64 (rnS p s fuel).2.2]:=runRun_st p s vp vs fuel w hp hs hkd
theorem stepDo_gives (p:List Fn) (s:St) (vp vs:Value) (w:World) (hp:ProgAt w vp p) (hs:StAt w vs s) (hkd:KindsAt w):GivesSt 9 #[vp,vs] w (stpS p s).1 [.int .i64 (stpS p s).2]:=stepDo_st p s vp vs w hp hs hkd
theorem sameInts_is (l:List Int) (u:World) (v1 v2:Value) (h1:IntsW u v1 l) (h2:IntsW u v2 l):Calls Tryz.prog 14 #[v1,v2] u fun e w'=>e=.returned (.bool true)∧Kept u w':=by
 refine (sameInts_w l l v1 v2 u h1 h2).mono ?_
 rintro e w' ⟨rfl,h⟩
 exact ⟨by rw [decide_eq_true rfl],h⟩
end Go.Proofs.YtadckjclgakcaaaGreatDoor
