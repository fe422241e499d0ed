/- StateN, EngX, Same, SameW, FlowH0, EngY, GoodF, RunSt, RunP, SameS, RunLs, Choose, RunLc, StepPl, OpAr, StepA -/
import Derived.Test.YtblihfpigjiahaaGreatDoorZB29
import Derived.Test.YtblihfpigjiahaaGreatDoorZB11
import Derived.Test.YtblihfpigjiahaaGreatDoorZB08
import Derived.Test.YtblihfpigjiahaaGreatDoorZB15
import Derived.Test.YtblihfpigjiahaaGreatDoorStX
import Derived.Test.YtblihfpigjiahaaGreatDoorZB22
import Derived.Deep.RegionHeld3
import Derived.Deep.DeepCutAuto
import Derived.Test.YtblihfpigjiahaaGreatDoorChecked
import Derived.Test.YtblihfpigjiahaaGreatDoorZB01
import Derived.Test.YtblihfpigjiahaaGreatDoorZB12
import Derived.Test.YtblihfpigjiahaaGreatDoorZB16
set_option maxRecDepth 100000
set_option maxHeartbeats 8000000
namespace Go.Proofs.YtblihfpigjiahaaGreatDoor
open Go.RowKit
def BegPost (p:List Fn) (w:World) (e:Ending) (w':World):Prop :=
 ∃ v,e=.returned (.tuple #[v,.int .i64 (Zx p)])∧StAt w' v (if Zx p=0 then Xw p else St.zero)∧Kept w w'
theorem zero_at (w:World):StAt w (.agg #[.slice none 0 0,.int .i64 0,.slice none 0 0]) St.zero:=⟨_,_,rfl,FibersAt.nil _,IntsW.nil _⟩
theorem begin_bad (p:List Fn) (vp:Value) (w:World) (hp:ProgAt w vp p) (hk:KindsAt w) (hz:Zx p≠0) :
  Calls Tryz.prog 16 #[vp] w fun e w'=>BegPost p w e w':=by
 have hc:∀ u,Kept w u→Calls Tryz.prog 24 #[vp] u fun e w'=>e=.returned (.int .i64 (Zx p))∧Kept u w':=fun u hu=>progCheck_any p vp u (hp.kept hu) (hk.kept hu)
 have hzb:(Zx p != 0)=true:=by rw [bne_iff_ne]; exact hz
 have hif:(if Zx p=0 then Xw p else St.zero)=St.zero:=if_neg hz
 unfold BegPost
 rw [hif]
 have HC:=hide hc
 generalize Zx p=r at *
 clear hc hp hk hz hif
 go_enter Tryz.func16,Tryz.ntmps16
 go_wp2_with fail
 refine ((un HC) _ ((Kept.refl w).alloc _)).mono ?_
 rintro e w1 ⟨rfl,hk1⟩
 have L0:w1.heap[w.heap.size]?=some (.cells #[.slice none 0 0,.int .i64 0,.slice none 0 0] 26):=Zj hk1 (Zd rfl)
 have a0:w1.cell? ⟨w.heap.size,0,none⟩=some (.slice none 0 0):=Zk L0 rfl
 have a1:w1.cell? ⟨w.heap.size,1,none⟩=some (.int .i64 0):=Zk L0 rfl
 have a2:w1.cell? ⟨w.heap.size,2,none⟩=some (.slice none 0 0):=Zk L0 rfl
 have f0:=Zi L0 0
 have f1:=Zi L0 1
 have f2:=Zi L0 2
 have HL:=hide L0
 have HK1:=hide (((Kept.refl w).alloc _).trans hk1)
 clear L0 hk1
 go_wp2
 have M0:=Zs (Zs (Zs (un HL) 0 (.slice none 0 0)) 1 (.int .i64 0)) 2 (.slice none 0 0)
 have HKw:=hide (((((un HK1).setCell (p:=⟨w.heap.size,0,none⟩) (Nat.le_refl _) (.slice none 0 0)).setCell (p:=⟨w.heap.size,1,none⟩) (Nat.le_refl _) (.int .i64 0)).setCell (p:=⟨w.heap.size,2,none⟩) (Nat.le_refl _) (.slice none 0 0)))
 generalize ((w1.setCell ⟨w.heap.size,0,none⟩ (.slice none 0 0)).setCell ⟨w.heap.size,1,none⟩ (.int .i64 0)).setCell ⟨w.heap.size,2,none⟩ (.slice none 0 0)=w2 at *
 have k0:w2.cell? ⟨w.heap.size,0,none⟩=some (.slice none 0 0):=Zk M0 (by simp)
 have k1:w2.cell? ⟨w.heap.size,1,none⟩=some (.int .i64 0):=Zk M0 (by simp)
 have k2:w2.cell? ⟨w.heap.size,2,none⟩=some (.slice none 0 0):=Zk M0 (by simp)
 refine bodyPost_ret (v:=.tuple #[.agg #[.slice none 0 0,.int .i64 0,.slice none 0 0],.int .i64 r]) (by simp [results,Tryz.results16,go_sem,k0,k1,k2]) rfl ?_
 exact ⟨_,rfl,zero_at _,un HKw⟩
def BegNew (lo:Nat) (w:World) (e:Ending) (w':World):Prop :=
 ∃ b1 b2 b3,e=.returned (.tuple #[.agg #[.slice (some ⟨b3,0,none⟩) 1 1,.int .i64 0,.slice none 0 0],.int .i64 0])∧w.heap.size≤b1∧w.heap.size≤b2∧w.heap.size≤b3∧w'.heap[b1]?=some (.cells (ints (List.replicate lo 0)).toArray 3) ∧
  w'.heap[b2]?=some (.cells #[.int .i64 0,.int .i64 0,.slice (some ⟨b1,0,none⟩) lo lo,.slice none 0 0] 48)∧w'.heap[b3]?=some (.cells #[.slice (some ⟨b2,0,none⟩) 1 1,.int .i64 (-1)] 46)∧Kept w w'
theorem begin_new (p:List Fn) (b o n cp lo:Nat) (w:World) (hp:ProgAt w (.slice (some ⟨b,o,none⟩) n cp) p) (hk:KindsAt w) (hz:Zx p=0)
  (c1:w.cell? ⟨b,o + 1,none⟩=some (.int .i64 lo)) (hn:0 < n) (hlo:lo≤1000) :
  Calls Tryz.prog 16 #[.slice (some ⟨b,o,none⟩) n cp] w (BegNew lo w):=by
 have hc:∀ u,Kept w u→Calls Tryz.prog 24 #[.slice (some ⟨b,o,none⟩) n cp] u fun e w'=>e=.returned (.int .i64 0)∧Kept u w':=fun u hu=>by
  have:=progCheck_any p _ u (hp.kept hu) (hk.kept hu)
  rwa [hz] at this
 have HC:=hide hc
 have hmk:=make_ints lo (by omega)
 have hn1:(0:Int) < (n:Int):=by omega
 have HC1:=hide c1
 have lb:=Xd c1
 simp only at lb
 clear hc hp hk hz c1
 go_enter Tryz.func16,Tryz.ntmps16
 go_wp2_with fail
 refine ((un HC) _ ((Kept.refl w).alloc _)).mono ?_
 rintro e w1 ⟨rfl,hk1⟩
 have L0:w1.heap[w.heap.size]?=some (.cells #[.slice none 0 0,.int .i64 0,.slice none 0 0] 26):=Zj hk1 (Zd rfl)
 have c1:w1.cell? ⟨b,o + 1,none⟩=some (.int .i64 lo):=(((Kept.refl w).alloc _).trans hk1).cell (un HC1)
 have a0:w1.cell? ⟨w.heap.size,0,none⟩=some (.slice none 0 0):=Zk L0 rfl
 have a1:w1.cell? ⟨w.heap.size,1,none⟩=some (.int .i64 0):=Zk L0 rfl
 have a2:w1.cell? ⟨w.heap.size,2,none⟩=some (.slice none 0 0):=Zk L0 rfl
 have f0:=Zi L0 0
 have f1:=Zi L0 1
 have f2:=Zi L0 2
 have HL:=hide L0
 have HK1:=hide (((Kept.refl w).alloc _).trans hk1)
 have l1:w.heap.size < w1.heap.size:=(Array.getElem?_eq_some_iff.1 L0).1
 have lb1:b < w1.heap.size:=by omega
 have g0:∀ o1 o2 o3 o4,((((w1.alloc o1).alloc o2).alloc o3).alloc o4).cell? ⟨w.heap.size,0,none⟩=some (.slice none 0 0):=fun o1 o2 o3 o4=>Zk (Zg (Zg (Zg (Zg L0 o1) o2) o3) o4) rfl
 have h0:∀ o1 o2 o3 o4,((((w1.alloc o1).alloc o2).alloc o3).alloc o4).frozen? ⟨w.heap.size,0,none⟩=false:=fun o1 o2 o3 o4=>Zi (Zg (Zg (Zg (Zg L0 o1) o2) o3) o4) 0
 have g1:∀ o1 o2 o3 o4,((((w1.alloc o1).alloc o2).alloc o3).alloc o4).cell? ⟨w.heap.size,1,none⟩=some (.int .i64 0):=fun o1 o2 o3 o4=>Zk (Zg (Zg (Zg (Zg L0 o1) o2) o3) o4) rfl
 have h1:∀ o1 o2 o3 o4,((((w1.alloc o1).alloc o2).alloc o3).alloc o4).frozen? ⟨w.heap.size,1,none⟩=false:=fun o1 o2 o3 o4=>Zi (Zg (Zg (Zg (Zg L0 o1) o2) o3) o4) 1
 have g2:∀ o1 o2 o3 o4,((((w1.alloc o1).alloc o2).alloc o3).alloc o4).cell? ⟨w.heap.size,2,none⟩=some (.slice none 0 0):=fun o1 o2 o3 o4=>Zk (Zg (Zg (Zg (Zg L0 o1) o2) o3) o4) rfl
 have h2:∀ o1 o2 o3 o4,((((w1.alloc o1).alloc o2).alloc o3).alloc o4).frozen? ⟨w.heap.size,2,none⟩=false:=fun o1 o2 o3 o4=>Zi (Zg (Zg (Zg (Zg L0 o1) o2) o3) o4) 2
 clear L0 hk1
 go_wp2
 have hrep:Array.replicate lo (Value.int .i64 0)=(ints (List.replicate lo 0)).toArray:=by simp [ints]
 rw [hrep]
 generalize hB:w1.heap.size=B1 at *
 generalize hA:w.heap.size=A0 at *
 have N1:((((w1.alloc (.cells (ints (List.replicate lo 0)).toArray 3)).alloc (.cells #[.int .i64 0,.int .i64 0,.slice (some ⟨B1,0,none⟩) lo lo,.slice none 0 0] 48)).alloc (.cells #[.int .i64 0,.int .i64 0,.slice (some ⟨B1,0,none⟩) lo lo,.slice none 0 0] 48)).alloc (.cells #[.slice (some ⟨B1 + 1 + 1,0,none⟩) 1 1,.int .i64 (-1)] 46)).heap[B1]?=some (.cells (ints (List.replicate lo 0)).toArray 3):=Zg (Zg (Zg (Zd hB) _) _) _
 have N2:((((w1.alloc (.cells (ints (List.replicate lo 0)).toArray 3)).alloc (.cells #[.int .i64 0,.int .i64 0,.slice (some ⟨B1,0,none⟩) lo lo,.slice none 0 0] 48)).alloc (.cells #[.int .i64 0,.int .i64 0,.slice (some ⟨B1,0,none⟩) lo lo,.slice none 0 0] 48)).alloc (.cells #[.slice (some ⟨B1 + 1 + 1,0,none⟩) 1 1,.int .i64 (-1)] 46)).heap[B1 + 1 + 1]?=some (.cells #[.int .i64 0,.int .i64 0,.slice (some ⟨B1,0,none⟩) lo lo,.slice none 0 0] 48):=Zg (Zd (by simp [hB])) _
 have N3:((((w1.alloc (.cells (ints (List.replicate lo 0)).toArray 3)).alloc (.cells #[.int .i64 0,.int .i64 0,.slice (some ⟨B1,0,none⟩) lo lo,.slice none 0 0] 48)).alloc (.cells #[.int .i64 0,.int .i64 0,.slice (some ⟨B1,0,none⟩) lo lo,.slice none 0 0] 48)).alloc (.cells #[.slice (some ⟨B1 + 1 + 1,0,none⟩) 1 1,.int .i64 (-1)] 46)).heap[B1 + 1 + 1 + 1]?=some (.cells #[.slice (some ⟨B1 + 1 + 1,0,none⟩) 1 1,.int .i64 (-1)] 46):=Zd (by simp [hB])
 have N0:=Zg (Zg (Zg (Zg (un HL) (.cells (ints (List.replicate lo 0)).toArray 3)) (.cells #[.int .i64 0,.int .i64 0,.slice (some ⟨B1,0,none⟩) lo lo,.slice none 0 0] 48)) (.cells #[.int .i64 0,.int .i64 0,.slice (some ⟨B1,0,none⟩) lo lo,.slice none 0 0] 48)) (.cells #[.slice (some ⟨B1 + 1 + 1,0,none⟩) 1 1,.int .i64 (-1)] 46)
 have NK:=((((un HK1).alloc (.cells (ints (List.replicate lo 0)).toArray 3)).alloc (.cells #[.int .i64 0,.int .i64 0,.slice (some ⟨B1,0,none⟩) lo lo,.slice none 0 0] 48)).alloc (.cells #[.int .i64 0,.int .i64 0,.slice (some ⟨B1,0,none⟩) lo lo,.slice none 0 0] 48)).alloc (.cells #[.slice (some ⟨B1 + 1 + 1,0,none⟩) 1 1,.int .i64 (-1)] 46)
 clear g0 g1 g2 h0 h1 h2
 generalize (((w1.alloc (.cells (ints (List.replicate lo 0)).toArray 3)).alloc (.cells #[.int .i64 0,.int .i64 0,.slice (some ⟨B1,0,none⟩) lo lo,.slice none 0 0] 48)).alloc (.cells #[.int .i64 0,.int .i64 0,.slice (some ⟨B1,0,none⟩) lo lo,.slice none 0 0] 48)).alloc (.cells #[.slice (some ⟨B1 + 1 + 1,0,none⟩) 1 1,.int .i64 (-1)] 46)=wz at *
 have far:∀ {bb:Nat} {ob:Obj},A0 < bb→wz.heap[bb]?=some ob→(((wz.setCell ⟨A0,0,none⟩ (.slice (some ⟨B1 + 1 + 1 + 1,0,none⟩) 1 1)).setCell ⟨A0,1,none⟩ (.int .i64 0)).setCell ⟨A0,2,none⟩ (.slice none 0 0)).heap[bb]?=some ob:=fun hlt h =>
  Xz (Xz (Xz h (a:=⟨A0,0,none⟩) (Nat.ne_of_gt hlt) _) (a:=⟨A0,1,none⟩) (Nat.ne_of_gt hlt) _) (a:=⟨A0,2,none⟩) (Nat.ne_of_gt hlt) _
 have R1:=far l1 N1
 have R2:=far (by omega) N2
 have R3:=far (by omega) N3
 have M0:=Zs (Zs (Zs N0 0 (.slice (some ⟨B1 + 1 + 1 + 1,0,none⟩) 1 1)) 1 (.int .i64 0)) 2 (.slice none 0 0)
 have hle:w.heap.size≤A0:=by omega
 have HKw:=hide (((NK.setCell (p:=⟨A0,0,none⟩) hle (.slice (some ⟨B1 + 1 + 1 + 1,0,none⟩) 1 1)).setCell (p:=⟨A0,1,none⟩) hle (.int .i64 0)).setCell (p:=⟨A0,2,none⟩) hle (.slice none 0 0))
 clear far N0 N1 N2 N3 NK
 generalize ((wz.setCell ⟨A0,0,none⟩ (.slice (some ⟨B1 + 1 + 1 + 1,0,none⟩) 1 1)).setCell ⟨A0,1,none⟩ (.int .i64 0)).setCell ⟨A0,2,none⟩ (.slice none 0 0)=w2 at *
 have k0:w2.cell? ⟨A0,0,none⟩=some (.slice (some ⟨B1 + 1 + 1 + 1,0,none⟩) 1 1):=Zk M0 (by simp)
 have k1:w2.cell? ⟨A0,1,none⟩=some (.int .i64 0):=Zk M0 (by simp)
 have k2:w2.cell? ⟨A0,2,none⟩=some (.slice none 0 0):=Zk M0 (by simp)
 refine bodyPost_ret (v:=.tuple #[.agg #[.slice (some ⟨B1 + 1 + 1 + 1,0,none⟩) 1 1,.int .i64 0,.slice none 0 0],.int .i64 0]) (by simp [results,Tryz.results16,go_sem,k0,k1,k2]) rfl ?_
 exact ⟨_,_,_,rfl,by omega,by omega,by omega,R1,R2,R3,un HKw⟩
theorem begin_go (p:List Fn) (b o n cp lo:Nat) (w:World) (hp:ProgAt w (.slice (some ⟨b,o,none⟩) n cp) p) (hk:KindsAt w) (hz:Zx p=0)
  (c1:w.cell? ⟨b,o + 1,none⟩=some (.int .i64 lo)) (hn:0 < n) (hlo:lo≤1000) :
  Calls Tryz.prog 16 #[.slice (some ⟨b,o,none⟩) n cp] w fun e w'=>∃ v,e=.returned (.tuple #[v,.int .i64 0])∧StAt w' v ⟨[⟨[⟨0,0,List.replicate lo 0,[]⟩],-1⟩],0,[]⟩∧Kept w w' :=
 (begin_new p b o n cp lo w hp hk hz c1 hn hlo).mono fun _ _ ⟨_,_,_,he,_,_,_,h1,h2,h3,hk⟩=>⟨_,he,begin_at h1 h2 h3 hlo,hk⟩
theorem stBegin_any (p:List Fn) (vp:Value) (w:World) (hp:ProgAt w vp p) (hk:KindsAt w) :
  Calls Tryz.prog 16 #[vp] w fun e w'=>BegPost p w e w':=by
 by_cases hz:Zx p=0
 ·unfold BegPost
  rw [if_pos hz,hz]
  obtain ⟨_,hp0,hck⟩:=Ka hz
  obtain ⟨oa,cp,rfl,_,hcell⟩:=id hp
  obtain ⟨b,o,cv,rfl,_,c1,_,_⟩:=hcell 0 _ (Zm p 0 Fn.zero hp0)
  have hroom:0≤(p.getD 0 Fn.zero).locals∧(p.getD 0 Fn.zero).locals≤4:=by
   obtain ⟨i,hi,_,_,hr,_⟩:=chkS_zero (hck 0 hp0)
   obtain rfl:i=0:=by omega
   have:=Qz.1 hr
   omega
  obtain ⟨lo,hlo⟩:∃ lo:Nat,(p.getD 0 Fn.zero).locals=lo:=⟨(p.getD 0 Fn.zero).locals.toNat,by omega⟩
  unfold Xw
  rw [hlo] at c1 hroom ⊢
  rw [Int.toNat_natCast]
  exact begin_go p b o _ cp lo w hp hk hz (by simpa using c1) hp0 (by omega)
 ·exact begin_bad p vp w hp hk hz
theorem sameFrom {l1 l2:List Int} (hl:l1.length=l2.length) (h:∀ i,i < l1.length→l1.getD i 0=l2.getD i 0):l1=l2:=by
 apply List.ext_getElem hl
 intro k h1 h2
 have:=h k h1
 simpa [List.getD,h1,h2] using this
theorem sameInts_w (l1 l2:List Int) (v1 v2:Value) (w:World) (h1:IntsW w v1 l1) (h2:IntsW w v2 l2) :
  Calls Tryz.prog 28 #[v1,v2] w fun e w'=>e=.returned (.bool (decide (l1=l2)))∧Kept w w':=by
 obtain ⟨oa,ca,rfl,n1,i1⟩:=h1
 obtain ⟨ob,cb,rfl,n2,i2⟩:=h2
 by_cases hl:l1.length=l2.length
 ·have HI1:=hide i1
  have HI2:=hide i2
  have HL:=hide hl
  have hl':((l1.length:Int) != (l2.length:Int))=false:=by rw [hl]; simp
  clear i1 i2 hl
  go_enter Tryz.func28,Tryz.ntmps28
  go_wp2
  go_loopw [5] (fun s5 wr=>∃ k:Nat,k≤l1.length∧s5=.int .i64 k∧Hid (∀ i,i < k→l1.getD i 0=l2.getD i 0)∧Hid (Kept w wr)) (fun s5 _=>l1.length - (intOf s5).toNat)
  case atStart=>exact ⟨0,Nat.zero_le _,rfl,(fun i hi=>by omega),Kept.refl _⟩
  case round =>
   obtain ⟨k,hkm,rfl,HA,HKr⟩:=hrel
   by_cases hlt:k < l1.length
   ·have hlt2:k < l2.length:=by have:=un HL; omega
    obtain ⟨b1,o1,e1,c1⟩:=(un HI1) k _ (Zm l1 k 0 hlt)
    obtain ⟨b2,o2,e2,c2⟩:=(un HI2) k _ (Zm l2 k 0 hlt2)
    have d1:=(un HKr).cell c1
    have d2:=(un HKr).cell c2
    generalize hz1:l1.getD k 0=z1 at *
    generalize hz2:l2.getD k 0=z2 at *
    have Z1:=hide hz1
    have Z2:=hide hz2
    subst e1 e2
    clear c1 c2 hz1 hz2
    by_cases hz:z1=z2
    ·have hzb:(z1 != z2)=false:=by rw [hz]; simp
     have HZ:=hide hz
     clear hz
     go_wp2
     go_quiet (fail)
     go_wp2
     go_roundw
     case rel =>
      refine ⟨k + 1,by omega,by go_num,?_,(un HKr).drewN _⟩
      intro i hi
      by_cases e:i=k
      ·subst e; rw [un Z1,un Z2,un HZ]
      ·exact (un HA) i (by omega)
     case measure=>simp [intOf]; omega
    ·have hzb:(z1 != z2)=true:=by rw [bne_iff_ne]; exact hz
     have HZ:=hide hz
     clear hz
     go_wp2
     go_quiet (fail)
     go_wp2
     go_ret
     refine ⟨?_,(un HKr).drewN _⟩
     rw [decide_eq_false]
     ·rfl
     ·intro e
      apply un HZ
      rw [← un Z1,← un Z2,e]
   ·go_wp2
    go_ret
    refine ⟨?_,un HKr⟩
    rw [decide_eq_true]
    ·rfl
    ·exact sameFrom (un HL) (fun i hi=>(un HA) i (by omega))
 ·have hl':((l1.length:Int) != (l2.length:Int))=true:=by rw [bne_iff_ne]; omega
  have HL:=hide hl
  clear i1 i2 hl
  go_enter Tryz.func28,Tryz.ntmps28
  go_wp2
  go_ret
  refine ⟨?_,Kept.refl _⟩
  rw [decide_eq_false]
  ·rfl
  ·intro e; exact (un HL) (by rw [e])
theorem one_prog {w:World} {b0 b n:Nat} {c:List (Int × Int)} {A:Array Value} (h0:w.heap[b0]?=some (.cells A 66)) (hA:A=(flatOps c).toArray) (hl:c.length≤8796093022208) (hn:n=c.length)
  (h:w.heap[b]?=some (.cells #[.int .i64 0,.int .i64 0,.slice (some ⟨b0,0,none⟩) n n] 70)):ProgAt w (.slice (some ⟨b,0,none⟩) 1 1) [⟨0,0,c⟩]:=by
 refine progAt_block h [(⟨0,0,c⟩,.slice (some ⟨b0,0,none⟩) n n)] rfl (by simp) ?_ 1 1 rfl _ rfl
 intro x hx
 simp only [List.mem_cons,List.not_mem_nil,or_false] at hx
 subst hx
 exact codeAt_block h0 c hA hl n n hn
theorem begin_begun (p:List Fn):Xw p=⟨[⟨[Qg p 0 []],-1⟩],0,[]⟩:=by simp [Xw,Qg]
theorem begin_right {p:List Fn} (h:Zx p=0):Zy p (Xw p)=0:=by
 obtain ⟨_,h0,_⟩:=Ka h
 have hl:0≤(p.getD 0 Fn.zero).locals:=by have:=room_of h h0; omega
 obtain ⟨hf,hh⟩:=frame_begun h (f:=0) (by omega) (by omega) (vals:=[]) (by simpa using hl)
 refine good_right (l:=[0]) ⟨h,by simp [Xw],by simp [Xw],fun k hk=>?_,?_,by simp,.inr rfl,by simp [Xw],fun hn=>absurd (by simp) hn,fun k hk=>?_⟩
 ·obtain rfl:k=0:=by simp [Xw] at hk; omega
  simp [Za,Xw]
 ·simp [Path,Xw,Xf]
 ·obtain rfl:k=0:=by simp [Xw] at hk; omega
  rw [begin_begun]
  simp [Za,Xt,Jg,hf,hh]
  rfl
theorem rnS_small {p:List Fn} {s:St} {f:Int}:Small (rnS p s f).1:=by
 have hz:Small St.zero:=by unfold Small St.zero; simp
 unfold rnS
 split
 ·split
  ·rename_i h; exact Jz (run_right _ h)
  ·exact hz
 ·exact hz
theorem stpS_small {p:List Fn} {s:St}:Small (stpS p s).1:=by
 unfold stpS
 split
 ·rename_i h
  unfold oneS
  split
  ·exact zero_small
  ·exact step_small h (by omega)
 ·exact zero_small
theorem own_st {base:Nat} {w:World} {V:Key→Value} {s:St} (h:Own base w V s) (hs:Small s):∃ oa n cap c oo m co,(.agg #[V .fibers,.int .i64 s.now,V .out]:Value)=.agg #[.slice oa n cap,.int .i64 c,.slice oo m co]∧StAt w (.agg #[.slice oa n cap,.int .i64 c,.slice oo m co]) s:=by
 obtain ⟨xs,hr,_⟩:=h.piece .fibers trivial
 obtain ⟨o3,c3,E3,_⟩:=Zo hr
 have hr4:=h.piece .out trivial
 obtain ⟨o4,c4,E4,_⟩:=Zo hr4
 have:=h.reads hs
 rw [E3,E4] at this
 exact ⟨_,_,_,_,_,_,_,by rw [E3,E4],this⟩
theorem runRun_st (p:List Fn) (s:St) (vp vs:Value) (fuel:Int) (w:World) (hp:ProgAt w vp p) (hs:StAt w vs s) (hkd:KindsAt w) :
  Calls Tryz.prog 8 #[vp,vs,.int .i64 fuel] w fun e w'=>∃ oa n cap c oo m co,e=.returned (.tuple #[.agg #[.slice oa n cap,.int .i64 c,.slice oo m co],.int .i64 (rnS p s fuel).2.1,.int .i64 (rnS p s fuel).2.2])∧StAt w' (.agg #[.slice oa n cap,.int .i64 c,.slice oo m co]) (rnS p s fuel).1∧Kept w w':=by
 refine (runRun_any p s vp vs fuel w hp hs hkd).mono ?_
 rintro e w' ⟨V,rfl,ho,hk⟩
 obtain ⟨oa,n,cap,c,oo,m,co,h1,h2⟩:=own_st ho rnS_small
 exact ⟨oa,n,cap,c,oo,m,co,by rw [h1],h2,hk⟩
theorem stepDo_st (p:List Fn) (s:St) (vp vs:Value) (w:World) (hp:ProgAt w vp p) (hs:StAt w vs s) (hkd:KindsAt w) :
  Calls Tryz.prog 15 #[vp,vs] w fun e w'=>∃ oa n cap c oo m co,e=.returned (.tuple #[.agg #[.slice oa n cap,.int .i64 c,.slice oo m co],.int .i64 (stpS p s).2])∧StAt w' (.agg #[.slice oa n cap,.int .i64 c,.slice oo m co]) (stpS p s).1∧Kept w w':=by
 refine (stepDo_any p s vp vs w hp hs hkd).mono ?_
 rintro e w' ⟨V,rfl,ho,hk⟩
 obtain ⟨oa,n,cap,c,oo,m,co,h1,h2⟩:=own_st ho stpS_small
 exact ⟨oa,n,cap,c,oo,m,co,by rw [h1],h2,hk⟩
theorem sameStates_same (s:St) (v1 v2:Value) (w:World) (h1:StAt w v1 s) (h2:StAt w v2 s) :
  Calls Tryz.prog 10 #[v1,v2] w fun e w'=>e=.returned (.bool true)∧Kept w w':=by
 obtain ⟨vf1,vo1,rfl,hf1,ho1⟩:=h1
 obtain ⟨vf2,vo2,rfl,hf2,ho2⟩:=h2
 obtain ⟨oa1,cap1,rfl,hl,i1⟩:=hf1
 obtain ⟨oa2,cap2,rfl,_,i2⟩:=hf2
 have HSI:Hid (∀ u,Kept w u→Calls Tryz.prog 28 #[vo1,vo2] u fun e w'=>e=.returned (.bool true)∧Kept u w'):=hide (fun u hu=>by
  have:=sameInts_w s.out s.out vo1 vo2 u (ho1.kept hu) (ho2.kept hu)
  rwa [decide_eq_true rfl] at this)
 obtain ⟨oo1,co1,rfl,_,_⟩:=ho1
 obtain ⟨oo2,co2,rfl,_,_⟩:=ho2
 have hn1:(s.now != s.now)=false:=by simp
 have hn2:((s.fibers.length:Int) != (s.fibers.length:Int))=false:=by simp
 generalize hN:s.fibers.length=N at *
 generalize s.out.length=M at *
 have HI1:=hide i1
 have HI2:=hide i2
 have HN:=hide hN
 clear i1 i2 hN
 go_enter Tryz.func10,Tryz.ntmps10
 go_wp2_with fail
 refine ((un HSI) _ (((Kept.refl w).alloc _).alloc _)).mono ?_
 rintro e w1 ⟨rfl,hk1⟩
 have hkw:=(((Kept.refl w).alloc (.cells #[.slice oa1 N cap1,.int .i64 s.now,.slice oo1 M co1] 26)).alloc (.cells #[.slice oa2 N cap2,.int .i64 s.now,.slice oo2 M co2] 26)).trans hk1
 have L0:=Zj hk1 (Zg (Zd (w:=w) (o:=.cells #[.slice oa1 N cap1,.int .i64 s.now,.slice oo1 M co1] 26) rfl) (.cells #[.slice oa2 N cap2,.int .i64 s.now,.slice oo2 M co2] 26))
 have L1:w1.heap[w.heap.size + 1]?=some (.cells #[.slice oa2 N cap2,.int .i64 s.now,.slice oo2 M co2] 26):=Zj hk1 (Zd (by simp))
 have X0:Hid (w1.cell? ⟨w.heap.size,0,none⟩=some (.slice oa1 N cap1)):=hide (Zk L0 rfl)
 have Y0:Hid (w1.cell? ⟨w.heap.size + 1,0,none⟩=some (.slice oa2 N cap2)):=hide (Zk L1 rfl)
 have HKW:=hide hkw
 clear hk1 hkw L0 L1 HSI
 go_wp2
 go_loopw [5] (fun s5 wr=>∃ k:Nat,k≤N∧s5=.int .i64 k∧Hid (Kept w1 wr)) (fun s5 _=>N - (intOf s5).toNat)
 case atStart=>exact ⟨0,Nat.zero_le _,rfl,Kept.refl _⟩
 case round =>
  obtain ⟨k,hkm,rfl,HKr⟩:=hrel
  have dx:=(un HKr).cell (un X0)
  have dy:=(un HKr).cell (un Y0)
  by_cases hlt:k < N
  ·obtain ⟨f,hx⟩:∃ f,s.fibers[k]?=some f:=⟨_,List.getElem?_eq_getElem (by rw [un HN]; exact hlt)⟩
   obtain ⟨p1,o1,vf1,rfl,x0,x1,hc1⟩:=(un HI1) k _ hx
   obtain ⟨p2,o2,vf2,rfl,y0,y1,hc2⟩:=(un HI2) k _ hx
   have hk:=(un HKW).trans (un HKr)
   obtain ⟨oc1,cc1,rfl,hlf,j1⟩:=hc1
   obtain ⟨oc2,cc2,rfl,_,j2⟩:=hc2
   have HJ1:=hide j1
   have HJ2:=hide j2
   have hk1:(k:Int) < (N:Int):=by omega
   have hk0:(0:Int)≤(k:Int):=by omega
   have HY:Hid (∀ u,Kept wr u→u.cell? ⟨w.heap.size,0,none⟩=some (.slice (some ⟨p1,o1,none⟩) N cap1)∧u.cell? ⟨w.heap.size + 1,0,none⟩=some (.slice (some ⟨p2,o2,none⟩) N cap2)∧u.cell? ⟨p1,o1 + k * 2,none⟩=some (.slice oc1 f.frames.length cc1)∧u.cell? ⟨p1,o1 + k * 2 + 1,none⟩=some (.int .i64 f.caller)∧u.cell? ⟨p2,o2 + k * 2,none⟩=some (.slice oc2 f.frames.length cc2)∧u.cell? ⟨p2,o2 + k * 2 + 1,none⟩=some (.int .i64 f.caller)) :=
    hide (fun u hu=>⟨hu.cell dx,hu.cell dy,hu.cell (hk.cell x0),hu.cell (hk.cell x1),hu.cell (hk.cell y0),hu.cell (hk.cell y1)⟩)
   have HKW2:=hide hk
   clear j1 j2 x0 x1 y0 y1 hk
   go_wp2_with fail
   go_cut [6,7] from 33 to 108 (fun s6 s7 wx=>∃ b6 b7,s6=.pointer (some ⟨b6,0,none⟩)∧s7=.pointer (some ⟨b7,0,none⟩)∧Hid (wx.cell? ⟨b6,0,none⟩=some (.slice oc1 f.frames.length cc1)∧wx.cell? ⟨b6,1,none⟩=some (.int .i64 f.caller)∧wx.cell? ⟨b7,0,none⟩=some (.slice oc2 f.frames.length cc2)∧wx.cell? ⟨b7,1,none⟩=some (.int .i64 f.caller)∧Kept wr wx))
   case first =>
    go_region_held3 (fun u=>u.cell? ⟨w.heap.size,0,none⟩=some (.slice (some ⟨p1,o1,none⟩) N cap1)∧u.cell? ⟨w.heap.size + 1,0,none⟩=some (.slice (some ⟨p2,o2,none⟩) N cap2)∧u.cell? ⟨p1,o1 + k * 2,none⟩=some (.slice oc1 f.frames.length cc1)∧u.cell? ⟨p1,o1 + k * 2 + 1,none⟩=some (.int .i64 f.caller)∧u.cell? ⟨p2,o2 + k * 2,none⟩=some (.slice oc2 f.frames.length cc2)∧u.cell? ⟨p2,o2 + k * 2 + 1,none⟩=some (.int .i64 f.caller))
     (exact (un HY) _ (by repeat (first | exact Kept.refl _ | refine Kept.drew ?_ | refine Kept.alloc ?_ _ | refine Kept.setCell ?_ (by simp) _))) (fail)
    all_goals go_wp2_with fail
    all_goals go_meet
    all_goals exact ⟨_,_,rfl,rfl,hide ⟨by simp,by simp,by simp,by simp,(((Kept.refl wr).alloc _).alloc _).drew⟩⟩
   case rest =>
    obtain ⟨b6,b7,rfl,rfl,HC⟩:=hcut
    obtain ⟨z0,z1,z2,z3,hkc⟩:=un HC
    have hn3:(f.caller != f.caller)=false:=by simp
    have HZ0:=hide z0
    have HZ2:=hide z2
    have HKC:=hide hkc
    have HKr0:=HKr
    have HFW:=hide ((un HKW2).trans hkc)
    generalize hq:f.frames.length=q at *
    have HQ:=hide hq
    have hn4:((q:Int) != (q:Int))=false:=by simp
    clear HC hkc hq dx dy HY
    go_wp2
    clear z0 z1 z2 z3
    go_loopw [8] (fun s8 wr=>∃ i:Nat,i≤q∧s8=.int .i64 i∧Hid (Kept wc wr)) (fun s8 _=>q - (intOf s8).toNat)
    case atStart=>exact ⟨0,Nat.zero_le _,rfl,Kept.refl _⟩
    case round =>
     obtain ⟨i,hiq,rfl,HKi⟩:=hrel
     have dz:=(un HKi).cell (un HZ0)
     have dw:=(un HKi).cell (un HZ2)
     by_cases hil:i < q
     ·obtain ⟨x,hx2⟩:∃ x,f.frames[i]?=some x:=⟨_,List.getElem?_eq_getElem (by rw [un HQ]; exact hil)⟩
      obtain ⟨g1,t1,vl1,vs1,rfl,a0,a1,a2,a3,hvl1,hvs1⟩:=(un HJ1) i _ hx2
      obtain ⟨g2,t2,vl2,vs2,rfl,e0,e1,e2,e3,hvl2,hvs2⟩:=(un HJ2) i _ hx2
      have hk:=(un HFW).trans (un HKi)
      have HSL:Hid (∀ u,Kept wr u→Calls Tryz.prog 28 #[vl1,vl2] u fun e w'=>e=.returned (.bool true)∧Kept u w'):=hide (fun u hu=>by
       have:=sameInts_w x.locals x.locals vl1 vl2 u (hvl1.kept (hk.trans hu)) (hvl2.kept (hk.trans hu))
       rwa [decide_eq_true rfl] at this)
      have HSS:Hid (∀ u,Kept wr u→Calls Tryz.prog 28 #[vs1,vs2] u fun e w'=>e=.returned (.bool true)∧Kept u w'):=hide (fun u hu=>by
       have:=sameInts_w x.stack x.stack vs1 vs2 u (hvs1.kept (hk.trans hu)) (hvs2.kept (hk.trans hu))
       rwa [decide_eq_true rfl] at this)
      obtain ⟨ol1,cl1,rfl,_,_⟩:=hvl1
      obtain ⟨os1,cs1,rfl,_,_⟩:=hvs1
      obtain ⟨ol2,cl2,rfl,_,_⟩:=hvl2
      obtain ⟨os2,cs2,rfl,_,_⟩:=hvs2
      have HYi:Hid (∀ u,Kept wr u→u.cell? ⟨b6,0,none⟩=some (.slice (some ⟨g1,t1,none⟩) q cc1)∧u.cell? ⟨b7,0,none⟩=some (.slice (some ⟨g2,t2,none⟩) q cc2)∧u.cell? ⟨g1,t1 + i * 4,none⟩=some (.int .i64 x.fn)∧u.cell? ⟨g1,t1 + i * 4 + 1,none⟩=some (.int .i64 x.at_)∧u.cell? ⟨g1,t1 + i * 4 + 2,none⟩=some (.slice ol1 x.locals.length cl1)∧u.cell? ⟨g1,t1 + i * 4 + 3,none⟩=some (.slice os1 x.stack.length cs1)∧u.cell? ⟨g2,t2 + i * 4,none⟩=some (.int .i64 x.fn)∧u.cell? ⟨g2,t2 + i * 4 + 1,none⟩=some (.int .i64 x.at_)∧u.cell? ⟨g2,t2 + i * 4 + 2,none⟩=some (.slice ol2 x.locals.length cl2)∧u.cell? ⟨g2,t2 + i * 4 + 3,none⟩=some (.slice os2 x.stack.length cs2)) :=
       hide (fun u hu=>⟨hu.cell dz,hu.cell dw,hu.cell (hk.cell a0),hu.cell (hk.cell a1),hu.cell (hk.cell a2),hu.cell (hk.cell a3),hu.cell (hk.cell e0),hu.cell (hk.cell e1),hu.cell (hk.cell e2),hu.cell (hk.cell e3)⟩)
      have hi1:(i:Int) < (q:Int):=by omega
      have hi0:(0:Int)≤(i:Int):=by omega
      have hn5:(x.fn != x.fn)=false:=by simp
      have hn6:(x.at_ != x.at_)=false:=by simp
      clear a0 a1 a2 a3 e0 e1 e2 e3 hk hx2
      go_wp2_with fail
      go_cut [9,10] from 64 to 108 (fun s9 s10 wx=>∃ b9 b10,s9=.pointer (some ⟨b9,0,none⟩)∧s10=.pointer (some ⟨b10,0,none⟩)∧Hid (wx.heap[b9]?=some (.cells #[.int .i64 x.fn,.int .i64 x.at_,.slice ol1 x.locals.length cl1,.slice os1 x.stack.length cs1] 48)∧wx.heap[b10]?=some (.cells #[.int .i64 x.fn,.int .i64 x.at_,.slice ol2 x.locals.length cl2,.slice os2 x.stack.length cs2] 48)∧Kept wr wx))
      case first =>
       go_region_held3 (fun u=>u.cell? ⟨b6,0,none⟩=some (.slice (some ⟨g1,t1,none⟩) q cc1)∧u.cell? ⟨b7,0,none⟩=some (.slice (some ⟨g2,t2,none⟩) q cc2)∧u.cell? ⟨g1,t1 + i * 4,none⟩=some (.int .i64 x.fn)∧u.cell? ⟨g1,t1 + i * 4 + 1,none⟩=some (.int .i64 x.at_)∧u.cell? ⟨g1,t1 + i * 4 + 2,none⟩=some (.slice ol1 x.locals.length cl1)∧u.cell? ⟨g1,t1 + i * 4 + 3,none⟩=some (.slice os1 x.stack.length cs1)∧u.cell? ⟨g2,t2 + i * 4,none⟩=some (.int .i64 x.fn)∧u.cell? ⟨g2,t2 + i * 4 + 1,none⟩=some (.int .i64 x.at_)∧u.cell? ⟨g2,t2 + i * 4 + 2,none⟩=some (.slice ol2 x.locals.length cl2)∧u.cell? ⟨g2,t2 + i * 4 + 3,none⟩=some (.slice os2 x.stack.length cs2))
        (exact (un HYi) _ (by repeat (first | exact Kept.refl _ | refine Kept.drew ?_ | refine Kept.alloc ?_ _ | refine Kept.setCell ?_ (by simp) _))) (fail)
       all_goals go_wp2_with fail
       all_goals go_meet
       all_goals first
        | exact ⟨_,_,rfl,rfl,hide ⟨Zg (Zd rfl) _,Zd (by simp),(((Kept.refl wr).alloc _).alloc _).drew⟩⟩
        | exact ⟨_,_,rfl,rfl,hide ⟨Zd (by simp),Zg (Zd rfl) _,(((Kept.refl wr).alloc _).alloc _).drew⟩⟩
      case rest =>
       obtain ⟨b9,b10,rfl,rfl,HD⟩:=hcut
       obtain ⟨l9,l10,hkd⟩:=un HD
       have y0:=Zk l9 (i:=0) rfl
       have y1:=Zk l9 (i:=1) rfl
       have y2:=Zk l9 (i:=2) rfl
       have y4:=Zk l10 (i:=0) rfl
       have y5:=Zk l10 (i:=1) rfl
       have y6:=Zk l10 (i:=2) rfl
       have HL9:=hide l9
       have HL10:=hide l10
       have HKD:=hide hkd
       clear HD l9 l10 hkd dz dw HYi
       go_wp2_with fail
       refine ((un HSL) _ (un HKD)).mono ?_
       rintro e w4 ⟨rfl,hk4⟩
       have y3:=Zk (Zj hk4 (un HL9)) (i:=3) rfl
       have y7:=Zk (Zj hk4 (un HL10)) (i:=3) rfl
       have HK4:=hide ((un HKD).trans hk4)
       clear hk4
       go_wp2_with fail
       refine ((un HSS) _ (un HK4)).mono ?_
       rintro e w5 ⟨rfl,hk5⟩
       have HK5:=hide ((un HK4).trans hk5)
       clear hk5
       go_wp2
       go_roundw
       case rel=>exact ⟨i + 1,by omega,by go_num,(un HKi).trans (un HK5)⟩
       case measure=>simp [intOf]; omega
     ·have hi1:¬ ((i:Int) < (q:Int)):=by omega
      go_wp2
      go_roundw
      case rel=>exact ⟨k + 1,by omega,by go_num,(un HKr0).trans ((un HKC).trans (un HKi))⟩
      case measure=>simp [intOf]; omega
  ·go_wp2
   go_ret
   exact ⟨rfl,(un HKW).trans (un HKr)⟩
theorem runRun_gives (p:List Fn) (s:St) (vp vs:Value) (fuel:Int) (w:World) (hp:ProgAt w vp p) (hs:StAt w vs s) (hkd:KindsAt w):GivesSt 8 #[vp,vs,.int .i64 fuel] w (rnS p s fuel).1 [.int .i64 (rnS p s fuel).2.1,.int .i64 (rnS p s fuel).2.2]:=runRun_st p s vp vs fuel w hp hs hkd
theorem stepDo_gives (p:List Fn) (s:St) (vp vs:Value) (w:World) (hp:ProgAt w vp p) (hs:StAt w vs s) (hkd:KindsAt w):GivesSt 15 #[vp,vs] w (stpS p s).1 [.int .i64 (stpS p s).2]:=stepDo_st p s vp vs w hp hs hkd
theorem sameInts_is (l:List Int) (u:World) (v1 v2:Value) (h1:IntsW u v1 l) (h2:IntsW u v2 l):Calls Tryz.prog 28 #[v1,v2] u fun e w'=>e=.returned (.bool true)∧Kept u w':=by
 refine (sameInts_w l l v1 v2 u h1 h2).mono ?_
 rintro e w' ⟨rfl,h⟩
 exact ⟨by rw [decide_eq_true rfl],h⟩
def chooseS (c:Int) (n:Nat):Nat:=((if c < 0 then -(c + 1) else c) % n).toNat
theorem chooseS_eq (c:Int) {n:Nat} (h:0 < n):((chooseS c n:Nat):Int)=(if c < 0 then -(c + 1) else c) % n:=by
 unfold chooseS
 have h2:=Int.emod_nonneg (if c < 0 then -(c + 1) else c) (show (n:Int)≠0 by omega)
 omega
theorem ret_int {k:IntKind} {a b:Int} (h:a=b):Ending.returned (.int k a)=.returned (.int k b):=by rw [h]
theorem choose_any (c:Int) (n:Nat) (w:World) (hw:(Lit.int .i64 c).wf=true) (hn:0 < n) (hm:n≤8796093022208) :
  Calls Tryz.prog 9 #[.int .i64 c,.int .i64 n] w fun e w'=>e=.returned (.int .i64 (chooseS c n))∧w=w':=by
 have hb:-9223372036854775808≤c∧c≤9223372036854775807:=by
  simp only [Lit.wf,Bool.and_eq_true,decide_eq_true_eq] at hw
  exact hw
 rw [chooseS_eq c hn]
 have hz:((n:Int) == 0)=false:=beq_eq_false_iff_ne.2 (by omega)
 obtain ⟨hb1,hb2⟩:=hb
 by_cases h:c < 0
 ·rw [if_pos h]
  go_enter Tryz.func9,Tryz.ntmps9
  go_wp2
  go_ret
  exact ⟨ret_int (by rw [← Int.neg_tmod]; exact Int.tmod_eq_emod_of_nonneg (by omega)),rfl⟩
 ·rw [if_neg h]
  go_enter Tryz.func9,Tryz.ntmps9
  go_wp2
  go_ret
  exact ⟨ret_int (by rfl),rfl⟩
theorem choose_is (c:Int) (n:Nat) (hw:(Lit.int .i64 c).wf=true) (hn:0 < n) (hm:n≤8796093022208) (u:World):Calls Tryz.prog 9 #[.int .i64 c,.int .i64 n] u fun e w'=>e=.returned (.int .i64 (chooseS c n))∧w'=u:=by
 refine (choose_any c n u hw hn hm).mono ?_
 rintro e w' ⟨rfl,h⟩
 exact ⟨rfl,h.symm⟩
def SameBut (s t:St) (a b:Nat):Prop:=t.fibers.length=s.fibers.length∧∀ k,k≠a→k≠b→Za t k=Za s k
theorem SameBut.turn {s t:St} {a b:Nat} (h:SameBut s t a b) {n:Int} (hn:n.toNat=a∨n.toNat=b) (g:Fb→Fb):SameBut s (t.turn n g) a b :=
 ⟨by simpa [St.turn] using h.1,fun k ha hb=>by
  rw [← h.2 k ha hb]
  exact getD_set_ne _ _ _ _ _ (by rcases hn with e | e <;> omega)⟩
theorem SameBut.now {s t:St} {a b:Nat} (h:SameBut s t a b) (z:Int):SameBut s { t with now:=z } a b:=h
def OneS (s:St) (r:St × Int):Prop:=r.2=0→(r.1.fibers.length=s.fibers.length∨r.1.fibers.length=s.fibers.length + 1)∧(r.1.out=s.out∨∃ v,r.1.out=s.out++[v])∧∀ k,k < s.fibers.length→k≠s.now.toNat→(k:Int)≠r.1.now→Za r.1 k=Za s k
theorem one_err {s t:St} {e:Int} (h:e≠0):OneS s (t,e):=fun h'=>absurd h' h
theorem Ql {s:St} {c:Prop} [Decidable c] {a b:St × Int} (ha:c→OneS s a) (hb:¬ c→OneS s b):OneS s (if c then a else b):=by
 split
 ·exact ha ‹_›
 ·exact hb ‹_›
theorem SameBut.one {s t:St} {b:Nat} (h:SameBut s t s.now.toNat b) (hb:b=s.now.toNat∨t.now=b) (ho:t.out=s.out):OneS s (t,0):=fun _ =>
 ⟨.inl h.1,.inl ho,fun k _ h1 h2=>h.2 k h1 (by
  rcases hb with e | e
  ·omega
  ·rw [e] at h2; omega)⟩
theorem SameBut.oneOut {s t:St} (h:SameBut s t s.now.toNat s.now.toNat) (ho:t.out=s.out) (v:Int):OneS s (putS t v):=by
 unfold putS
 exact Ql (fun _=>one_err (by decide)) (fun _ _=>⟨.inl h.1,.inr ⟨v,by rw [ho]⟩,fun k _ h1 _=>h.2 k h1 h1⟩)
theorem done_one (p:List Fn) (s:St):OneS s (Zr p s):=by
 unfold Zr
 extract_lets x s1
 have h1:SameBut s s1 s.now.toNat s.now.toNat:=(show SameBut s s _ _ from ⟨rfl,fun _ _ _=>rfl⟩).turn (.inl rfl) _
 have ho:s1.out=s.out:=rfl
 have hw:s1.now=s.now:=rfl
 clear_value x s1
 have hp:SameBut s (Zc s1) s.now.toNat s.now.toNat:=h1.turn (.inl (by rw [hw])) _
 have hpp:SameBut s (Zc (Zc s1)) s.now.toNat s.now.toNat:=hp.turn (.inl (by show s1.now.toNat=_; rw [hw])) _
 have wide:∀ {t:St} (b:Nat),SameBut s t s.now.toNat s.now.toNat→SameBut s t s.now.toNat b:=fun b h=>⟨h.1,fun k h1 _=>h.2 k h1 h1⟩
 have fin:∀ {t:St},SameBut s t s.now.toNat s.now.toNat→t.out=s.out→OneS s (t,0):=fun h ho=>h.one (.inl rfl) ho
 have N:s1.now.toNat=s.now.toNat:=by rw [hw]
 refine Ql (fun _=>fin (h1.turn (.inl N) _) ho) (fun _=>Ql (fun _=>fin hp ho) (fun _=>Ql (fun _=>fin (h1.turn (.inl N) _) ho) (fun _=>Ql (fun _=>fin (hp.turn (.inl N) _) ho) (fun _=>Ql (fun _=>fin (h1.turn (.inl N) _) ho) (fun _=>Ql (fun _=>?_) (fun _=>Ql (fun _=>?_) (fun _=>Ql (fun _=>?_) (fun _=>Ql (fun _=>?_) (fun _=>Ql (fun _=>?_) (fun _=>Ql (fun _=>?_) (fun _=>Ql (fun _=>?_) (fun _=>fin (hpp.turn (.inl N) _) ho))))))))))))
 ·split
  ·exact fin (hp.turn (.inl N) _) ho
  ·exact fin hp ho
 ·exact Ql (fun _=>one_err (by decide)) (fun _=>fin ((h1.turn (.inl N) _).turn (.inl N) _) ho)
 ·have hq:SameBut s ((Zc s1).turn s1.now fun b=>{ b with frames:=b.frames.dropLast }) s.now.toNat s.now.toNat:=hp.turn (.inl N) _
  have hqo:((Zc s1).turn s1.now fun b=>{ b with frames:=b.frames.dropLast }).out=s.out:=ho
  refine Ql (fun _=>Ql (fun _=>SameBut.oneOut (hq.now (-1)) ho _) (fun hc=>?_)) (fun _=>fin (hq.turn (.inl N) _) ho)
  generalize ((Zc s1).turn s1.now fun b=>{ b with frames:=b.frames.dropLast })=s2 at *
  exact SameBut.one (((wide _ (hq.turn (.inl N) _)).now _).turn (.inr rfl) _) (.inr (show (s2.fib s1.now).caller=((s2.fib s1.now).caller.toNat:Int) by omega)) hqo
 ·refine Ql (fun _=>one_err (by decide)) (fun _ _=>?_)
  have hq:SameBut s (Zp s1 s1.now s1.fibers.length) s.now.toNat s.now.toNat:=h1.turn (.inl N) _
  refine ⟨.inr (by simp [hq.1]),.inl ho,fun k hk h2 _=>?_⟩
  rw [← hq.2 k h2 h2]
  show List.getD (_++_) _ _=List.getD _ _ _
  simp [List.getD,List.getElem?_append_left (show k < (Zp s1 s1.now s1.fibers.length).fibers.length by rw [hq.1]; exact hk)]
 ·refine Ql (fun hix=>Ql (fun _=>one_err (by decide)) (fun _=>?_)) (fun _=>one_err (by decide))
  have hn:=(Qb.1 hix).1
  generalize Zh (Zc s1)=n at *
  have hq:SameBut s { ((Zc (Zc s1)).turn n fun b=>{ b with caller:=(Zc (Zc s1)).now }) with now:=n } s.now.toNat n.toNat:=((wide n.toNat hpp).turn (.inr rfl) _).now _
  exact Ql (fun _=>(hq.turn (.inr rfl) _).one (.inr (by show n=_; omega)) ho) (fun _=>(hq.turn (.inr rfl) _).one (.inr (by show n=_; omega)) ho)
 ·refine Ql (fun _=>one_err (by decide)) (fun hc=>?_)
  exact SameBut.one (((wide _ (hp.turn (.inl N) _)).now _).turn (.inr rfl) _) (.inr (by show St.now (Zp _ _ _)=_; simp only [Zp,St.turnTop,St.turn]; omega)) ho
 ·exact SameBut.oneOut hp ho _
theorem Xc (i l n:Int) (w:World) :
  Calls Tryz.prog 30 #[.int .i64 i,.int .i64 l,.int .i64 n] w fun e w'=>e=.returned (.bool (inB i l n))∧w=w':=by
 by_cases h1:l≤i
 ·by_cases h2:i≤n
  ·rw [Qu h1 h2]
   go_enter Tryz.func30,Tryz.ntmps30
   go_wp2
   go_ret
   exact ⟨rfl,rfl⟩
  ·rw [Js (by omega)]
   go_enter Tryz.func30,Tryz.ntmps30
   go_wp2
   go_ret
   exact ⟨rfl,rfl⟩
 ·rw [Js (by omega)]
  go_enter Tryz.func30,Tryz.ntmps30
  go_wp2
  go_ret
  exact ⟨rfl,rfl⟩
def Turned (base bs:Nat) (s':St) (r:Value) (w:World) (e:Ending) (w':World):Prop:=e=.returned r∧∃ V',OwnVar base w' bs V' s'∧Below base w w'
theorem top_any (bs N capF gF i q cap g:Nat) (w:World) (hi:i < N) (hq:0 < q) (hqs:q≤1000)
  (c0:w.cell? ⟨bs,0,none⟩=some (.slice (some ⟨gF,0,none⟩) N capF)) (c1:w.cell? ⟨gF,i * 2,none⟩=some (.slice (some ⟨g,0,none⟩) q cap)) :
  Calls Tryz.prog 103 #[.pointer (some ⟨bs,0,none⟩),.int .i64 i] w fun e w'=>e=.returned (.pointer (some ⟨g,(q - 1) * 4,none⟩))∧∃ m,w'=w.drewN m:=by
 obtain ⟨t,rfl⟩:∃ t,q=t + 1:=⟨q - 1,by omega⟩
 have hi1:(i:Int) < (N:Int):=by omega
 have hi0:(0:Int)≤(i:Int):=by omega
 have hw:IntKind.i64.wrap (((t + 1:Nat):Int) - 1)=(t:Int):=by rw [IntKind.wrap_i64]; omega
 have hw2:IntKind.i64.wrap ((t:Int) + 1 - 1)=(t:Int):=by rw [IntKind.wrap_i64]; omega
 have ht:(t:Int) + 1 - 1=(t:Int):=by omega
 have ht1:(t:Int) < (t:Int) + 1:=by omega
 have ht0:(0:Int)≤(t:Int):=by omega
 go_enter Tryz.func103,Tryz.ntmps103
 go_wp2
 go_quiet (fail)
 go_wp2
 go_ret
 exact ⟨rfl,_,rfl⟩
theorem Qs {base bs:Nat} {w:World} {V:Key→Value} {s:St} (h:OwnVar base w bs V s) {i:Nat} (hi:i < s.fibers.length) (hq:0 < (Za s i).frames.length) (hqs:(Za s i).frames.length≤1000) :
  ∃ g cap,V (.frames i)=.slice (some ⟨g,0,none⟩) (Za s i).frames.length cap∧Calls Tryz.prog 103 #[.pointer (some ⟨bs,0,none⟩),.int .i64 i] w fun e w'=>e=.returned (.pointer (some ⟨g,((Za s i).frames.length - 1) * 4,none⟩))∧∃ m,w'=w.drewN m:=by
 obtain ⟨gF,capF,eF,_,k0,_⟩:=h.own.fib hi
 obtain ⟨g,cap,eg,_,_⟩:=h.own.fr hi (j:=0) hq
 obtain ⟨c0,_⟩:=h.cells
 rw [eF] at c0
 rw [eg] at k0
 exact ⟨g,cap,eg,top_any bs _ capF gF i _ cap g w hi hq hqs c0 k0⟩
theorem push_any (base bs:Nat) (V:Key→Value) (s:St) (i:Nat) (z:Int) (w:World) (h:OwnVar base w bs V s) (hi:i < s.fibers.length) (hq:0 < (Za s i).frames.length) (hqs:(Za s i).frames.length≤1000) (hst:(frAt s i ((Za s i).frames.length - 1)).stack.length≤1000) :
  Calls Tryz.prog 104 #[.pointer (some ⟨bs,0,none⟩),.int .i64 i,.int .i64 z] w fun e w'=>Turned base bs (Zp s i z) (.tuple #[]) w e w':=by
 obtain ⟨i0,hi0,hz0,hz1,hz2⟩:=info_parts infoInt
 obtain ⟨g,cap,eg,htop⟩:=Qs h hi hq hqs
 unfold Zp
 rw [Jm]
 generalize hj:(Za s i).frames.length - 1=j at *
 have hjl:j < (Za s i).frames.length:=by omega
 have HT:=hide htop
 have HO:=hide h
 have HEG:=hide eg
 clear htop h
 go_enter Tryz.func104,Tryz.ntmps104
 go_wp2_with fail
 refine (un HT).mono ?_
 rintro e w1 ⟨rfl,m,rfl⟩
 generalize hw1:w.drewN m=w1
 have ho1:OwnVar base w1 bs V s:=(un HO).same (by rw [← hw1]; rfl)
 have hb1:Below base w w1:=by rw [← hw1]; exact below_drewN (Below.refl _ w) m
 obtain ⟨g',cap',eg',_,f0,f1,f2,f3,ffz,hbg⟩:=ho1.own.fr hi hjl
 rw [un HEG] at eg'
 obtain ⟨⟨rfl⟩,-,rfl⟩:=(by simpa using eg':(g=g')∧True∧cap=cap')
 have hs:=ho1.own.stk hi hjl
 have hlg:=Xd f0
 simp only at hlg
 have hbw:base≤w1.heap.size:=by omega
 have hgs:(V (.stack i j)).ownBlock≠some g:=fun e=>by
  have:=ho1.own.apart (.stack i j) (.frames i) g ⟨hi,hjl⟩ hi e (by rw [un HEG]; rfl)
  cases this
 have HO1:=hide ho1
 have HB1:=hide hb1
 have HS:=hide hs
 have hfz:=ffz (j * 4 + 3)
 generalize hvs:V (.stack i j)=vs0 at *
 have HVS:=hide hvs
 generalize hl:(frAt s i j).stack=l at *
 have HL:=hide hl
 clear hw1 hb1 ho1 hvs hl hs f0 f1 f2 ffz eg'
 go_wp2_with (at_builtin; refine wpList_append_own_at _ rfl _ _ 24 rfl base 3 i0 (.int .i64 0) 1 8 Tryz.underlying24 hi0 hz0 hz1 hz2 rfl (by decide) _ _ _ rfl ((un HS).alloc _) ⟨w1.heap.size,0,none⟩ 1 1 [.int .i64 z] rfl rfl (new_one _ _ _) (int_one _) (by unfold maxLen; omega) (by omega) (by simp; omega) ?_; intro v' w2 hown' hgrow _ hat; obtain ⟨o2,c2,rfl,-⟩:=Zo hown'; have g3:w2.cell? ⟨g,j * 4 + 3,none⟩=some vs0:=hgrow.cell (((Kept.refl w1).alloc _).cell f3) (fun e=>hgs e.symm); have gz:w2.frozen? ⟨g,j * 4 + 3,none⟩=false:=(World.frozen?_of_block (hgrow.block g (by simp; omega) (fun e=>hgs e.symm))).trans ((World.frozen?_of_block (Below.heap_alloc w1 _ g hlg)).trans hfz); have HOW:=hide hown'; have HGR:=hide hgrow; have HAT:=hide hat; clear hown' hgrow hat)
 go_end0
 have hfin:=((un HO1).alloc (.cells #[.int .i64 z] 3)).turnStack (w2:=w2) hi hjl (un HEG) (.slice o2 (l.length + 1) c2) (l++[z]) (by rw [un HVS]; exact un HGR) (by rw [ints_append,List.length_append]; exact un HOW) (by rw [un HVS]; exact un HAT)
 unfold Turned
 refine ⟨rfl,upd V (.stack i j) (.slice o2 (l.length + 1) c2),?_,?_⟩
 ·rw [un HL]
  exact hfin.1
 ·exact Below.trans (un HB1) (Below.trans (Below.alloc (Below.refl _ w1) hbw _) hfin.2)
end Go.Proofs.YtblihfpigjiahaaGreatDoor
