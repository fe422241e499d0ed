/-
  The statements StepDoes, RunRuns: their walks, of the contracts of what they call. (Printed by tools/genStep.py.)
-/
import Derived.Test.YtadckjclgakcaaaGreatDoorStX
set_option maxRecDepth 100000
set_option maxHeartbeats 8000000
namespace Go.Proofs.YtadckjclgakcaaaGreatDoor
open Go.RowKit

theorem stepDoes_w (vp:Value) (w:World) (r:St) (se:Int) (oa oo:Option Addr) (N M cap co:Nat) (nn:Int)
    (H1:Hid (∀ u,Kept w u→GivesSt 9 #[vp,.agg #[.slice oa N cap,.int .i64 nn,.slice oo M co]] u r [.int .i64 se]))
    (H2:Hid (∀ u,Kept w u→GivesSt 10 #[vp,.agg #[.slice oa N cap,.int .i64 nn,.slice oo M co]] u r [.int .i64 se]))
    (HSS:Hid (∀ u v1 v2 s,StAt u v1 s→StAt u v2 s→Calls Tryz.prog 12 #[v1,v2] u fun e w'=>e=.returned (.bool true)∧Kept u w'))
    (HRB:Hid (∀ u,Kept w u→Calls Tryz.prog 11 #[] u fun e w'=>e=.returned (.bool true)∧Kept u w')) :
    Calls Tryz.prog 3 #[vp,.agg #[.slice oa N cap,.int .i64 nn,.slice oo M co]] w fun e w'=>e=.returned (.bool true)∧Kept w w':=by
  go_enter Tryz.func3,Tryz.ntmps3
  go_wp2_with fail
  obtain ⟨k9,l9⟩:=box_st (Kept.refl w) #[.slice oa N cap,.int .i64 nn,.slice oo M co] 26
  generalize w.alloc (.cells #[.slice oa N cap,.int .i64 nn,.slice oo M co] 26)=w1 at *
  generalize w.heap.size=B0 at *
  have HL:=hide l9
  have HK:=hide k9
  clear k9 l9
  refine ((un H1) _ (un HK)).mono ?_
  rintro _ wa ⟨oa,na,ca,za,qa,ma,da,rfl,hs,hk⟩
  replace HK:=hide ((un HK).trans hk)
  replace HL:=hide (lays_kept hk (un HL))
  have HSa:=hide (hs)
  have HPa:=hide (stAt_parts hs)
  clear hk hs H1
  have a0:=cell_new (un HL) 0
  have a1:=cell_new (un HL) 1
  have a2:=cell_new (un HL) 2
  go_wp2_with fail
  obtain ⟨k9,l9⟩:=box_st (Kept.refl wa) #[.slice oa na ca,.int .i64 za,.slice qa ma da] 26
  generalize wa.alloc (.cells #[.slice oa na ca,.int .i64 za,.slice qa ma da] 26)=xa at *
  generalize wa.heap.size=Ba at *
  replace HK:=hide ((un HK).trans k9)
  replace HL:=hide (lays_kept k9 (un HL))
  replace HSa:=hide ((un HSa).kept k9)
  have HTa:=hide l9
  clear k9 l9
  clear a0 a1 a2
  refine ((un H2) _ (un HK)).mono ?_
  rintro _ wb ⟨ob,nb,cb,zb,qb,mb,db,rfl,hs,hk⟩
  replace HK:=hide ((un HK).trans hk)
  replace HL:=hide (lays_kept hk (un HL))
  replace HSa:=hide ((un HSa).kept hk)
  replace HTa:=hide (lays_kept hk (un HTa))
  have HSb:=hide (hs)
  have HPb:=hide (stAt_parts hs)
  clear hk hs H2
  go_wp2_with fail
  obtain ⟨k9,l9⟩:=box_st (Kept.refl wb) #[.slice ob nb cb,.int .i64 zb,.slice qb mb db] 26
  generalize wb.alloc (.cells #[.slice ob nb cb,.int .i64 zb,.slice qb mb db] 26)=xb at *
  generalize wb.heap.size=Bb at *
  replace HK:=hide ((un HK).trans k9)
  replace HL:=hide (lays_kept k9 (un HL))
  replace HSa:=hide ((un HSa).kept k9)
  replace HTa:=hide (lays_kept k9 (un HTa))
  replace HSb:=hide ((un HSb).kept k9)
  have HTb:=hide l9
  clear k9 l9
  refine ((un HRB) _ (un HK)).mono ?_
  rintro _ w3 ⟨rfl,hk⟩
  replace HK:=hide ((un HK).trans hk)
  replace HL:=hide (lays_kept hk (un HL))
  replace HSa:=hide ((un HSa).kept hk)
  replace HTa:=hide (lays_kept hk (un HTa))
  replace HSb:=hide ((un HSb).kept hk)
  replace HTb:=hide (lays_kept hk (un HTb))
  clear hk HRB
  have a0:=cell_lays (un HTa) 0
  have a1:=cell_lays (un HTa) 1
  have a2:=cell_lays (un HTa) 2
  have b0:=cell_lays (un HTb) 0
  have b1:=cell_lays (un HTb) 1
  have b2:=cell_lays (un HTb) 2
  go_wp2_with fail
  refine ((un HSS) _ _ _ _ (un HSa) (un HSb)).mono ?_
  rintro _ w4 ⟨rfl,hk⟩
  replace HK:=hide ((un HK).trans hk)
  replace HL:=hide (lays_kept hk (un HL))
  replace HSa:=hide ((un HSa).kept hk)
  replace HTa:=hide (lays_kept hk (un HTa))
  replace HSb:=hide ((un HSb).kept hk)
  replace HTb:=hide (lays_kept hk (un HTb))
  clear hk HSS a0 a1 a2 b0 b1 b2
  go_wp2
  go_ret
  exact ⟨rfl,un HK⟩

theorem runRuns_w (vp:Value) (c:Int) (w:World) (r:St) (steps:Nat) (err:Int) (oa oo:Option Addr) (N M cap co:Nat) (nn:Int)
    (H1:Hid (∀ u,Kept w u→GivesSt 17 #[vp,.agg #[.slice oa N cap,.int .i64 nn,.slice oo M co],.int .i64 c] u r [.int .i64 steps,.int .i64 err]))
    (H2:Hid (∀ u,Kept w u→GivesSt 18 #[vp,.agg #[.slice oa N cap,.int .i64 nn,.slice oo M co],.int .i64 c] u r [.int .i64 steps,.int .i64 err]))
    (HSS:Hid (∀ u v1 v2 s,StAt u v1 s→StAt u v2 s→Calls Tryz.prog 12 #[v1,v2] u fun e w'=>e=.returned (.bool true)∧Kept u w'))
    (HRB:Hid (∀ u,Kept w u→Calls Tryz.prog 19 #[] u fun e w'=>e=.returned (.bool true)∧Kept u w')) :
    Calls Tryz.prog 8 #[vp,.agg #[.slice oa N cap,.int .i64 nn,.slice oo M co],.int .i64 c] w fun e w'=>e=.returned (.bool true)∧Kept w w':=by
  go_enter Tryz.func8,Tryz.ntmps8
  go_wp2_with fail
  obtain ⟨k9,l9⟩:=box_st (Kept.refl w) #[.slice oa N cap,.int .i64 nn,.slice oo M co] 26
  generalize w.alloc (.cells #[.slice oa N cap,.int .i64 nn,.slice oo M co] 26)=w1 at *
  generalize w.heap.size=B0 at *
  have HL:=hide l9
  have HK:=hide k9
  clear k9 l9
  refine ((un H1) _ (un HK)).mono ?_
  rintro _ wa ⟨oa,na,ca,za,qa,ma,da,rfl,hs,hk⟩
  replace HK:=hide ((un HK).trans hk)
  replace HL:=hide (lays_kept hk (un HL))
  have HSa:=hide (hs)
  have HPa:=hide (stAt_parts hs)
  clear hk hs H1
  have a0:=cell_new (un HL) 0
  have a1:=cell_new (un HL) 1
  have a2:=cell_new (un HL) 2
  go_wp2_with fail
  obtain ⟨k9,l9⟩:=box_st (Kept.refl wa) #[.slice oa na ca,.int .i64 za,.slice qa ma da] 26
  generalize wa.alloc (.cells #[.slice oa na ca,.int .i64 za,.slice qa ma da] 26)=xa at *
  generalize wa.heap.size=Ba at *
  replace HK:=hide ((un HK).trans k9)
  replace HL:=hide (lays_kept k9 (un HL))
  replace HSa:=hide ((un HSa).kept k9)
  have HTa:=hide l9
  clear k9 l9
  clear a0 a1 a2
  refine ((un H2) _ (un HK)).mono ?_
  rintro _ wb ⟨ob,nb,cb,zb,qb,mb,db,rfl,hs,hk⟩
  replace HK:=hide ((un HK).trans hk)
  replace HL:=hide (lays_kept hk (un HL))
  replace HSa:=hide ((un HSa).kept hk)
  replace HTa:=hide (lays_kept hk (un HTa))
  have HSb:=hide (hs)
  have HPb:=hide (stAt_parts hs)
  clear hk hs H2
  go_wp2_with fail
  obtain ⟨k9,l9⟩:=box_st (Kept.refl wb) #[.slice ob nb cb,.int .i64 zb,.slice qb mb db] 26
  generalize wb.alloc (.cells #[.slice ob nb cb,.int .i64 zb,.slice qb mb db] 26)=xb at *
  generalize wb.heap.size=Bb at *
  replace HK:=hide ((un HK).trans k9)
  replace HL:=hide (lays_kept k9 (un HL))
  replace HSa:=hide ((un HSa).kept k9)
  replace HTa:=hide (lays_kept k9 (un HTa))
  replace HSb:=hide ((un HSb).kept k9)
  have HTb:=hide l9
  clear k9 l9
  refine ((un HRB) _ (un HK)).mono ?_
  rintro _ w3 ⟨rfl,hk⟩
  replace HK:=hide ((un HK).trans hk)
  replace HL:=hide (lays_kept hk (un HL))
  replace HSa:=hide ((un HSa).kept hk)
  replace HTa:=hide (lays_kept hk (un HTa))
  replace HSb:=hide ((un HSb).kept hk)
  replace HTb:=hide (lays_kept hk (un HTb))
  clear hk HRB
  have a0:=cell_lays (un HTa) 0
  have a1:=cell_lays (un HTa) 1
  have a2:=cell_lays (un HTa) 2
  have b0:=cell_lays (un HTb) 0
  have b1:=cell_lays (un HTb) 1
  have b2:=cell_lays (un HTb) 2
  go_wp2_with fail
  refine ((un HSS) _ _ _ _ (un HSa) (un HSb)).mono ?_
  rintro _ w4 ⟨rfl,hk⟩
  replace HK:=hide ((un HK).trans hk)
  replace HL:=hide (lays_kept hk (un HL))
  replace HSa:=hide ((un HSa).kept hk)
  replace HTa:=hide (lays_kept hk (un HTa))
  replace HSb:=hide ((un HSb).kept hk)
  replace HTb:=hide (lays_kept hk (un HTb))
  clear hk HSS a0 a1 a2 b0 b1 b2
  go_wp2
  go_ret
  exact ⟨rfl,un HK⟩
end Go.Proofs.YtadckjclgakcaaaGreatDoor
