/-
  The statement StepRight: its walk, of the contracts of what it calls. (Printed by tools/genStep.py.)
-/
import Derived.Test.YtadckjclgakcaaaGreatDoorStX
set_option maxRecDepth 100000
set_option maxHeartbeats 8000000
namespace Go.Proofs.YtadckjclgakcaaaGreatDoor
open Go.RowKit

theorem stepRight_w (vp:Value) (w:World) (er se er2:Int) (r:St) (oa oo:Option Addr) (N M cap co:Nat) (nn:Int)
    (HC1:Hid (∀ u,Kept w u→Calls Tryz.prog 13 #[vp,.agg #[.slice oa N cap,.int .i64 nn,.slice oo M co]] u fun e w'=>e=.returned (.int .i64 er)∧Kept u w'))
    (HD:Hid (∀ u,Kept w u→GivesSt 9 #[vp,.agg #[.slice oa N cap,.int .i64 nn,.slice oo M co]] u r [.int .i64 se]))
    (HC2:Hid (∀ u v,Kept w u→StAt u v r→Calls Tryz.prog 13 #[vp,v] u fun e w'=>e=.returned (.int .i64 er2)∧Kept u w'))
    (HRB:Hid (∀ u,Kept w u→Calls Tryz.prog 11 #[] u fun e w'=>e=.returned (.bool true)∧Kept u w'))
    (hgood:er=0→(se=0→er2=0)∧(se≠0→(se=8∧nn=-1)∨(nn≠-1∧(se=2∨se=5∨se=6∨se=7)))) :
    Calls Tryz.prog 4 #[vp,.agg #[.slice oa N cap,.int .i64 nn,.slice oo M co]] w fun e w'=>e=.returned (.bool true)∧Kept w w':=by
  have HG:=hide hgood
  clear hgood
  go_enter Tryz.func4,Tryz.ntmps4
  go_wp2_with fail
  obtain ⟨k9,l9⟩:=box_st (Kept.refl w) #[.slice oa N cap,.int .i64 nn,.slice oo M co] 26
  generalize w.alloc (.cells #[.slice oa N cap,.int .i64 nn,.slice oo M co] 26)=w1 at *
  generalize w.heap.size=B0 at *
  have HL:=hide l9
  have HK:=hide k9
  clear k9 l9
  refine ((un HC1) _ (un HK)).mono ?_
  rintro _ w2 ⟨rfl,hk⟩
  replace HK:=hide ((un HK).trans hk)
  replace HL:=hide (lays_kept hk (un HL))
  clear hk HC1
  by_cases he:er=0
  · subst he
    have HH:=hide ((un HG) rfl)
    clear HG
    have a0:=cell_lays (un HL) 0
    have a1:=cell_lays (un HL) 1
    have a2:=cell_lays (un HL) 2
    go_wp2_with fail
    refine ((un HD) _ (un HK)).mono ?_
    rintro _ wa ⟨oa,na,ca,za,qa,ma,da,rfl,hs,hk⟩
    replace HK:=hide ((un HK).trans hk)
    replace HL:=hide (lays_kept hk (un HL))
    have HSa:=hide (hs)
    have HPa:=hide (stAt_parts hs)
    clear hk hs HD a0 a1 a2
    by_cases hz:se=0
    · have h2:=(un HH).1 hz
      subst hz h2
      go_wp2_with fail
      obtain ⟨k9,l9⟩:=box_st (Kept.refl wa) #[.slice oa na ca,.int .i64 za,.slice qa ma da] 26
      generalize wa.alloc (.cells #[.slice oa na ca,.int .i64 za,.slice qa ma da] 26)=xa at *
      generalize wa.heap.size=Ba at *
      replace HK:=hide ((un HK).trans k9)
      replace HL:=hide (lays_kept k9 (un HL))
      replace HSa:=hide ((un HSa).kept k9)
      have HTa:=hide l9
      clear k9 l9
      refine ((un HRB) _ (un HK)).mono ?_
      rintro _ w3 ⟨rfl,hk⟩
      replace HK:=hide ((un HK).trans hk)
      replace HL:=hide (lays_kept hk (un HL))
      replace HSa:=hide ((un HSa).kept hk)
      replace HTa:=hide (lays_kept hk (un HTa))
      clear hk HRB
      have a0:=cell_lays (un HTa) 0
      have a1:=cell_lays (un HTa) 1
      have a2:=cell_lays (un HTa) 2
      go_wp2_with fail
      refine ((un HC2) _ _ (un HK) (un HSa)).mono ?_
      rintro _ w4 ⟨rfl,hk⟩
      replace HK:=hide ((un HK).trans hk)
      replace HL:=hide (lays_kept hk (un HL))
      replace HSa:=hide ((un HSa).kept hk)
      replace HTa:=hide (lays_kept hk (un HTa))
      clear hk HC2 a0 a1 a2
      go_wp2
      go_ret
      exact ⟨rfl,un HK⟩
    · have hz':(se == 0)=false:=by rw [beq_eq_false_iff_ne]; exact hz
      have hh:=(un HH).2 hz
      go_wp2_with fail
      obtain ⟨k9,l9⟩:=box_st (Kept.refl wa) #[.slice oa na ca,.int .i64 za,.slice qa ma da] 26
      generalize wa.alloc (.cells #[.slice oa na ca,.int .i64 za,.slice qa ma da] 26)=xa at *
      generalize wa.heap.size=Ba at *
      replace HK:=hide ((un HK).trans k9)
      replace HL:=hide (lays_kept k9 (un HL))
      replace HSa:=hide ((un HSa).kept k9)
      have HTa:=hide l9
      clear k9 l9
      refine ((un HRB) _ (un HK)).mono ?_
      rintro _ w3 ⟨rfl,hk⟩
      replace HK:=hide ((un HK).trans hk)
      replace HL:=hide (lays_kept hk (un HL))
      replace HSa:=hide ((un HSa).kept hk)
      replace HTa:=hide (lays_kept hk (un HTa))
      clear hk HRB
      have a0:=cell_lays (un HL) 0
      have a1:=cell_lays (un HL) 1
      have a2:=cell_lays (un HL) 2
      rcases hh with ⟨h1,h2⟩ | ⟨h1,h2⟩
      · subst h1 h2
        go_wp2
        go_ret
        exact ⟨rfl,un HK⟩
      · have hn:(nn == -1)=false:=by rw [beq_eq_false_iff_ne]; exact h1
        rcases h2 with rfl | rfl | rfl | rfl
        · go_wp2
          go_ret
          exact ⟨rfl,un HK⟩
        · go_wp2
          go_ret
          exact ⟨rfl,un HK⟩
        · go_wp2
          go_ret
          exact ⟨rfl,un HK⟩
        · go_wp2
          go_ret
          exact ⟨rfl,un HK⟩
  · have he':(er != 0)=true:=by rw [bne_iff_ne]; exact he
    go_wp2_with fail
    refine ((un HRB) _ (un HK)).mono ?_
    rintro _ w3 ⟨rfl,hk⟩
    replace HK:=hide ((un HK).trans hk)
    replace HL:=hide (lays_kept hk (un HL))
    clear hk HRB
    go_wp2
    go_ret
    exact ⟨rfl,un HK⟩
end Go.Proofs.YtadckjclgakcaaaGreatDoor
