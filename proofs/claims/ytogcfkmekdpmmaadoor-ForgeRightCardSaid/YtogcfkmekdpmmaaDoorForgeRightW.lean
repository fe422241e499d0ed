/-
  The statement ForgeRight: its walk, of the contracts of what it calls.
-/
import Derived.Test.YtogcfkmekdpmmaaDoorForgeF
set_option maxRecDepth 100000
set_option maxHeartbeats 8000000
namespace Go.Proofs.YtogcfkmekdpmmaaDoor
open Go.RowKit Go.Maps

theorem forgeRight_w (ve vv:Value) (w:World) (p:List Fn) (er a:Int) (k:Nat)
    (HP:Hid (∀ u,Kept w u→Calls Tryd.prog 13 #[ve,vv] u (PgPost p er u)))
    (HB:Hid (∀ u,Kept w u→Calls Tryd.prog 16 #[] u fun e w'=>e=.returned (.bool true)∧Kept u w'))
    (HV:Hid (er=0→∀ u,Kept w u→Calls Tryd.prog 19 #[ve,vv] u fun e w'=>e=.returned (.tuple #[.int .i64 a,.int .i64 0])∧Kept u w'))
    (HA:Hid (er=0→∀ u v,Kept w u→ProgAt u v p→GivesInts 8 #[v,.int .i64 500] u [a] [.int .i64 k,.int .i64 0]))
    (hk:er=0→k≤30)
    (HSI:Hid (∀ u v1 d,IntsW u v1 [a]→u.heap[d]?=some (.cells #[.int .i64 a] 3)→Calls Tryd.prog 11 #[v1,.slice (some ⟨d,0,none⟩) 1 1] u fun e w'=>e=.returned (.bool true)∧Kept u w')) :
    Calls Tryd.prog 5 #[ve,vv] w fun e w'=>e=.returned (.bool true)∧Kept w w':=by
  by_cases he:er=0
  · subst he
    replace HV:=hide ((un HV) rfl)
    replace HA:=hide ((un HA) rfl)
    replace hk:(k:Int) < 60:=by have:=hk rfl; omega
    go_enter Tryd.func5,Tryd.ntmps5
    go_wp2_with fail
    refine ((un HP) _ (Kept.refl w)).mono ?_
    rintro _ w1 ⟨v1,rfl,hp,hk1⟩
    obtain ⟨oa,cap,rfl,_,_⟩:=id hp
    have HK:=hide hk1
    have HPA:=hide hp
    clear hp hk1 HP
    go_wp2_with fail
    refine ((un HV) _ (un HK)).mono ?_
    rintro _ w2 ⟨rfl,hk2⟩
    replace HK:=hide ((un HK).trans hk2)
    have HC:=hide ((un HA) _ _ (un HK) ((un HPA).kept hk2))
    clear hk2 HV HA HPA
    unfold GivesInts at HC
    go_wp2_with fail
    refine (un HC).mono ?_
    rintro _ w3 ⟨ol,nl,cl,rfl,rfl,-,hl,hk3⟩
    replace HK:=hide ((un HK).trans hk3)
    have HL:=hide hl
    clear hl hk3 HC
    go_wp2_with fail
    refine ((un HB) _ (un HK)).mono ?_
    rintro _ w4 ⟨rfl,hk4⟩
    replace HK:=hide ((un HK).trans hk4)
    have HC:=hide ((un HSI) (w4.alloc (.cells #[.int .i64 a] 3)) _ w4.heap.size ((un HL).kept (hk4.alloc _)) (lays_new rfl))
    clear hk4 HL HB HSI
    have hkn:k < 60:=by omega
    go_wp2_with fail
    refine (un HC).mono ?_
    rintro _ w5 ⟨rfl,hk5⟩
    replace HK:=hide (((un HK).alloc (.cells #[.int .i64 a] 3)).trans hk5)
    clear hk5 HC
    go_wp2_with fail
    go_ret
    exact ⟨rfl,un HK⟩
  · have he':(er != 0)=true:=by rw [bne_iff_ne]; exact he
    go_enter Tryd.func5,Tryd.ntmps5
    go_wp2_with fail
    refine ((un HP) _ (Kept.refl w)).mono ?_
    rintro _ w1 ⟨v1,rfl,hp,hk1⟩
    obtain ⟨oa,cap,rfl,_,_⟩:=id hp
    have HK:=hide hk1
    clear hp hk1 HP
    go_wp2_with fail
    refine ((un HB) _ (un HK)).mono ?_
    rintro _ w2 ⟨rfl,hk2⟩
    replace HK:=hide ((un HK).trans hk2)
    clear hk2
    go_wp2_with fail
    go_ret
    exact ⟨rfl,un HK⟩
end Go.Proofs.YtogcfkmekdpmmaaDoor
