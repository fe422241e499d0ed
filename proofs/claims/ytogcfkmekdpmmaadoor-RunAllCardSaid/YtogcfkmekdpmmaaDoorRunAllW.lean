/-
  The statement RunAll, and the reference's RunAll: their walks, of the contracts of what they call.
-/
import Derived.Test.YtogcfkmekdpmmaaDoorStX
set_option maxRecDepth 100000
set_option maxHeartbeats 8000000
namespace Go.Proofs.YtogcfkmekdpmmaaDoor
open Go.RowKit

theorem refAll_w (vp:Value) (c:Int) (w:World) (er:Int) (isIn:Bool) (b:St) (r:St) (steps:Nat) (err:Int)
    (HWI:Hid (∀ u,Calls Tryd.prog 26 #[.int .i64 c,.int .i64 0,.int .i64 500] u fun e w'=>e=.returned (.bool isIn)∧u=w'))
    (HPE:Hid (∀ u,Kept w u→Calls Tryd.prog 27 #[vp] u fun e w'=>e=.returned (.int .i64 er)∧Kept u w'))
    (HB:Hid (er=0→∀ u,Kept w u→Calls Tryd.prog 29 #[vp] u fun e w'=>∃ v,e=.returned v∧StAt w' v b∧Kept u w'))
    (HR:Hid (er=0→isIn=true→∀ u v,Kept w u→StAt u v b→Calls Tryd.prog 28 #[vp,v,.int .i64 c] u fun e w'=>∃ oa n cap z oo m co,e=.returned (.tuple #[.agg #[.slice oa n cap,.int .i64 z,.slice oo m co],.int .i64 steps,.int .i64 err])∧m=r.out.length∧m≤co∧IntsW w' (.slice oo m co) r.out∧Kept u w')) :
    GivesInts 9 #[vp,.int .i64 c] w (if isIn=true then if er=0 then r.out else [] else []) [.int .i64 (if isIn=true then if er=0 then (steps:Int) else 0 else 0),.int .i64 (if isIn=true then if er=0 then err else er else 3)]:=by
  unfold GivesInts
  cases isIn with
  | false =>
    simp only [Bool.false_eq_true,if_false]
    go_enter Tryd.func9,Tryd.ntmps9
    go_wp2_with fail
    refine ((un HWI) _).mono ?_
    rintro _ w0 ⟨rfl,rfl⟩
    clear HWI HPE HB HR
    go_wp2
    refine bodyPost_ret (v:=.tuple #[.slice none 0 0,.int .i64 0,.int .i64 3]) (by simp [results,Tryd.results9,go_sem]) rfl ?_
    exact ⟨_,_,_,rfl,rfl,Nat.le_refl _,IntsW.nil _,Kept.refl _⟩
  | true =>
    simp only [if_true]
    by_cases he:er=0
    · rw [if_pos he,if_pos he,if_pos he]
      subst he
      replace HR:=hide ((un HR) rfl rfl)
      replace HB:=hide ((un HB) rfl)
      go_enter Tryd.func9,Tryd.ntmps9
      go_wp2_with fail
      refine ((un HWI) _).mono ?_
      rintro _ w0 ⟨rfl,rfl⟩
      clear HWI
      go_wp2_with fail
      refine ((un HPE) _ (Kept.refl w)).mono ?_
      rintro _ w1 ⟨rfl,hk⟩
      have HK:=hide hk
      clear hk HPE
      go_wp2_with fail
      refine ((un HB) _ (un HK)).mono ?_
      rintro _ w2 ⟨v,rfl,hs,hk⟩
      replace HK:=hide ((un HK).trans hk)
      have HS:=hide hs
      clear hk hs HB
      go_wp2_with fail
      refine ((un HR) _ _ (un HK) (un HS)).mono ?_
      rintro _ w3 ⟨oa,n,cap,z,oo,m,co,rfl,hm,hc,hi,hk⟩
      have HI:=hide (hi.kept ((Kept.refl w3).alloc (.cells #[.slice oa n cap,.int .i64 z,.slice oo m co] 52)))
      replace HK:=hide (((un HK).trans hk).alloc (.cells #[.slice oa n cap,.int .i64 z,.slice oo m co] 52))
      have HM:=hide (And.intro hm hc)
      clear hk hi hm hc HR
      go_wp2
      refine bodyPost_ret (v:=.tuple #[.slice oo m co,.int .i64 steps,.int .i64 err]) (by simp [results,Tryd.results9,go_sem]) rfl ?_
      exact ⟨oo,m,co,rfl,(un HM).1,(un HM).2,un HI,un HK⟩
    · rw [if_neg he,if_neg he,if_neg he]
      have he':(er != 0)=true:=by rw [bne_iff_ne]; exact he
      go_enter Tryd.func9,Tryd.ntmps9
      go_wp2_with fail
      refine ((un HWI) _).mono ?_
      rintro _ w0 ⟨rfl,rfl⟩
      clear HWI HB HR
      go_wp2_with fail
      refine ((un HPE) _ (Kept.refl w)).mono ?_
      rintro _ w1 ⟨rfl,hk⟩
      have HK:=hide hk
      clear hk HPE
      go_wp2
      refine bodyPost_ret (v:=.tuple #[.slice none 0 0,.int .i64 0,.int .i64 er]) (by simp [results,Tryd.results9,go_sem]) rfl ?_
      exact ⟨_,_,_,rfl,rfl,Nat.le_refl _,IntsW.nil _,un HK⟩

theorem runAll_w (vp:Value) (c:Int) (w:World) (l:List Int) (k:Nat) (e:Int)
    (HA1:Hid (∀ u,Kept w u→GivesInts 8 #[vp,.int .i64 c] u l [.int .i64 k,.int .i64 e]))
    (HA2:Hid (∀ u,Kept w u→GivesInts 9 #[vp,.int .i64 c] u l [.int .i64 k,.int .i64 e]))
    (HSI:Hid (∀ u v1 v2,IntsW u v1 l→IntsW u v2 l→Calls Tryd.prog 11 #[v1,v2] u fun e w'=>e=.returned (.bool true)∧Kept u w'))
    (HRB:Hid (∀ u,Kept w u→Calls Tryd.prog 10 #[] u fun e w'=>e=.returned (.bool true)∧Kept u w')) :
    Calls Tryd.prog 3 #[vp,.int .i64 c] w fun e w'=>e=.returned (.bool true)∧Kept w w':=by
  go_enter Tryd.func3,Tryd.ntmps3
  go_wp2_with fail
  refine ((un HA1) _ (Kept.refl w)).mono ?_
  rintro _ w2 ⟨oa,n1,c1,rfl,hn1,hc1,hi1,hk⟩
  have HK:=hide hk
  have HI:=hide hi1
  clear hn1 hc1 hi1 hk HA1
  go_wp2_with fail
  refine ((un HA2) _ (un HK)).mono ?_
  rintro _ w3 ⟨ob,n2,c2,rfl,hn2,hc2,hi2,hk⟩
  replace HK:=hide ((un HK).trans hk)
  replace HI:=hide ((un HI).kept hk)
  have HJ:=hide hi2
  clear hn2 hc2 hi2 hk HA2
  go_wp2_with fail
  refine ((un HRB) _ (un HK)).mono ?_
  rintro _ w4 ⟨rfl,hk⟩
  replace HK:=hide ((un HK).trans hk)
  replace HI:=hide ((un HI).kept hk)
  replace HJ:=hide ((un HJ).kept hk)
  clear hk HRB
  go_wp2_with fail
  refine ((un HSI) _ _ _ (un HI) (un HJ)).mono ?_
  rintro _ w5 ⟨rfl,hk⟩
  replace HK:=hide ((un HK).trans hk)
  clear hk HSI
  go_wp2
  go_ret
  exact ⟨rfl,un HK⟩
end Go.Proofs.YtogcfkmekdpmmaaDoor
