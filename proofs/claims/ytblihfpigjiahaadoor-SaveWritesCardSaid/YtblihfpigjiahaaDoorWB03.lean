/- OpF1 -/
import Derived.Test.YtblihfpigjiahaaDoorWB01
import Derived.Deep.RegionWith
set_option maxRecDepth 100000
set_option maxHeartbeats 8000000
namespace Go.Proofs.YtblihfpigjiahaaDoor
open Go.RowKit
theorem Zwo (k:Nat) (a:Int) (v:Value) (hb:k<17) (Bp Bf:Nat) (w:World) (hc:w.cell? ⟨0,k*3+2,none⟩=some (.int .i64 1))
  (H:∀ u,Zb w u→Calls Tryd.prog 77 #[.int .i64 a] u fun e u'=>e=.returned (.bool false)∧Zb u u') :
  Calls Tryd.prog 62 #[v,.agg #[.int .i64 k,.int .i64 a],Qy Bp Bf] w fun e w'=>e=.returned (.int .i64 3)∧Zb w w':=by
 have h:ixB k 17=true:=Jr (by omega) (by omega)
 have HH:Hid (∀ u,Zb w u→Calls Tryd.prog 77 #[.int .i64 a] u fun e u'=>e=.returned (.bool false)∧Zb u u'):=H
 clear H
 unfold Qy
 have c0:((w.alloc (.cells #[.int .i64 k,.int .i64 a] 86)).alloc (.cells #[.func (.func 76) #[] #[],.func (.func 77) #[] #[],.func (.func 78) #[] #[.pointer (some ⟨Bf,0,none⟩)],.func (.func 79) #[] #[.pointer (some ⟨Bf,0,none⟩)],.func (.func 80) #[] #[.pointer (some ⟨Bp,0,none⟩)]] 104)).cell? ⟨0,k*3+2,none⟩=some (.int .i64 1):=(((Zb.refl w).alloc _).alloc _).cell hc
 clear hc
 go_enter Tryd.func62,Tryd.ntmps62
 go_wp2_with (go_at_call 59;refine (Jn _ _ _).mono ?_;rintro e w' ⟨rfl,rfl⟩)
 go_region_with (go_at_call 77;refine (HH.out _ ?_).mono ?_;(repeat (first | exact Zb.refl _ | assumption | apply Zb.drew | apply Zb.alloc));rintro e w' ⟨rfl,hkk⟩)
 all_goals go_wp2
 all_goals go_ret
 all_goals refine ⟨rfl,?_⟩
 all_goals (repeat (first | exact Zb.refl _ | refine Zb.trans ?_ hkk | apply Zb.drew | apply Zb.alloc))
theorem Zsk (k:Nat) (a:Int) (v:Value) (hb:k<17) (hn:((k:Int) == 13)=false) (Bp Bf:Nat) (w:World) (hc:w.cell? ⟨0,k*3+2,none⟩=some (.int .i64 1))
  (H:∀ u,Zb w u→Calls Tryd.prog 77 #[.int .i64 a] u fun e u'=>e=.returned (.bool true)∧Zb u u') :
  Calls Tryd.prog 62 #[v,.agg #[.int .i64 k,.int .i64 a],Qy Bp Bf] w fun e w'=>e=.returned (.int .i64 0)∧Zb w w':=by
 have h:ixB k 17=true:=Jr (by omega) (by omega)
 have HH:Hid (∀ u,Zb w u→Calls Tryd.prog 77 #[.int .i64 a] u fun e u'=>e=.returned (.bool true)∧Zb u u'):=H
 clear H
 unfold Qy
 have c0:((w.alloc (.cells #[.int .i64 k,.int .i64 a] 86)).alloc (.cells #[.func (.func 76) #[] #[],.func (.func 77) #[] #[],.func (.func 78) #[] #[.pointer (some ⟨Bf,0,none⟩)],.func (.func 79) #[] #[.pointer (some ⟨Bf,0,none⟩)],.func (.func 80) #[] #[.pointer (some ⟨Bp,0,none⟩)]] 104)).cell? ⟨0,k*3+2,none⟩=some (.int .i64 1):=(((Zb.refl w).alloc _).alloc _).cell hc
 clear hc
 go_enter Tryd.func62,Tryd.ntmps62
 go_wp2_with (go_at_call 59;refine (Jn _ _ _).mono ?_;rintro e w' ⟨rfl,rfl⟩)
 go_region_with (go_at_call 77;refine (HH.out _ ?_).mono ?_;(repeat (first | exact Zb.refl _ | assumption | apply Zb.drew | apply Zb.alloc));rintro e w' ⟨rfl,hkk⟩)
 all_goals (have q0:=hkk.cell (Zd (t:=86) (fr:=(0,0)) (b:=w.heap.size) (c:=#[.int .i64 k,.int .i64 a]) (by repeat (first | exact Zg rfl | refine Zr ?_ _ | refine Xi ?_)) 0))
 all_goals (have q1:=hkk.cell (Zd (t:=86) (fr:=(0,0)) (b:=w.heap.size) (c:=#[.int .i64 k,.int .i64 a]) (by repeat (first | exact Zg rfl | refine Zr ?_ _ | refine Xi ?_)) 1))
 all_goals go_wp2
 all_goals go_ret
 all_goals refine ⟨rfl,?_⟩
 all_goals (repeat (first | exact Zb.refl _ | refine Zb.trans ?_ hkk | apply Zb.drew | apply Zb.alloc))
end Go.Proofs.YtblihfpigjiahaaDoor
