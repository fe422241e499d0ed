/- OpFm -/
import Derived.Test.YtblihfpigjiahaaDoorWB01
import Derived.Deep.RegionWith
set_option maxRecDepth 100000
set_option maxHeartbeats 8000000
namespace Go.Proofs.YtblihfpigjiahaaDoor
open Go.RowKit
theorem Xbl (i b o n cap:Nat) (r:Int) (Bp Bf:Nat) (w:World) (hc:w.cell? ⟨0,41,none⟩=some (.int .i64 4))
  (H:∀ u,Zb w u→Calls Tryd.prog 80 #[.int .i64 i,.pointer (some ⟨Bp,0,none⟩)] u fun e u'=>e=.returned (.bool true)∧Zb u u') (hi:i<n) (hr:w.cell? ⟨b,o+i*3,none⟩=some (.int .i64 r)) (hne:(r != 1)=true) :
  Calls Tryd.prog 62 #[.slice (some ⟨b,o,none⟩) n cap,.agg #[.int .i64 13,.int .i64 i],Qy Bp Bf] w fun e w'=>e=.returned (.int .i64 1)∧Zb w w':=by
 have h:ixB 13 17=true:=rfl
 have HH:Hid (∀ u,Zb w u→Calls Tryd.prog 80 #[.int .i64 i,.pointer (some ⟨Bp,0,none⟩)] u fun e u'=>e=.returned (.bool true)∧Zb u u'):=H
 clear H
 unfold Qy
 have c0:((w.alloc (.cells #[.int .i64 13,.int .i64 i] 86)).alloc (.cells #[.func (.func 76) #[] #[],.func (.func 77) #[] #[],.func (.func 78) #[] #[.pointer (some ⟨Bf,0,none⟩)],.func (.func 79) #[] #[.pointer (some ⟨Bf,0,none⟩)],.func (.func 80) #[] #[.pointer (some ⟨Bp,0,none⟩)]] 104)).cell? ⟨0,41,none⟩=some (.int .i64 4):=(((Zb.refl w).alloc _).alloc _).cell hc
 clear hc
 have HR:Hid (w.cell? ⟨b,o+i*3,none⟩=some (.int .i64 r)):=hr
 clear hr
 go_enter Tryd.func62,Tryd.ntmps62
 go_wp2_with (go_at_call 59;refine (Jn _ _ _).mono ?_;rintro e w' ⟨rfl,rfl⟩)
 go_region_with (go_at_call 80;refine (HH.out _ ?_).mono ?_;(repeat (first | exact Zb.refl _ | assumption | apply Zb.drew | apply Zb.alloc));rintro e w' ⟨rfl,hkk⟩)
 all_goals (have q0:=hkk.cell (Zd (t:=86) (fr:=(0,0)) (b:=w.heap.size) (c:=#[.int .i64 13,.int .i64 i]) (by repeat (first | exact Zg rfl | refine Zr ?_ _ | refine Xi ?_)) 0))
 all_goals (have q1:=hkk.cell (Zd (t:=86) (fr:=(0,0)) (b:=w.heap.size) (c:=#[.int .i64 13,.int .i64 i]) (by repeat (first | exact Zg rfl | refine Zr ?_ _ | refine Xi ?_)) 1))
 all_goals (have hr2:=(Zb.trans (by repeat (first | exact Zb.refl w | apply Zb.drew | apply Zb.alloc)) hkk).cell HR.out)
 all_goals go_wp2
 all_goals go_ret
 all_goals refine ⟨rfl,?_⟩
 all_goals (repeat (first | exact Zb.refl _ | refine Zb.trans ?_ hkk | apply Zb.drew | apply Zb.alloc))
theorem Xbw (i b o n cap:Nat) (r:Int) (Bp Bf:Nat) (w:World) (hc:w.cell? ⟨0,41,none⟩=some (.int .i64 4))
  (H:∀ u,Zb w u→Calls Tryd.prog 80 #[.int .i64 i,.pointer (some ⟨Bp,0,none⟩)] u fun e u'=>e=.returned (.bool true)∧Zb u u') (hi:i<n) (hr:w.cell? ⟨b,o+i*3,none⟩=some (.int .i64 r)) (hne:(r != 1)=false) :
  Calls Tryd.prog 62 #[.slice (some ⟨b,o,none⟩) n cap,.agg #[.int .i64 13,.int .i64 i],Qy Bp Bf] w fun e w'=>e=.returned (.int .i64 0)∧Zb w w':=by
 have h:ixB 13 17=true:=rfl
 have HH:Hid (∀ u,Zb w u→Calls Tryd.prog 80 #[.int .i64 i,.pointer (some ⟨Bp,0,none⟩)] u fun e u'=>e=.returned (.bool true)∧Zb u u'):=H
 clear H
 unfold Qy
 have c0:((w.alloc (.cells #[.int .i64 13,.int .i64 i] 86)).alloc (.cells #[.func (.func 76) #[] #[],.func (.func 77) #[] #[],.func (.func 78) #[] #[.pointer (some ⟨Bf,0,none⟩)],.func (.func 79) #[] #[.pointer (some ⟨Bf,0,none⟩)],.func (.func 80) #[] #[.pointer (some ⟨Bp,0,none⟩)]] 104)).cell? ⟨0,41,none⟩=some (.int .i64 4):=(((Zb.refl w).alloc _).alloc _).cell hc
 clear hc
 have HR:Hid (w.cell? ⟨b,o+i*3,none⟩=some (.int .i64 r)):=hr
 clear hr
 go_enter Tryd.func62,Tryd.ntmps62
 go_wp2_with (go_at_call 59;refine (Jn _ _ _).mono ?_;rintro e w' ⟨rfl,rfl⟩)
 go_region_with (go_at_call 80;refine (HH.out _ ?_).mono ?_;(repeat (first | exact Zb.refl _ | assumption | apply Zb.drew | apply Zb.alloc));rintro e w' ⟨rfl,hkk⟩)
 all_goals (have q0:=hkk.cell (Zd (t:=86) (fr:=(0,0)) (b:=w.heap.size) (c:=#[.int .i64 13,.int .i64 i]) (by repeat (first | exact Zg rfl | refine Zr ?_ _ | refine Xi ?_)) 0))
 all_goals (have q1:=hkk.cell (Zd (t:=86) (fr:=(0,0)) (b:=w.heap.size) (c:=#[.int .i64 13,.int .i64 i]) (by repeat (first | exact Zg rfl | refine Zr ?_ _ | refine Xi ?_)) 1))
 all_goals (have hr2:=(Zb.trans (by repeat (first | exact Zb.refl w | apply Zb.drew | apply Zb.alloc)) hkk).cell HR.out)
 all_goals go_wp2
 all_goals go_ret
 all_goals refine ⟨rfl,?_⟩
 all_goals (repeat (first | exact Zb.refl _ | refine Zb.trans ?_ hkk | apply Zb.drew | apply Zb.alloc))
end Go.Proofs.YtblihfpigjiahaaDoor
