/- OpF0 -/
import Derived.Test.YtblihfpigjiahaaGreatDoorYB01
import Derived.Deep.RegionWith
set_option maxRecDepth 100000
set_option maxHeartbeats 8000000
namespace Go.Proofs.YtblihfpigjiahaaGreatDoor
open Go.RowKit
theorem Xdw (kd a:Int) (v:Value) (Bp Bf:Nat) (w:World) (h:ixB kd 17=false) :
  Calls Tryz.prog 73 #[v,.agg #[.int .i64 kd,.int .i64 a],Qs Bp Bf] w fun e w'=>e=.returned (.int .i64 4)∧Za w w':=by
 unfold Qs
 go_enter Tryz.func73,Tryz.ntmps73
 go_wp2_with (go_at_call 70;refine (Jj _ _ _).mono ?_;rintro e w' ⟨rfl,rfl⟩)
 go_ret
 exact ⟨rfl,((Za.refl _).alloc _).alloc _⟩
theorem Zzp (k:Nat) (a:Int) (v:Value) (hb:k<17) (Bp Bf:Nat) (w:World) (hc:w.cell? ⟨0,k*3+2,none⟩=some (.int .i64 0))
  (H:∀ u,Za w u→Calls Tryz.prog 118 #[.int .i64 a] u fun e u'=>e=.returned (.bool false)∧Za u u') :
  Calls Tryz.prog 73 #[v,.agg #[.int .i64 k,.int .i64 a],Qs Bp Bf] w fun e w'=>e=.returned (.int .i64 3)∧Za w w':=by
 have h:ixB k 17=true:=Jp (by omega) (by omega)
 have HH:Hid (∀ u,Za w u→Calls Tryz.prog 118 #[.int .i64 a] u fun e u'=>e=.returned (.bool false)∧Za u u'):=H
 clear H
 unfold Qs
 have c0:((w.alloc (.cells #[.int .i64 k,.int .i64 a] 66)).alloc (.cells #[.func (.func 118) #[] #[],.func (.func 119) #[] #[],.func (.func 120) #[] #[.pointer (some ⟨Bf,0,none⟩)],.func (.func 121) #[] #[.pointer (some ⟨Bf,0,none⟩)],.func (.func 122) #[] #[.pointer (some ⟨Bp,0,none⟩)]] 107)).cell? ⟨0,k*3+2,none⟩=some (.int .i64 0):=(((Za.refl w).alloc _).alloc _).cell hc
 clear hc
 go_enter Tryz.func73,Tryz.ntmps73
 go_wp2_with (go_at_call 70;refine (Jj _ _ _).mono ?_;rintro e w' ⟨rfl,rfl⟩)
 go_region_with (go_at_call 118;refine (HH.out _ ?_).mono ?_;(repeat (first | exact Za.refl _ | assumption | apply Za.drew | apply Za.alloc));rintro e w' ⟨rfl,hkk⟩)
 all_goals go_wp2
 all_goals go_ret
 all_goals refine ⟨rfl,?_⟩
 all_goals (repeat (first | exact Za.refl _ | refine Za.trans ?_ hkk | apply Za.drew | apply Za.alloc))
theorem Zra (k:Nat) (a:Int) (v:Value) (hb:k<17) (hn:((k:Int) == 13)=false) (Bp Bf:Nat) (w:World) (hc:w.cell? ⟨0,k*3+2,none⟩=some (.int .i64 0))
  (H:∀ u,Za w u→Calls Tryz.prog 118 #[.int .i64 a] u fun e u'=>e=.returned (.bool true)∧Za u u') :
  Calls Tryz.prog 73 #[v,.agg #[.int .i64 k,.int .i64 a],Qs Bp Bf] w fun e w'=>e=.returned (.int .i64 0)∧Za w w':=by
 have h:ixB k 17=true:=Jp (by omega) (by omega)
 have HH:Hid (∀ u,Za w u→Calls Tryz.prog 118 #[.int .i64 a] u fun e u'=>e=.returned (.bool true)∧Za u u'):=H
 clear H
 unfold Qs
 have c0:((w.alloc (.cells #[.int .i64 k,.int .i64 a] 66)).alloc (.cells #[.func (.func 118) #[] #[],.func (.func 119) #[] #[],.func (.func 120) #[] #[.pointer (some ⟨Bf,0,none⟩)],.func (.func 121) #[] #[.pointer (some ⟨Bf,0,none⟩)],.func (.func 122) #[] #[.pointer (some ⟨Bp,0,none⟩)]] 107)).cell? ⟨0,k*3+2,none⟩=some (.int .i64 0):=(((Za.refl w).alloc _).alloc _).cell hc
 clear hc
 go_enter Tryz.func73,Tryz.ntmps73
 go_wp2_with (go_at_call 70;refine (Jj _ _ _).mono ?_;rintro e w' ⟨rfl,rfl⟩)
 go_region_with (go_at_call 118;refine (HH.out _ ?_).mono ?_;(repeat (first | exact Za.refl _ | assumption | apply Za.drew | apply Za.alloc));rintro e w' ⟨rfl,hkk⟩)
 all_goals (have q0:=hkk.cell (Zd (t:=66) (fr:=(0,0)) (b:=w.heap.size) (c:=#[.int .i64 k,.int .i64 a]) (by repeat (first | exact Zh rfl | refine Zo ?_ _ | refine Xc ?_)) 0))
 all_goals (have q1:=hkk.cell (Zd (t:=66) (fr:=(0,0)) (b:=w.heap.size) (c:=#[.int .i64 k,.int .i64 a]) (by repeat (first | exact Zh rfl | refine Zo ?_ _ | refine Xc ?_)) 1))
 all_goals go_wp2
 all_goals go_ret
 all_goals refine ⟨rfl,?_⟩
 all_goals (repeat (first | exact Za.refl _ | refine Za.trans ?_ hkk | apply Za.drew | apply Za.alloc))
end Go.Proofs.YtblihfpigjiahaaGreatDoor
