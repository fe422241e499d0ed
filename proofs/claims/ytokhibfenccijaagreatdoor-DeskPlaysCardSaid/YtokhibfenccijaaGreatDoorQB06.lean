import Derived.Test.YtokhibfenccijaaGreatDoorQB04
set_option maxRecDepth 100000
set_option maxHeartbeats 8000000
namespace Go.Proofs.YtokhibfenccijaaGreatDoor
open Go.Proofs.Tryz
open Go.RowKit
theorem yO(k:Nat)(a:Int)(v:Value)(n:k<17)(g d:Nat)(w:World)(h:w.cell? ⟨2,k*3+2,none⟩=some (.int .i64 1))(H:∀c,J w c→Calls prog 115 #[.int .i64 a] c fun b e=>b=.returned (.bool false)∧J c e):Calls prog 85 #[v,.agg #[.int .i64 k,.int .i64 a],da g d] w fun b f=>b=.returned (.int .i64 3)∧J w f:=by
 have m:aX k 17=true:=dV (by omega) (by omega);have i:Hid (∀c,J w c→Calls prog 115 #[.int .i64 a] c fun b e=>b=.returned (.bool false)∧J c e):=H;clear H;unfold da;have l:((w.alloc (.cells #[.int .i64 k,.int .i64 a] 72)).alloc (.cells #[.func (.func 114) #[] #[],.func (.func 115) #[] #[],.func (.func 116) #[] #[.pointer (some ⟨d,0,none⟩)],.func (.func 117) #[] #[.pointer (some ⟨d,0,none⟩)],.func (.func 118) #[] #[.pointer (some ⟨g,0,none⟩)]] 135)).cell? ⟨2,k*3+2,none⟩=some (.int .i64 1):=(((J.refl w).alloc _).alloc _).cell h;clear h;go_enter func85,ntmps85;go_wp2_with(go_at_call 82;refine(dI _ _ _).mono ?_;rintro b f⟨rfl,rfl⟩);go_region_with(go_at_call 115;refine(i.out _ ?_).mono ?_;(repeat(first|exact J.refl _|assumption|apply J.drew|apply J.alloc));rintro b f⟨rfl,j⟩);all_goals go_wp2
 all_goals go_ret
 all_goals refine⟨rfl,?_⟩
 all_goals(repeat(first|exact J.refl _|refine J.trans ?_ j|apply J.drew|apply J.alloc))
theorem yP(k:Nat)(a:Int)(v:Value)(p:k<17)(q:((k:Int)==13)=false)(j f:Nat)(w:World)(l:w.cell? ⟨2,k*3+2,none⟩=some (.int .i64 1))(H:∀e,J w e→Calls prog 115 #[.int .i64 a] e fun d h=>d=.returned (.bool true)∧J e h):Calls prog 85 #[v,.agg #[.int .i64 k,.int .i64 a],da j f] w fun d i=>d=.returned (.int .i64 0)∧J w i:=by
 have o:aX k 17=true:=dV (by omega) (by omega);have m:Hid (∀e,J w e→Calls prog 115 #[.int .i64 a] e fun d h=>d=.returned (.bool true)∧J e h):=H;clear H;unfold da;have n:((w.alloc (.cells #[.int .i64 k,.int .i64 a] 72)).alloc (.cells #[.func (.func 114) #[] #[],.func (.func 115) #[] #[],.func (.func 116) #[] #[.pointer (some ⟨f,0,none⟩)],.func (.func 117) #[] #[.pointer (some ⟨f,0,none⟩)],.func (.func 118) #[] #[.pointer (some ⟨j,0,none⟩)]] 135)).cell? ⟨2,k*3+2,none⟩=some (.int .i64 1):=(((J.refl w).alloc _).alloc _).cell l;clear l;go_enter func85,ntmps85;go_wp2_with(go_at_call 82;refine(dI _ _ _).mono ?_;rintro d i⟨rfl,rfl⟩);go_region_with(go_at_call 115;refine(m.out _ ?_).mono ?_;(repeat(first|exact J.refl _|assumption|apply J.drew|apply J.alloc));rintro d i⟨rfl,g⟩);all_goals(have r:=g.cell (ab (t:=72) (fr:=(0,0)) (b:=w.heap.size) (c:=#[.int .i64 k,.int .i64 a]) (by repeat(first|exact ah rfl|refine au ?_ _|refine aW ?_)) 0))
 all_goals(have s:=g.cell (ab (t:=72) (fr:=(0,0)) (b:=w.heap.size) (c:=#[.int .i64 k,.int .i64 a]) (by repeat(first|exact ah rfl|refine au ?_ _|refine aW ?_)) 1))
 all_goals go_wp2
 all_goals go_ret
 all_goals refine⟨rfl,?_⟩
 all_goals(repeat(first|exact J.refl _|refine J.trans ?_ g|apply J.drew|apply J.alloc))
