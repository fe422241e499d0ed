import Derived.Test.YtokhibfenccijaaGreatDoorQB04
set_option maxRecDepth 100000
set_option maxHeartbeats 8000000
namespace Go.Proofs.YtokhibfenccijaaGreatDoor
open Go.Proofs.Tryz
open Go.RowKit
theorem yW(i b o n cap:Nat)(h:Int)(e g:Nat)(w:World)(l:w.cell? ⟨2,41,none⟩=some (.int .i64 4))(H:∀d,J w d→Calls prog 118 #[.int .i64 i,.pointer (some ⟨e,0,none⟩)] d fun a j=>a=.returned (.bool true)∧J d j)(u:i<n)(m:w.cell? ⟨b,o+i*3,none⟩=some (.int .i64 h))(v:(h !=1)=true):Calls prog 85 #[.slice (some ⟨b,o,none⟩) n cap,.agg #[.int .i64 13,.int .i64 i],da e g] w fun a k=>a=.returned (.int .i64 1)∧J w k:=by
 have s:aX 13 17=true:=rfl;have p:Hid (∀d,J w d→Calls prog 118 #[.int .i64 i,.pointer (some ⟨e,0,none⟩)] d fun a j=>a=.returned (.bool true)∧J d j):=H;clear H;unfold da;have r:((w.alloc (.cells #[.int .i64 13,.int .i64 i] 72)).alloc (.cells #[.func (.func 114) #[] #[],.func (.func 115) #[] #[],.func (.func 116) #[] #[.pointer (some ⟨g,0,none⟩)],.func (.func 117) #[] #[.pointer (some ⟨g,0,none⟩)],.func (.func 118) #[] #[.pointer (some ⟨e,0,none⟩)]] 135)).cell? ⟨2,41,none⟩=some (.int .i64 4):=(((J.refl w).alloc _).alloc _).cell l;clear l;have q:Hid (w.cell? ⟨b,o+i*3,none⟩=some (.int .i64 h)):=m;clear m;go_enter func85,ntmps85;go_wp2_with(go_at_call 82;refine(dI _ _ _).mono ?_;rintro a k⟨rfl,rfl⟩);go_region_with(go_at_call 118;refine(p.out _ ?_).mono ?_;(repeat(first|exact J.refl _|assumption|apply J.drew|apply J.alloc));rintro a k⟨rfl,f⟩);all_goals(have y:=f.cell (ab (t:=72) (fr:=(0,0)) (b:=w.heap.size) (c:=#[.int .i64 13,.int .i64 i]) (by repeat(first|exact ah rfl|refine au ?_ _|refine aW ?_)) 0))
 all_goals(have z:=f.cell (ab (t:=72) (fr:=(0,0)) (b:=w.heap.size) (c:=#[.int .i64 13,.int .i64 i]) (by repeat(first|exact ah rfl|refine au ?_ _|refine aW ?_)) 1))
 all_goals(have x:=(J.trans (by repeat(first|exact J.refl w|apply J.drew|apply J.alloc)) f).cell q.out)
 all_goals go_wp2
 all_goals go_ret
 all_goals refine⟨rfl,?_⟩
 all_goals(repeat(first|exact J.refl _|refine J.trans ?_ f|apply J.drew|apply J.alloc))
theorem yV(i b o n cap:Nat)(h:Int)(e g:Nat)(w:World)(l:w.cell? ⟨2,41,none⟩=some (.int .i64 4))(H:∀d,J w d→Calls prog 118 #[.int .i64 i,.pointer (some ⟨e,0,none⟩)] d fun a j=>a=.returned (.bool true)∧J d j)(u:i<n)(m:w.cell? ⟨b,o+i*3,none⟩=some (.int .i64 h))(v:(h !=1)=false):Calls prog 85 #[.slice (some ⟨b,o,none⟩) n cap,.agg #[.int .i64 13,.int .i64 i],da e g] w fun a k=>a=.returned (.int .i64 0)∧J w k:=by
 have s:aX 13 17=true:=rfl;have p:Hid (∀d,J w d→Calls prog 118 #[.int .i64 i,.pointer (some ⟨e,0,none⟩)] d fun a j=>a=.returned (.bool true)∧J d j):=H;clear H;unfold da;have r:((w.alloc (.cells #[.int .i64 13,.int .i64 i] 72)).alloc (.cells #[.func (.func 114) #[] #[],.func (.func 115) #[] #[],.func (.func 116) #[] #[.pointer (some ⟨g,0,none⟩)],.func (.func 117) #[] #[.pointer (some ⟨g,0,none⟩)],.func (.func 118) #[] #[.pointer (some ⟨e,0,none⟩)]] 135)).cell? ⟨2,41,none⟩=some (.int .i64 4):=(((J.refl w).alloc _).alloc _).cell l;clear l;have q:Hid (w.cell? ⟨b,o+i*3,none⟩=some (.int .i64 h)):=m;clear m;go_enter func85,ntmps85;go_wp2_with(go_at_call 82;refine(dI _ _ _).mono ?_;rintro a k⟨rfl,rfl⟩);go_region_with(go_at_call 118;refine(p.out _ ?_).mono ?_;(repeat(first|exact J.refl _|assumption|apply J.drew|apply J.alloc));rintro a k⟨rfl,f⟩);all_goals(have y:=f.cell (ab (t:=72) (fr:=(0,0)) (b:=w.heap.size) (c:=#[.int .i64 13,.int .i64 i]) (by repeat(first|exact ah rfl|refine au ?_ _|refine aW ?_)) 0))
 all_goals(have z:=f.cell (ab (t:=72) (fr:=(0,0)) (b:=w.heap.size) (c:=#[.int .i64 13,.int .i64 i]) (by repeat(first|exact ah rfl|refine au ?_ _|refine aW ?_)) 1))
 all_goals(have x:=(J.trans (by repeat(first|exact J.refl w|apply J.drew|apply J.alloc)) f).cell q.out)
 all_goals go_wp2
 all_goals go_ret
 all_goals refine⟨rfl,?_⟩
 all_goals(repeat(first|exact J.refl _|refine J.trans ?_ f|apply J.drew|apply J.alloc))
