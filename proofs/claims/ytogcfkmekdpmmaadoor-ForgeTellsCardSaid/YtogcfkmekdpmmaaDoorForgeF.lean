/-
  The statements' own forgeBegun, of the contracts of what it calls.
-/
import Derived.Test.YtogcfkmekdpmmaaDoorForgeE
import Derived.Test.YtogcfkmekdpmmaaDoorStX
set_option maxRecDepth 100000
set_option maxHeartbeats 8000000
namespace Go.Proofs.YtogcfkmekdpmmaaDoor
open Go.RowKit Go.Maps

theorem forgeBegun_w (w:World)
    (HN:Hid (∀ u,Calls Tryd.prog 37 #[] u fun e w'=>∃ b,e=.returned (.slice (some ⟨b,0,none⟩) 8 8)∧w'.heap[b]?=some (.cells (#[.int .i64 7,.int .i64 0,.int .i64 5,.int .i64 0,.int .i64 1,.int .i64 0,.int .i64 0,.int .i64 5,.int .i64 4,.int .i64 0,.int .i64 1,.int .i64 0,.int .i64 1,.int .i64 0,.int .i64 0,.int .i64 7]) 88)∧Kept u w'))
    (HF:Hid (∀ u b,Kept w u→u.heap[b]?=some (.cells (#[.int .i64 7,.int .i64 0,.int .i64 5,.int .i64 0,.int .i64 1,.int .i64 0,.int .i64 0,.int .i64 5,.int .i64 4,.int .i64 0,.int .i64 1,.int .i64 0,.int .i64 1,.int .i64 0,.int .i64 0,.int .i64 7]) 88)→Calls Tryd.prog 12 #[.slice (some ⟨b,0,none⟩) 8 8,.int .i64 1] u fun e w'=>∃ bc oc cap,e=.returned (.tuple #[.agg #[.int .i64 1,.int .i64 1,.slice (some ⟨bc,oc,none⟩) 10 cap],.int .i64 0])∧w'.cell? ⟨bc,oc + 3 * 2,none⟩=some (.int .i64 10)∧w'.cell? ⟨bc,oc + 3 * 2 + 1,none⟩=some (.int .i64 8)∧Kept u w'))
    (HP:Hid (∀ u b d,Kept w u→u.heap[b]?=some (.cells (#[.int .i64 7,.int .i64 0,.int .i64 5,.int .i64 0,.int .i64 1,.int .i64 0,.int .i64 0,.int .i64 5,.int .i64 4,.int .i64 0,.int .i64 1,.int .i64 0,.int .i64 1,.int .i64 0,.int .i64 0,.int .i64 7]) 88)→u.heap[d]?=some (.cells #[.int .i64 3] 3)→Calls Tryd.prog 13 #[.slice (some ⟨b,0,none⟩) 8 8,.slice (some ⟨d,0,none⟩) 1 1] u fun e w'=>∃ oa cap,e=.returned (.tuple #[.slice oa 2 cap,.int .i64 0])∧ProgAt w' (.slice oa 2 cap) (forgeP [(7,0),(5,0),(1,0),(0,5),(4,0),(1,0),(1,0),(0,7)] [3])∧Kept u w'))
    (HA:Hid (∀ u v,Kept w u→ProgAt u v (forgeP [(7,0),(5,0),(1,0),(0,5),(4,0),(1,0),(1,0),(0,7)] [3])→GivesInts 8 #[v,.int .i64 99] u [9] [.int .i64 12,.int .i64 0]))
    (HM:Hid (∀ u b d,Kept w u→u.heap[b]?=some (.cells (#[.int .i64 7,.int .i64 0,.int .i64 5,.int .i64 0,.int .i64 1,.int .i64 0,.int .i64 0,.int .i64 5,.int .i64 4,.int .i64 0,.int .i64 1,.int .i64 0,.int .i64 1,.int .i64 0,.int .i64 0,.int .i64 7]) 88)→u.heap[d]?=some (.cells #[.int .i64 (-1)] 3)→Calls Tryd.prog 13 #[.slice (some ⟨b,0,none⟩) 8 8,.slice (some ⟨d,0,none⟩) 1 1] u fun e w'=>∃ v,e=.returned (.tuple #[v,.int .i64 3])∧Kept u w'))
    (HO:Hid (∀ u,Calls Tryd.prog 31 #[.int .i64 10,.int .i64 8] u fun e w'=>e=.returned (.agg #[.int .i64 10,.int .i64 8])∧w'=u.alloc (.cells #[.int .i64 10,.int .i64 8] 61)))
    (HSI:Hid (∀ u v1 d,IntsW u v1 [9]→u.heap[d]?=some (.cells #[.int .i64 9] 3)→Calls Tryd.prog 11 #[v1,.slice (some ⟨d,0,none⟩) 1 1] u fun e w'=>e=.returned (.bool true)∧Kept u w')) :
    Calls Tryd.prog 16 #[] w fun e w'=>e=.returned (.bool true)∧Kept w w':=by
  generalize forgeP [(7,0),(5,0),(1,0),(0,5),(4,0),(1,0),(1,0),(0,7)] [3]=P at *
  generalize (#[.int .i64 7,.int .i64 0,.int .i64 5,.int .i64 0,.int .i64 1,.int .i64 0,.int .i64 0,.int .i64 5,.int .i64 4,.int .i64 0,.int .i64 1,.int .i64 0,.int .i64 1,.int .i64 0,.int .i64 0,.int .i64 7]:Array Value)=ND at *
  go_enter Tryd.func16,Tryd.ntmps16
  go_wp2_with fail
  refine ((un HN) _).mono ?_
  rintro _ w1 ⟨b1,rfl,hb,hk⟩
  have HC:=hide ((un HF) w1 b1 hk hb)
  have HK:=hide hk
  clear hb hk HF
  go_wp2_with fail
  refine (un HC).mono ?_
  rintro _ w2 ⟨bc,oc,cap,rfl,c0,c1,hk⟩
  have HK1:Hid (Kept w (w2.alloc (.cells #[.int .i64 1,.int .i64 1,.slice (some ⟨bc,oc,none⟩) 10 cap] 33))):=hide (((un HK).trans hk).alloc _)
  have C0:=hide (((Kept.refl w2).alloc (.cells #[.int .i64 1,.int .i64 1,.slice (some ⟨bc,oc,none⟩) 10 cap] 33)).cell c0)
  have C1:=hide (((Kept.refl w2).alloc (.cells #[.int .i64 1,.int .i64 1,.slice (some ⟨bc,oc,none⟩) 10 cap] 33)).cell c1)
  have LF:Hid ((w2.alloc (.cells #[.int .i64 1,.int .i64 1,.slice (some ⟨bc,oc,none⟩) 10 cap] 33)).heap[w2.heap.size]?=some (.cells #[.int .i64 1,.int .i64 1,.slice (some ⟨bc,oc,none⟩) 10 cap] 33)):=hide (lays_new rfl)
  clear hk c0 c1 HC HK
  go_wp2_with fail
  generalize w2.alloc (.cells #[.int .i64 1,.int .i64 1,.slice (some ⟨bc,oc,none⟩) 10 cap] 33)=w3 at HK1 C0 C1 LF ⊢
  generalize w2.heap.size=X at LF ⊢
  refine ((un HN) _).mono ?_
  rintro _ w4 ⟨b4,rfl,hb,hk⟩
  have HC:=hide ((un HP) (w4.alloc (.cells #[.int .i64 3] 3)) b4 w4.heap.size (((un HK1).trans hk).alloc _) (lays_alloc hb _) (lays_new rfl))
  have HKA:Hid (Kept w3 (w4.alloc (.cells #[.int .i64 3] 3))):=hide (hk.alloc _)
  clear hb hk HP
  go_wp2_with fail
  refine (un HC).mono ?_
  rintro _ w5 ⟨oa,pc,rfl,hp,hk⟩
  replace HKA:=hide ((un HKA).trans hk)
  have HC2:=hide ((un HA) w5 _ ((un HK1).trans (un HKA)) hp)
  clear hp hk HC HA
  unfold GivesInts at HC2
  go_wp2_with fail
  refine (un HC2).mono ?_
  rintro _ w6 ⟨ol,nl,cl,rfl,rfl,-,hl,hk⟩
  replace HKA:=hide ((un HKA).trans hk)
  have HL:=hide hl
  clear hl hk HC2
  go_wp2_with fail
  refine ((un HN) _).mono ?_
  rintro _ w7 ⟨b7,rfl,hb,hk⟩
  have HC:=hide ((un HM) (w7.alloc (.cells #[.int .i64 (-1)] 3)) b7 w7.heap.size (((un HK1).trans ((un HKA).trans hk)).alloc _) (lays_alloc hb _) (lays_new rfl))
  replace HKA:Hid (Kept w3 (w7.alloc (.cells #[.int .i64 (-1)] 3))):=hide (((un HKA).trans hk).alloc _)
  replace HL:=hide ((un HL).kept (hk.alloc (.cells #[.int .i64 (-1)] 3)))
  clear hb hk HM HN
  go_wp2_with fail
  refine (un HC).mono ?_
  rintro _ w8 ⟨v8,rfl,hk⟩
  replace HKA:=hide ((un HKA).trans hk)
  replace HL:=hide ((un HL).kept hk)
  clear hk HC
  have l8:=lays_kept (un HKA) (un LF)
  have f2:w8.cell? ⟨X,2,none⟩=some (.slice (some ⟨bc,oc,none⟩) 10 cap):=cell_lays l8 2
  have c0:=(un HKA).cell (un C0)
  have c1:=(un HKA).cell (un C1)
  clear l8 LF C0 C1
  go_wp2_with fail
  refine wp_region_held_drew (S:=fun y=>Kept w8 y) (by kernel_rfl) ((Kept.refl w8).drew) (fun hHeld=>?_)
  refine planY [0,1,2,3,4,5,6,7,8,9,10,11,12,13,14,15,16,17,18,19,20,21,22,23,24,25,26,27,28,29,30] ?_
  repeat
    refine takeY (v:=?_) hHeld (fun u hSu=>?_) ?_
    rotate_left
    · (have y0:=Kept.cell hSu f2; have y1:=Kept.cell hSu c0; have y2:=Kept.cell hSu c1; (try dsimp only at y0 y1 y2); go_simp) <;> with_reducible rfl
    try simp only [PS]
  refine endY ?_
  refine take_oneF (i:=31) rfl (by kernel_rfl) (fun K hK=>?_)
  go_simp
  refine ((un HO) _).mono ?_
  rintro _ _ ⟨rfl,rfl⟩
  refine hK.out _ _ (((Kept.refl w8).drew).alloc _) (fun hHeld=>?_)
  replace HKA:=hide ((((un HKA)).drew).alloc (.cells #[.int .i64 10,.int .i64 8] 61))
  generalize w8.drew.alloc (.cells #[.int .i64 10,.int .i64 8] 61)=w9 at HKA hHeld ⊢
  refine planY [32,33,34,35,36,37,38,39,40] ?_
  repeat
    refine takeY (v:=?_) hHeld (fun u hSu=>?_) ?_
    rotate_left
    · (have y0:=Kept.cell hSu f2; have y1:=Kept.cell hSu c0; have y2:=Kept.cell hSu c1; (try dsimp only at y0 y1 y2); go_simp) <;> with_reducible rfl
    try simp only [PS]
  refine endY ?_
  refine take_oneF (i:=41) rfl (by kernel_rfl) (fun K1 hK1=>?_)
  go_simp
  refine hK1.out _ _ (hHeld.alloc _) (fun hHeld1=>?_)
  have HC:=hide ((un HSI) (w9.alloc (.cells #[.int .i64 9] 3)) _ w9.heap.size ((un HL).kept (hHeld.alloc _)) (lays_new rfl))
  refine take_oneF (i:=42) rfl (by kernel_rfl) (fun K2 hK2=>?_)
  go_simp
  refine (un HC).mono ?_
  rintro _ wA ⟨rfl,hk⟩
  have HKB:=hide (((un HKA).alloc (.cells #[.int .i64 9] 3)).trans hk)
  refine hK2.out _ _ ((Kept.alloc hHeld _).trans hk) (fun hHeld=>?_)
  clear hk HC HKA
  refine planY [43,44,45,46,47,48] ?_
  repeat
    refine takeY (v:=?_) hHeld (fun u hSu=>?_) ?_
    rotate_left
    · go_simp <;> with_reducible rfl
    try simp only [PS]
  refine endY ?_
  refine wpAnyH_done (by kernel_rfl) ?_ _
  go_wp2_with fail
  go_ret
  exact ⟨rfl,(un HK1).trans (un HKB)⟩
end Go.Proofs.YtogcfkmekdpmmaaDoor
