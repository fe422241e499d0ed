/-
  The program's smith: part.
-/
import Derived.Test.YtogcfkmekdpmmaaDoorForgeB
set_option maxRecDepth 100000
set_option maxHeartbeats 8000000
namespace Go.Proofs.YtogcfkmekdpmmaaDoor
open Go.RowKit Go.Maps

def FKinds (w:World):Prop:=∀ (k:Nat) (v:Int),[(0:Int),2,4,5,6,7,8][k]?=some v→w.cell? ⟨0,k,none⟩=some (.int .i64 v)
theorem row_old {w:World} {base:Nat} {e:TypeId} {size:Nat} {v:Value} {n:Nat} {xs:List Value} (h:w.ownsRow base e size v n xs):v.ownBlock≠some w.heap.size:=by
  obtain ⟨hl,h0 | ⟨g,cap,cur,hv,hb,hg,_⟩⟩:=h
  · rw [h0.1]; intro e; cases e
  · rw [hv]
    intro e
    have h2:g < w.heap.size:=(Array.getElem?_eq_some_iff.1 hg).1
    cases e
    exact Nat.lt_irrefl _ h2
theorem SmAt.cut {w0 w:World} {B:Nat} {k z:Int} {r c:List (Int × Int)} (h:SmAt w0 w B ((k,z) :: r) c):∃ b o1 cap oa cv,r.length + 1≤cap∧r.length≤8796093022208 ∧
    w.heap[B]?=some (.cells #[.slice (some ⟨b,o1,none⟩) (r.length + 1) cap,cv] 65)∧w.cell? ⟨b,o1,none⟩=some (.int .i64 k)∧w.cell? ⟨b,o1 + 1,none⟩=some (.int .i64 z) ∧
    (∀ u,(Instr.sliceAt 30 (.slice (some ⟨b,o1,none⟩) (r.length + 1) cap) (some (.int .i64 1)) none none).run Tryd.prog u=.ok (.slice oa r.length (cap - 1)) u)∧cv.ownBlock≠some w.heap.size ∧
    SmAt w0 ((w.alloc (.cells #[.int .i64 k,.int .i64 z] 88)).setCell ⟨B,0,none⟩ (.slice oa r.length (cap - 1))) B r c ∧
    SmK B w ((w.alloc (.cells #[.int .i64 k,.int .i64 z] 88)).setCell ⟨B,0,none⟩ (.slice oa r.length (cap - 1))) ∧
    ((w.alloc (.cells #[.int .i64 k,.int .i64 z] 88)).setCell ⟨B,0,none⟩ (.slice oa r.length (cap - 1))).heap[B]?=some (.cells #[.slice oa r.length (cap - 1),cv] 65):=by
  obtain ⟨lv,cv,hB,hlow,hnd,hrow,hoff,hk⟩:=h
  obtain ⟨b,o1,cap,rfl,hcap,hrl,c0,c1,hrest⟩:=hnd.first
  obtain ⟨oa,hoa,hsl⟩:=cut_first b o1 r.length cap hcap
  have hBlt:B < w.heap.size:=(Array.getElem?_eq_some_iff.1 hB).1
  have hA:=lays_alloc hB (.cells #[.int .i64 k,.int .i64 z] 88)
  have hS:=lays_set hA 0 (.slice oa r.length (cap - 1))
  have hrow2:=ownsRow_setCell_other (hrow.alloc (.cells #[.int .i64 k,.int .i64 z] 88)) (a:=⟨B,0,none⟩) hoff (.slice oa r.length (cap - 1))
  refine ⟨b,o1,cap,oa,cv,hcap,hrl,hB,hk.cell c0,hk.cell c1,hsl,row_old hrow,⟨_,cv,hS,hlow,hrest (cap - 1) oa (by omega) (fun hne=>hoa (by simpa using hne)),hrow2,hoff,(hk.alloc _).setCell hlow _⟩,⟨?_,?_⟩,hS⟩
  · simp [World.setCell]
  · intro b' cv' hb hn hc ho
    refine ⟨by rw [Below.heap_setCell _ _ _ _ hn,Below.heap_alloc _ _ _ hb],cv',?_,ho⟩
    rw [cell_lays hS 1,← hc,cell_lays hB 1]
    rfl
theorem smPart_step (w0:World) (B n:Nat) (hf:Hid (FKinds w0)) (HP:Hid (PartC w0 B n)):PartC w0 B (n + 1):=by
    intro o e c w hl ho h1 hk hz hc h
    obtain ⟨⟨k,z⟩,r,rfl⟩:∃ x r,e=x :: r:=by
      cases e with
      | nil=>simp [onlyS] at h1; omega
      | cons x r=>exact ⟨x,r,rfl⟩
    have hx:=hk (k,z) (by simp)
    have hy:=hz (k,z) (by simp)
    unfold kindOk at hx
    obtain ⟨hx0,hx7⟩:=hx
    have hl9:r.length≤n:=by simpa using hl
    have HH:=hide (show onlyS r (o - 1 + partsS k)=true by simp only [onlyS] at h1; rwa [if_neg (by omega)] at h1)
    have HK:=hide (show ∀ y∈r,kindOk y from fun y hy=>hk y (by simp [hy]))
    have HZ:=hide (show ∀ y∈r,2≤y.1→y.2=0 from fun y hy=>hz y (by simp [hy]))
    have hc':c.length + 2 * r.length + 2≤60:=by simp at hc; omega
    obtain ⟨b,o1,cap,oa,cv,hcap,hrl,hB,c0,c1,hsl,hcv,hS,hsm,hS1⟩:=h.cut
    have hBlt:B < w.heap.size:=(Array.getElem?_eq_some_iff.1 hB).1
    have p0:w.cell? ⟨B,0,none⟩=some (.slice (some ⟨b,o1,none⟩) (r.length + 1) cap):=cell_lays hB 0
    have hA:=lays_alloc hB (.cells #[.int .i64 k,.int .i64 z] 88)
    have p1:(w.alloc (.cells #[.int .i64 k,.int .i64 z] 88)).cell? ⟨B,0,none⟩=some (.slice (some ⟨b,o1,none⟩) (r.length + 1) cap):=cell_lays hA 0
    have f1:(w.alloc (.cells #[.int .i64 k,.int .i64 z] 88)).frozen? ⟨B,0,none⟩=false:=frozen_lays hA 0
    have l0:=lays_other (lays_new (w:=w) (o:=.cells #[.int .i64 k,.int .i64 z] 88) rfl) (a:=⟨B,0,none⟩) (by simp; omega) (.slice oa r.length (cap - 1))
    have d0:=cell_lays l0 0
    have d1:=cell_lays l0 1
    have HD:=hide l0
    have HS:=hide hS
    have HSM:=hide hsm
    have HS1:=hide (cell_lays hS1 1)
    have HCV:=hide hcv
    have HBL:=hide hBlt
    have h1i:(1:Int)≤((r.length + 1:Nat):Int):=by omega
    have h2i:(0:Int) < ((r.length + 1:Nat):Int):=by omega
    clear hS hsm l0 hcv hA hB h h1 hk hz hl hc hS1 hBlt
    by_cases h0:k=0
    · have hv:valS [] (n + 1) ((k,z) :: r)=(z,r):=by unfold valS; rw [if_pos h0]
      have hlay:layS (n + 1) ((k,z) :: r) c.length=([(0,z)],r):=by unfold layS; rw [if_pos h0]
      rw [hlay,show (valS [] (n + 1) ((k,z) :: r)).2=r by rw [hv]]
      clear hv hlay
      subst h0
      have HC:=hide (smPut_any w0 _ B r c 0 z (un HS).drew (by omega))
      have g0:((w.alloc (.cells #[.int .i64 0,.int .i64 z] 88)).setCell ⟨B,0,none⟩ (.slice oa r.length (cap - 1))).cell? ⟨0,0,none⟩=some (.int .i64 0):=by
        obtain ⟨_,_,_,_,_,_,_,hkk⟩:=un HS
        exact hkk.cell (un hf 0 0 rfl)
      go_enter Tryd.func33,Tryd.ntmps33
      go_wp2_with fail
      generalize (w.alloc (.cells #[.int .i64 0,.int .i64 z] 88)).setCell ⟨B,0,none⟩ (.slice oa r.length (cap - 1))=w1 at HC HS d0 d1 g0 HD HSM HS1 ⊢
      have hXB:w.heap.size≠B:=by have:=un HBL; omega
      have HFX:Hid (∀ u,SmK B w1.drew u→u.heap[w.heap.size]?=some (.cells #[.int .i64 0,.int .i64 z] 88)):=hide (fun u hu=>((hu.2 w.heap.size cv (Array.getElem?_eq_some_iff.1 (un HD)).1 hXB (un HS1) (un HCV)).1).trans (un HD))
      generalize w.heap.size=X at HFX d0 d1 ⊢
      refine wp_region_held_drew (S:=fun y=>y.cell? ⟨X,0,none⟩=some (.int .i64 0)∧y.cell? ⟨X,1,none⟩=some (.int .i64 z)∧y.cell? ⟨0,0,none⟩=some (.int .i64 0)) (by kernel_rfl) ⟨d0,d1,g0⟩ (fun hHeld=>?_)
      refine planY [0,1,2,3,4,5,6] ?_
      repeat
        refine takeY (v:=?_) hHeld (fun u hSu=>?_) ?_
        rotate_left
        · (obtain ⟨y0,y1,y2⟩:=hSu; (try dsimp only at y0 y1 y2); go_simp) <;> with_reducible rfl
        try simp only [PS]
      refine endY ?_
      refine take_oneF (i:=7) rfl (by kernel_rfl) (fun K hK=>?_)
      go_simp
      refine (un HC).mono ?_
      rintro _ u ⟨rfl,su,tu⟩
      have HU:=hide su
      have HTU:=hide tu
      have bu:=un HFX u tu
      clear su tu
      refine hK.out _ _ ⟨cell_lays bu 0,cell_lays bu 1,?_⟩ (fun hHeld=>?_)
      · obtain ⟨_,_,_,_,_,_,_,hkk⟩:=un HU
        exact hkk.cell (un hf 0 0 rfl)
      refine wpAnyH_done (by kernel_rfl) ?_ _
      go_wp2_with fail
      first | go_end0 | refine bodyPost_ret (results_none rfl _ _ _) rfl ?_
      exact ⟨rfl,un HU,((un HSM).trans (un HTU))⟩
    by_cases h1:k=1
    · have hv:valS [] (n + 1) ((k,z) :: r)=([].getD z.toNat 0,r):=by unfold valS; rw [if_neg h0,if_pos h1]
      have hlay:layS (n + 1) ((k,z) :: r) c.length=([(2,z)],r):=by unfold layS; rw [if_neg h0,if_pos h1]
      rw [hlay,show (valS [] (n + 1) ((k,z) :: r)).2=r by rw [hv]]
      clear hv hlay
      subst h1
      have HC:=hide (smPut_any w0 _ B r c 2 z (un HS).drew (by omega))
      have g0:((w.alloc (.cells #[.int .i64 1,.int .i64 z] 88)).setCell ⟨B,0,none⟩ (.slice oa r.length (cap - 1))).cell? ⟨0,1,none⟩=some (.int .i64 2):=by
        obtain ⟨_,_,_,_,_,_,_,hkk⟩:=un HS
        exact hkk.cell (un hf 1 2 rfl)
      go_enter Tryd.func33,Tryd.ntmps33
      go_wp2_with fail
      generalize (w.alloc (.cells #[.int .i64 1,.int .i64 z] 88)).setCell ⟨B,0,none⟩ (.slice oa r.length (cap - 1))=w1 at HC HS d0 d1 g0 HD HSM HS1 ⊢
      have hXB:w.heap.size≠B:=by have:=un HBL; omega
      have HFX:Hid (∀ u,SmK B w1.drew u→u.heap[w.heap.size]?=some (.cells #[.int .i64 1,.int .i64 z] 88)):=hide (fun u hu=>((hu.2 w.heap.size cv (Array.getElem?_eq_some_iff.1 (un HD)).1 hXB (un HS1) (un HCV)).1).trans (un HD))
      generalize w.heap.size=X at HFX d0 d1 ⊢
      refine wp_region_held_drew (S:=fun y=>y.cell? ⟨X,0,none⟩=some (.int .i64 1)∧y.cell? ⟨X,1,none⟩=some (.int .i64 z)∧y.cell? ⟨0,1,none⟩=some (.int .i64 2)) (by kernel_rfl) ⟨d0,d1,g0⟩ (fun hHeld=>?_)
      refine planY [0,1,2,3,4,5,6] ?_
      repeat
        refine takeY (v:=?_) hHeld (fun u hSu=>?_) ?_
        rotate_left
        · (obtain ⟨y0,y1,y2⟩:=hSu; (try dsimp only at y0 y1 y2); go_simp) <;> with_reducible rfl
        try simp only [PS]
      refine endY ?_
      refine take_oneF (i:=7) rfl (by kernel_rfl) (fun K hK=>?_)
      go_simp
      refine (un HC).mono ?_
      rintro _ u ⟨rfl,su,tu⟩
      have HU:=hide su
      have HTU:=hide tu
      have bu:=un HFX u tu
      clear su tu
      refine hK.out _ _ ⟨cell_lays bu 0,cell_lays bu 1,?_⟩ (fun hHeld=>?_)
      · obtain ⟨_,_,_,_,_,_,_,hkk⟩:=un HU
        exact hkk.cell (un hf 1 2 rfl)
      refine wpAnyH_done (by kernel_rfl) ?_ _
      go_wp2_with fail
      first | go_end0 | refine bodyPost_ret (results_none rfl _ _ _) rfl ?_
      exact ⟨rfl,un HU,((un HSM).trans (un HTU))⟩
    have hb0:(k == 0)=false:=beq_eq_false_iff_ne.2 h0
    have hb1:(k == 1)=false:=beq_eq_false_iff_ne.2 h1
    obtain ⟨_,_,a3⟩:=lay_hg n r c.length 0 []
    by_cases h7:k=7
    · have hv:(valS [] (n + 1) ((k,z) :: r)).2=(valS [] n (valS [] n (valS [] n r).2).2).2:=by
        conv=>lhs; unfold valS
        rw [if_neg h0,if_neg h1,if_pos h7]
      have hlay:(layS (n + 1) ((k,z) :: r) c.length).1=((layS n r c.length).1++((10,((c.length + (layS n r c.length).1.length + 1 + (layS n (valS [] n r).2 (c.length + (layS n r c.length).1.length + 1)).1.length + 1:Nat):Int)) :: ((layS n (valS [] n r).2 (c.length + (layS n r c.length).1.length + 1)).1++((9,((c.length + (layS n r c.length).1.length + 1 + (layS n (valS [] n r).2 (c.length + (layS n r c.length).1.length + 1)).1.length + 1 + (layS n (valS [] n (valS [] n r).2).2 (c.length + (layS n r c.length).1.length + 1 + (layS n (valS [] n r).2 (c.length + (layS n r c.length).1.length + 1)).1.length + 1)).1.length:Nat):Int)) :: (layS n (valS [] n (valS [] n r).2).2 (c.length + (layS n r c.length).1.length + 1 + (layS n (valS [] n r).2 (c.length + (layS n r c.length).1.length + 1)).1.length + 1)).1)))):=by
        conv=>lhs; unfold layS
        rw [if_neg h0,if_neg h1,if_pos h7]
        obtain ⟨_,_,b3⟩:=lay_hg n (valS [] n r).2 (c.length + (layS n r c.length).1.length + 1) 0 []
        simp only [a3,b3]
      rw [hlay,hv]
      clear hv hlay a3
      have hp:partsS k=3:=by rw [h7]; rfl
      rw [hp] at HH
      clear hp hy
      subst h7
      have HC:=hide (choice_any w0 B n HP (o - 1 + 3) r c _ hl9 (by omega) (un HH) (un HK) (un HZ) (by omega) (un HS))
      go_enter Tryd.func33,Tryd.ntmps33
      go_wp2_with fail
      refine (un HC).mono ?_
      rintro _ u ⟨rfl,su,tu⟩
      have HU:=hide su
      have HTU:=hide ((un HSM).trans tu)
      clear su tu HC
      go_wp2_with fail
      first | go_end0 | refine bodyPost_ret (results_none rfl _ _ _) rfl ?_
      exact ⟨rfl,un HU,un HTU⟩
    have hb7:(k == 7)=false:=beq_eq_false_iff_ne.2 h7
    have hv:(valS [] (n + 1) ((k,z) :: r)).2=(valS [] n (valS [] n r).2).2:=by
      conv=>lhs; unfold valS
      rw [if_neg h0,if_neg h1,if_neg h7]
    have hlay:(layS (n + 1) ((k,z) :: r) c.length).1=(layS n r c.length).1++((layS n (valS [] n r).2 (c.length + (layS n r c.length).1.length)).1++[(k + 2,0)]):=by
      conv=>lhs; unfold layS
      rw [if_neg h0,if_neg h1,if_neg h7]
      simp only [a3]
    rw [hlay,hv]
    clear hv hlay a3
    have hp:partsS k=2:=by unfold partsS; rw [if_neg (by omega),if_pos (by omega)]
    rw [hp] at HH
    obtain rfl:z=0:=hy (by show 2≤k; omega)
    obtain ⟨kn,rfl⟩:∃ kn:Nat,k=kn:=⟨k.toNat,by omega⟩
    have HROW:Hid ([(0:Int),2,4,5,6,7,8][kn]?=some ((kn:Int) + 2)):=hide (by
      have:kn=2∨kn=3∨kn=4∨kn=5∨kn=6:=by omega
      rcases this with rfl | rfl | rfl | rfl | rfl <;> rfl)
    obtain ⟨j1,p1,q1,e1,o1'⟩:=val_rest [] n r (o - 1 + 2) hl9 (by omega) (un HH) (un HK)
    have k1:∀ y∈(valS [] n r).2,kindOk y:=by rw [e1]; exact fun y hy=>(un HK) y (List.mem_of_mem_drop hy)
    have x1:∀ y∈(valS [] n r).2,2≤y.1→y.2=0:=by rw [e1]; exact fun y hy=>(un HZ) y (List.mem_of_mem_drop hy)
    have w1':(valS [] n r).2.length=r.length - j1:=by rw [e1]; simp
    have m1:=lay_len n r (o - 1 + 2) c.length hl9 (by omega) (un HH) (un HK)
    have m2:=lay_len n (valS [] n r).2 (o - 1 + 2 - 1) (c.length + (layS n r c.length).1.length) (by omega) (by omega) o1' k1
    have H1:=hide ((un HP) (o - 1 + 2) r c _ hl9 (by omega) (un HH) (un HK) (un HZ) (by omega) (un HS))
    have HP2:Hid (∀ cc u,cc.length=c.length + (layS n r c.length).1.length→SmAt w0 u B (valS [] n r).2 cc→_):=hide (fun cc u hcc hu=>(un HP) (o - 1 + 2 - 1) (valS [] n r).2 cc u (by omega) (by omega) o1' k1 x1 (by omega) hu)
    generalize hA:(layS n r c.length).1=A at *
    generalize hD:(layS n (valS [] n r).2 (c.length + A.length)).1=D at *
    generalize valS [] n r=V1 at *
    generalize valS [] n V1.2=V2 at *
    have hcap2:c.length + A.length + D.length≤60:=by omega
    have HAD:=hide hD
    have hn0:(0:Int)≤(kn:Int):=by omega
    have hn7:(kn:Int) < 7:=by omega
    clear hA hD m1 m2 e1 o1' k1 x1 HH HK HZ p1 q1 w1' hp hy h0 h1 h7 ho
    have hl1:(c++A).length=c.length + A.length:=by rw [List.length_append]
    go_enter Tryd.func33,Tryd.ntmps33
    go_wp2_with fail
    generalize (w.alloc (.cells #[.int .i64 (kn:Int),.int .i64 0] 88)).setCell ⟨B,0,none⟩ (.slice oa r.length (cap - 1))=w1 at H1 HS d0 d1 HD HSM HS1 ⊢
    refine (un H1).mono ?_
    rintro _ u1 ⟨rfl,s1,t1⟩
    have H2:=hide ((un HP2) _ u1 hl1 s1)
    rw [hl1,un HAD] at H2
    have HT1:=hide t1
    clear s1 t1 H1 HP2
    go_wp2_with fail
    refine (un H2).mono ?_
    rintro _ u2 ⟨rfl,s2,t2⟩
    have hXB:w.heap.size≠B:=by have:=un HBL; omega
    have HT2:=hide ((un HT1).trans t2)
    have HFX:Hid (∀ u,SmK B u2.drew u→u.heap[w.heap.size]?=some (.cells #[.int .i64 (kn:Int),.int .i64 0] 88)):=hide (fun u hu=>(((((un HT2).drew).trans hu).2 w.heap.size cv (Array.getElem?_eq_some_iff.1 (un HD)).1 hXB (un HS1) (un HCV)).1).trans (un HD))
    have b2:u2.heap[w.heap.size]?=some (.cells #[.int .i64 (kn:Int),.int .i64 0] 88):=(((un HT2).2 w.heap.size cv (Array.getElem?_eq_some_iff.1 (un HD)).1 hXB (un HS1) (un HCV)).1).trans (un HD)
    clear d0 d1
    have d0:=cell_lays b2 0
    have d1:=cell_lays b2 1
    have g0:u2.cell? ⟨0,kn,none⟩=some (.int .i64 ((kn:Int) + 2)):=by
      obtain ⟨_,_,_,_,_,_,_,hkk⟩:=id s2
      exact hkk.cell (un hf kn ((kn:Int) + 2) (un HROW))
    have HC:=hide (smPut_any w0 _ B V2.2 _ ((kn:Int) + 2) 0 s2.drew (by simp only [List.length_append]; omega))
    clear s2 t2 H2 b2 HT1
    generalize w.heap.size=X at HFX d0 d1 ⊢
    go_wp2_with fail
    refine wp_region_held_drew (S:=fun y=>y.cell? ⟨X,0,none⟩=some (.int .i64 (kn:Int))∧y.cell? ⟨X,1,none⟩=some (.int .i64 0)∧y.cell? ⟨0,kn,none⟩=some (.int .i64 ((kn:Int) + 2))) (by kernel_rfl) ⟨d0,d1,g0⟩ (fun hHeld=>?_)
    refine planY [0,1,2,3,4,5,6] ?_
    repeat
      refine takeY (v:=?_) hHeld (fun u hSu=>?_) ?_
      rotate_left
      · (obtain ⟨y0,y1,y2⟩:=hSu; (try dsimp only at y0 y1 y2); go_simp) <;> with_reducible rfl
      try simp only [PS]
    refine endY ?_
    refine take_oneF (i:=7) rfl (by kernel_rfl) (fun K hK=>?_)
    go_simp
    refine (un HC).mono ?_
    rintro _ u ⟨rfl,su,tu⟩
    have HU:=hide su
    have HTU:=hide tu
    have bu:=un HFX u tu
    clear su tu
    refine hK.out _ _ ⟨cell_lays bu 0,cell_lays bu 1,?_⟩ (fun hHeld=>?_)
    · obtain ⟨_,_,_,_,_,_,_,hkk⟩:=un HU
      exact hkk.cell (un hf kn ((kn:Int) + 2) (un HROW))
    refine wpAnyH_done (by kernel_rfl) ?_ _
    go_wp2_with fail
    first | go_end0 | refine bodyPost_ret (results_none rfl _ _ _) rfl ?_
    refine ⟨rfl,?_,((un HSM).trans (un HT2)).trans (un HTU)⟩
    have h9:=un HU
    rwa [List.append_assoc,List.append_assoc] at h9
theorem smPart_any (w0:World) (B:Nat) (hf:Hid (FKinds w0)):∀ n,PartC w0 B n
  | 0=>fun o e c w hl ho h1 _ _ _ _=>by
    obtain rfl:e=[]:=List.length_eq_zero_iff.1 (by omega)
    simp [onlyS] at h1
    omega
  | n + 1=>smPart_step w0 B n hf (hide (smPart_any w0 B hf n))
end Go.Proofs.YtogcfkmekdpmmaaDoor
