/-
  The program's smith: choice, of part's contract.
-/
import Derived.Test.YtogcfkmekdpmmaaDoorForgeA
import Derived.Test.YtogcfkmekdpmmaaDoorTakesQ
import Derived.Test.YtogcfkmekdpmmaaDoorFB17
set_option maxRecDepth 100000
set_option maxHeartbeats 8000000
namespace Go.Proofs.YtogcfkmekdpmmaaDoor
open Go.RowKit Go.Maps

theorem take_oneF {P:Program} {md:Region.Mode} {Q:Exit→Act→World→Prop} {S:World→Prop} {L tl:List Oper} {i:Nat} {oi:Oper} {fuel:Nat} {listed:Array Bool} {a:Act} {w:World} (hd:L.drop i=oi :: tl)
    (hr:Region.ready md L.toArray listed=[i])
    (h:∀ K':Act→World→Prop,Shut (∀ a w,S w→(S w→wpAnyH P md L.toArray Q S fuel (listed.setIfInBounds i true) a w)→K' a w)→if Region.wanted oi (yielded L.toArray a.tmps)=true then Oper.wp P oi a w K' Q else K' (a.put oi.dst undef) w) :
    wpAnyH P md L.toArray Q S (fuel + 1) listed a w :=
  wpAnyH_ready hr (by simp) (AllReadyH.cons (at_drop hd) h AllReadyH.nil)
theorem flatOps_set:∀ (c:List (Int × Int)) (i:Nat) (k v0 v:Int),c[i]?=some (k,v0)→flatOps (c.set i (k,v))=(flatOps c).set (i * 2 + 1) (.int .i64 v)
  | [],i,_,_,_,h=>by simp at h
  | x :: c,0,k,v0,v,h=>by
    obtain rfl:x=(k,v0):=by simpa using h
    simp [flatOps]
  | x :: c,i + 1,k,v0,v,h=>by
    have:=flatOps_set c i k v0 v (by simpa using h)
    have e:(i + 1) * 2 + 1=(i * 2 + 1) + 2:=by omega
    rw [e]
    simp only [flatOps,List.set_cons_succ,List.flatMap_cons] at this ⊢
    rw [this]
    rfl
theorem SmAt.turn {w0 w:World} {B:Nat} {e c:List (Int × Int)} (h:SmAt w0 w B e c) {i:Nat} {k v0:Int} (hi:c[i]?=some (k,v0)) :
    ∃ g cap,w.cell? ⟨B,1,none⟩=some (.slice (some ⟨g,0,none⟩) c.length cap)∧w.cell? ⟨g,i * 2 + 1,none⟩=some (.int .i64 v0)∧w.frozen? ⟨g,i * 2 + 1,none⟩=false∧g≠B∧∀ v,SmAt w0 (w.setCell ⟨g,i * 2 + 1,none⟩ (.int .i64 v)) B e (c.set i (k,v))∧SmK B w (w.setCell ⟨g,i * 2 + 1,none⟩ (.int .i64 v)):=by
  obtain ⟨lv,cv,hB,hlow,hnd,hrow,hoff,hk⟩:=h
  have hil:i < c.length:=(List.getElem?_eq_some_iff.1 hi).1
  rcases hrow.2 with ⟨_,h0⟩ | ⟨g,cap,cur,rfl,hb,hg,hnc,hcm,hcs,ht⟩
  · omega
  · have hgB:g≠B:=fun e=>hoff (by rw [e]; rfl)
    have hcell:w.cell? ⟨g,i * 2 + 1,none⟩=some (.int .i64 v0):=by
      rw [cell_lays hg]
      have h2:=(flatOps_at c i _ hi).2
      rw [← ht,List.getElem?_take_of_lt (by omega)] at h2
      simpa using h2
    refine ⟨g,cap,cell_lays hB 1,hcell,frozen_lays hg _,hgB,fun v=>⟨⟨lv,_,?_,hlow,hnd,?_,hoff,hk.setCell hb _⟩,?_⟩⟩
    · exact lays_other hB (Ne.symm hgB) _
    · rw [flatOps_set c i k v0 v hi,List.length_set]
      exact (hrow.stored _ _).1
    · refine ⟨by simp [World.setCell],fun b cv hb hn hc ho=>⟨Below.heap_setCell _ _ _ _ (fun e=>?_),cv,(cell_lays (lays_other hB (Ne.symm hgB) _) 1).trans ((cell_lays hB 1).symm.trans hc),ho⟩⟩
      rw [cell_lays hB 1] at hc
      cases hc
      exact ho (by rw [e]; rfl)
theorem SmAt.drew {w0 w:World} {B:Nat} {e c:List (Int × Int)} (h:SmAt w0 w B e c):SmAt w0 w.drew B e c:=by
  obtain ⟨lv,cv,hB,hlow,hnd,hrow,hoff,hk⟩:=h
  exact ⟨lv,cv,hB,hlow,hnd,hrow,hoff,hk.drew⟩
def PartC (w0:World) (B n:Nat):Prop:=∀ (o:Int) (e c:List (Int × Int)) (w:World),e.length≤n→1≤o→onlyS e o=true→(∀ x∈e,kindOk x)→(∀ x∈e,2≤x.1→x.2=0)→c.length + 2 * e.length≤60→SmAt w0 w B e c →
  Calls Tryd.prog 33 #[.pointer (some ⟨B,0,none⟩)] w fun en w'=>en=.returned (.tuple #[])∧SmAt w0 w' B (valS [] n e).2 (c++(layS n e c.length).1)∧SmK B w w'
theorem lay_lenV (vals:List Int):∀ (n:Nat) (e:List (Int × Int)) (o:Int) (h:Nat),e.length≤n→1≤o→onlyS e o=true→(∀ x∈e,kindOk x)→(layS n e h).1.length≤2 * (e.length - (valS vals n e).2.length)
  | n,[],o,_,_,ho,h,_=>by simp [onlyS] at h; omega
  | 0,x :: r,o,_,hl,_,_,_=>by simp at hl
  | n + 1,x :: r,o,h,hl,ho,ho1,hk=>by
    have hx:=hk x (by simp)
    have hr:∀ y∈r,kindOk y:=fun y hy=>hk y (by simp [hy])
    have hl':r.length≤n:=by simpa using hl
    simp only [onlyS] at ho1
    rw [if_neg (by omega)] at ho1
    unfold kindOk at hx
    unfold layS valS
    by_cases h0:x.1=0
    · simp [h0]
    · simp only [h0,if_false]
      by_cases h1:x.1=1
      · simp [h1]
      · simp only [h1,if_false]
        obtain ⟨_,_,a3⟩:=lay_hg n r h 0 vals
        by_cases h7:x.1=7
        · simp only [h7,if_true]
          have hp:partsS x.1=3:=by rw [h7]; rfl
          rw [hp] at ho1
          obtain ⟨j1,p1,q1,e1,o1⟩:=val_rest vals n r (o - 1 + 3) hl' (by omega) ho1 hr
          have k1:∀ y∈(valS vals n r).2,kindOk y:=by rw [e1]; exact fun y hy=>hr y (List.mem_of_mem_drop hy)
          have w1:(valS vals n r).2.length=r.length - j1:=by rw [e1]; simp
          obtain ⟨j2,p2,q2,e2,o2⟩:=val_rest vals n _ (o - 1 + 3 - 1) (by omega) (by omega) o1 k1
          have k2:∀ y∈(valS vals n (valS vals n r).2).2,kindOk y:=by rw [e2]; exact fun y hy=>k1 y (List.mem_of_mem_drop hy)
          have w2:(valS vals n (valS vals n r).2).2.length=(valS vals n r).2.length - j2:=by rw [e2]; simp
          obtain ⟨j3,p3,q3,e3,o3⟩:=val_rest vals n _ (o - 1 + 3 - 1 - 1) (by omega) (by omega) o2 k2
          have w3:(valS vals n (valS vals n (valS vals n r).2).2).2.length=(valS vals n (valS vals n r).2).2.length - j3:=by rw [e3]; simp
          rw [a3]
          obtain ⟨_,_,b3⟩:=lay_hg n (valS vals n r).2 (h + (layS n r h).1.length + 1) 0 vals
          rw [b3]
          have sa:=lay_lenV vals n r (o - 1 + 3) h hl' (by omega) ho1 hr
          have sb:=lay_lenV vals n _ (o - 1 + 3 - 1) (h + (layS n r h).1.length + 1) (by omega) (by omega) o1 k1
          have sd:=lay_lenV vals n _ (o - 1 + 3 - 1 - 1) (h + (layS n r h).1.length + 1 + (layS n (valS vals n r).2 (h + (layS n r h).1.length + 1)).1.length + 1) (by omega) (by omega) o2 k2
          simp only [List.length_append,List.length_cons]
          generalize layS n r h=A at *
          generalize layS n (valS vals n r).2 (h + A.1.length + 1)=B at *
          generalize layS n (valS vals n (valS vals n r).2).2 (h + A.1.length + 1 + B.1.length + 1)=D at *
          omega
        · simp only [h7,if_false]
          have hp:partsS x.1=2:=by unfold partsS; rw [if_neg (by omega),if_pos (by omega)]
          rw [hp] at ho1
          obtain ⟨j1,p1,q1,e1,o1⟩:=val_rest vals n r (o - 1 + 2) hl' (by omega) ho1 hr
          have k1:∀ y∈(valS vals n r).2,kindOk y:=by rw [e1]; exact fun y hy=>hr y (List.mem_of_mem_drop hy)
          have w1:(valS vals n r).2.length=r.length - j1:=by rw [e1]; simp
          obtain ⟨j2,p2,q2,e2,o2⟩:=val_rest vals n _ (o - 1 + 2 - 1) (by omega) (by omega) o1 k1
          have w2:(valS vals n (valS vals n r).2).2.length=(valS vals n r).2.length - j2:=by rw [e2]; simp
          rw [a3]
          have sa:=lay_lenV vals n r (o - 1 + 2) h hl' (by omega) ho1 hr
          have sb:=lay_lenV vals n _ (o - 1 + 2 - 1) (h + (layS n r h).1.length) (by omega) (by omega) o1 k1
          simp only [List.length_append,List.length_cons,List.length_nil]
          generalize layS n r h=A at *
          generalize layS n (valS vals n r).2 (h + A.1.length)=B at *
          omega
theorem lay_len (n:Nat) (e:List (Int × Int)) (o:Int) (h:Nat) (hl:e.length≤n) (ho:1≤o) (h1:onlyS e o=true) (hk:∀ x∈e,kindOk x):(layS n e h).1.length≤2 * (e.length - (valS [] n e).2.length):=lay_lenV [] n e o h hl ho h1 hk
theorem choice_any (w0:World) (B n:Nat) (HP:Hid (PartC w0 B n)) (o:Int) (r c:List (Int × Int)) (w:World) (hl:r.length≤n) (ho:3≤o) (ho1:onlyS r o=true) (hr:∀ x∈r,kindOk x) (hz:∀ x∈r,2≤x.1→x.2=0) (hc:c.length + 2 * r.length + 2≤60) (h:SmAt w0 w B r c) :
    Calls Tryd.prog 50 #[.pointer (some ⟨B,0,none⟩)] w fun en w'=>en=.returned (.tuple #[])∧SmAt w0 w' B (valS [] n (valS [] n (valS [] n r).2).2).2
      (c++((layS n r c.length).1++((10,((c.length + (layS n r c.length).1.length + 1 + (layS n (valS [] n r).2 (c.length + (layS n r c.length).1.length + 1)).1.length + 1:Nat):Int)) :: ((layS n (valS [] n r).2 (c.length + (layS n r c.length).1.length + 1)).1++((9,((c.length + (layS n r c.length).1.length + 1 + (layS n (valS [] n r).2 (c.length + (layS n r c.length).1.length + 1)).1.length + 1 + (layS n (valS [] n (valS [] n r).2).2 (c.length + (layS n r c.length).1.length + 1 + (layS n (valS [] n r).2 (c.length + (layS n r c.length).1.length + 1)).1.length + 1)).1.length:Nat):Int)) :: (layS n (valS [] n (valS [] n r).2).2 (c.length + (layS n r c.length).1.length + 1 + (layS n (valS [] n r).2 (c.length + (layS n r c.length).1.length + 1)).1.length + 1)).1)))))∧SmK B w w':=by
  obtain ⟨j1,p1,q1,e1,o1⟩:=val_rest [] n r o hl (by omega) ho1 hr
  have k1:∀ y∈(valS [] n r).2,kindOk y:=by rw [e1]; exact fun y hy=>hr y (List.mem_of_mem_drop hy)
  have x1:∀ y∈(valS [] n r).2,2≤y.1→y.2=0:=by rw [e1]; exact fun y hy=>hz y (List.mem_of_mem_drop hy)
  have l1:(valS [] n r).2.length≤n:=by rw [e1]; simp; omega
  obtain ⟨j2,p2,q2,e2,o2⟩:=val_rest [] n _ (o - 1) l1 (by omega) o1 k1
  have k2:∀ y∈(valS [] n (valS [] n r).2).2,kindOk y:=by rw [e2]; exact fun y hy=>k1 y (List.mem_of_mem_drop hy)
  have x2:∀ y∈(valS [] n (valS [] n r).2).2,2≤y.1→y.2=0:=by rw [e2]; exact fun y hy=>x1 y (List.mem_of_mem_drop hy)
  have l2:(valS [] n (valS [] n r).2).2.length≤n:=by rw [e2]; simp; omega
  have w1:(valS [] n r).2.length=r.length - j1:=by rw [e1]; simp
  have w2:(valS [] n (valS [] n r).2).2.length=(valS [] n r).2.length - j2:=by rw [e2]; simp
  have m1:=lay_len n r o c.length hl (by omega) ho1 hr
  have m2:=lay_len n (valS [] n r).2 (o - 1) (c.length + (layS n r c.length).1.length + 1) l1 (by omega) o1 k1
  have H1:=hide ((un HP) o r c w hl (by omega) ho1 hr hz (by omega) h)
  have HP2:Hid (∀ cc u,cc.length=c.length + (layS n r c.length).1.length + 1→SmAt w0 u B (valS [] n r).2 cc→_):=hide (fun cc u hcc hu=>(un HP) (o - 1) (valS [] n r).2 cc u l1 (by omega) o1 k1 x1 (by omega) hu)
  have HP3:Hid (∀ cc u,cc.length=c.length + (layS n r c.length).1.length + 1 + (layS n (valS [] n r).2 (c.length + (layS n r c.length).1.length + 1)).1.length + 1→SmAt w0 u B (valS [] n (valS [] n r).2).2 cc→_):=hide (fun cc u hcc hu=>(un HP) (o - 1 - 1) (valS [] n (valS [] n r).2).2 cc u l2 (by omega) o2 k2 x2 (by omega) hu)
  generalize hA:(layS n r c.length).1=A at *
  generalize hB:(layS n (valS [] n r).2 (c.length + A.length + 1)).1=D at *
  generalize valS [] n r=V1 at *
  generalize valS [] n V1.2=V2 at *
  generalize hC:(layS n V2.2 (c.length + A.length + 1 + D.length + 1)).1=E at *
  generalize hZ:c.length + A.length=Z at *
  generalize hJ:Z + 1 + D.length=J at *
  generalize hT:J + 1=T at *
  have HZ:=hide (And.intro hZ (And.intro hJ hT))
  have HL:=hide (And.intro hB hC)
  have hcap:T≤60:=by omega
  clear h hz x1 x2 e1 e2 o1 o2 k1 k2 hZ hJ hT hB hC hA m1 m2
  go_enter Tryd.func50,Tryd.ntmps50
  go_wp2_with fail
  refine (un H1).mono ?_
  rintro _ u1 ⟨rfl,s1,t1⟩
  have HT1:=hide t1
  clear t1
  have hl1:(c++A).length=Z:=by rw [List.length_append]; exact (un HZ).1
  have H2:=hide (smPut_any w0 u1 B V1.2 (c++A) 10 0 s1 (by have:=un HZ; omega))
  rw [hl1] at H2
  clear s1 H1
  go_wp2_with fail
  refine (un H2).mono ?_
  rintro _ u2 ⟨rfl,s2,t2⟩
  have HT2:=hide ((un HT1).trans t2)
  clear t2 HT1
  have hl2:(c++A++[((10:Int),(0:Int))]).length=Z + 1:=by rw [List.length_append,hl1]; rfl
  have H3:=hide ((un HP2) _ u2 hl2 s2)
  rw [hl2,(un HL).1] at H3
  clear s2 H2 HP2
  go_wp2_with fail
  refine (un H3).mono ?_
  rintro _ u3 ⟨rfl,s3,t3⟩
  have HT3:=hide ((un HT2).trans t3)
  clear t3 HT2
  have hl3:(c++A++[((10:Int),(0:Int))]++D).length=J:=by rw [List.length_append,hl2]; exact (un HZ).2.1
  have H4:=hide (smPut_any w0 u3 B V2.2 _ 9 0 s3 (by have:=un HZ; omega))
  rw [hl3] at H4
  clear s3 H3
  go_wp2_with fail
  refine (un H4).mono ?_
  rintro _ u4 ⟨rfl,s4,t4⟩
  have HT4:=hide ((un HT3).trans t4)
  clear t4 HT3
  clear H4
  have hl4:(c++A++[((10:Int),(0:Int))]++D++[((9:Int),(0:Int))]).length=T:=by rw [List.length_append,hl3]; exact (un HZ).2.2
  have hat:(c++A++[((10:Int),(0:Int))]++D++[((9:Int),(0:Int))])[Z]?=some (10,0):=by
    rw [List.append_assoc _ D,List.append_assoc (c++A),List.getElem?_append_right (by omega),hl1]
    simp
  have hcs:∀ v,(c++A++[((10:Int),(0:Int))]++D++[((9:Int),(0:Int))]).set Z (10,v)=c++A++[(10,v)]++D++[(9,0)]:=fun v=>by
    rw [List.append_assoc _ D,List.append_assoc (c++A),List.set_append_right _ _ (by omega),hl1,Nat.sub_self]
    simp
  obtain ⟨g,cap,z1,z2,z3,hgB,hset⟩:=s4.turn hat
  have HT9:=hide ((un HT4).trans (hset (T:Int)).2.drew)
  clear HT4
  have hset':=(hset (T:Int)).1.drew
  rw [hcs] at hset'
  rw [hl4] at z1
  have HS:=hide hset'
  have hZT:(Z:Int) < (T:Int):=by have:=un HZ; omega
  have hZ0:(0:Int)≤(Z:Int):=by omega
  have hl3':(c++A++[((10:Int),(T:Int))]++D).length=J:=by simpa using hl3
  have hl5:(c++A++[((10:Int),(T:Int))]++D++[((9:Int),(0:Int))]).length=T:=by simpa using hl4
  clear s4 hat hset hset' hcs
  go_wp2_with fail
  refine wp_region_held_drew (S:=fun y=>y.cell? ⟨B,1,none⟩=some (.slice (some ⟨g,0,none⟩) T cap)) (by kernel_rfl) z1 (fun hHeld=>?_)
  refine planY [0,1,2,3,4,5,6,7,8,9,10,11] ?_
  repeat
    refine takeY (v:=?_) hHeld (fun u hSu=>?_) ?_
    rotate_left
    · ((try dsimp only at hSu); go_simp) <;> with_reducible rfl
    try simp only [PS]
  refine endY ?_
  refine take_oneF (i:=12) rfl (by kernel_rfl) (fun K hK=>?_)
  go_simp
  refine hK.out _ _ ?_ (fun hHeld=>?_)
  · show World.cell? _ _=_
    go_simp
  refine wpAnyH_done (by kernel_rfl) ?_ _
  have H5:=hide ((un HP3) _ _ hl5 (un HS))
  rw [hl5,(un HL).2] at H5
  clear HS HP3 z1 z2 z3 hHeld
  go_wp2_with fail
  refine (un H5).mono ?_
  rintro _ u5 ⟨rfl,s5,t5⟩
  have HT5:=hide ((un HT9).trans t5)
  clear t5 HT9
  clear H5
  have hl6:(c++A++[((10:Int),(T:Int))]++D++[((9:Int),(0:Int))]++E).length=T + E.length:=by rw [List.length_append,hl5]
  have hat:(c++A++[((10:Int),(T:Int))]++D++[((9:Int),(0:Int))]++E)[J]?=some (9,0):=by
    rw [List.append_assoc _ _ E,List.getElem?_append_right (by omega),hl3']
    simp
  have hcs:∀ v,(c++A++[((10:Int),(T:Int))]++D++[((9:Int),(0:Int))]++E).set J (9,v)=c++A++[(10,(T:Int))]++D++[(9,v)]++E:=fun v=>by
    rw [List.append_assoc _ _ E,List.set_append_right _ _ (by omega),hl3',Nat.sub_self]
    simp
  obtain ⟨g,cap,z1,z2,z3,hgB,hset⟩:=s5.turn hat
  have HT6:=hide ((un HT5).trans (hset ((T + E.length:Nat):Int)).2.drew)
  clear HT5
  have hset':=(hset ((T + E.length:Nat):Int)).1.drew
  rw [hcs] at hset'
  rw [hl6] at z1
  have HS:=hide hset'
  generalize hX:T + E.length=X at *
  have hZT:(J:Int) < (X:Int):=by have:=un HZ; omega
  have hZ0:(0:Int)≤(J:Int):=by omega
  clear s5 hat hset hset' hcs
  go_wp2_with fail
  refine wp_region_held_drew (S:=fun y=>y.cell? ⟨B,1,none⟩=some (.slice (some ⟨g,0,none⟩) X cap)) (by kernel_rfl) z1 (fun hHeld=>?_)
  refine planY [0,1,2,3,4,5,6,7,8,9,10,11] ?_
  repeat
    refine takeY (v:=?_) hHeld (fun u hSu=>?_) ?_
    rotate_left
    · ((try dsimp only at hSu); go_simp) <;> with_reducible rfl
    try simp only [PS]
  refine endY ?_
  refine take_oneF (i:=12) rfl (by kernel_rfl) (fun K hK=>?_)
  go_simp
  refine hK.out _ _ ?_ (fun hHeld=>?_)
  · show World.cell? _ _=_
    go_simp
  refine wpAnyH_done (by kernel_rfl) ?_ _
  go_wp2_with fail
  first | go_end0 | refine bodyPost_ret (results_none rfl _ _ _) rfl ?_
  refine ⟨rfl,?_,un HT6⟩
  have h9:=un HS
  have e9:=un HZ
  have ex:(T:Int) + (E.length:Int)=(X:Int):=by omega
  simpa [ex] using h9
end Go.Proofs.YtogcfkmekdpmmaaDoor
