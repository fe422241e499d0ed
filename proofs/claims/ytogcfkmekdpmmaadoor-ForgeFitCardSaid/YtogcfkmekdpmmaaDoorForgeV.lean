/-
  For ForgeFit: the plain facts, all fed; a program's cells, one behind the other; a program out of a row of one's own.
-/
import Derived.Test.YtogcfkmekdpmmaaDoorForgeU
import Derived.Test.YtogcfkmekdpmmaaDoorForgeD
import Derived.Test.YtogcfkmekdpmmaaDoorFB30
import Derived.Laws.AppendOwn
set_option maxRecDepth 100000
set_option maxHeartbeats 8000000
namespace Go.Proofs.YtogcfkmekdpmmaaDoor
open Go.RowKit Go.Maps

theorem fit_right {p:List Fn} {e:List (Int × Int)} {L:Int} (hp:progS p=0) (h5:p.length < 5) (h:ExG e L):progS (p++[fnS e L])=0 :=
  app_right hp h5 (h.chk (p++[fnS e L]) (f:=p.length) (by simp)) ⟨_,h.heights _⟩
theorem fit_all {p:List Fn} {g:Fn} (hp:progS p=0) (hq:progS (p++[g])=0) (m:Int):allS (p++[g]) m=allS p m:=by
  have hb:stErrS (p++[g]) (beginS p)=0:=by rw [← app_begin (g:=g) hp]; exact begin_right hq
  unfold allS rnS
  rw [app_begin hp,if_pos hp,if_pos hq,if_pos (begin_right hp),if_pos hb,app_run _ _ (begin_right hp)]
theorem prog_cells {w:World} {b o n cap:Nat} {p:List Fn} (h:ProgAt w (.slice (some ⟨b,o,none⟩) n cap) p):∃ xs:List Value,xs.length=n * 3∧(∀ j u,xs[j]?=some u→w.cell? ((⟨b,o,none⟩:Addr).add j)=some u)∧(∀ u∈xs,u.oneCell'=true) ∧
    ∀ i f,p[i]?=some f→∃ cv,xs[i * 3]?=some (.int .i64 f.args)∧xs[i * 3 + 1]?=some (.int .i64 f.locals)∧xs[i * 3 + 2]?=some cv∧CodeAt w cv f.code:=by
  obtain ⟨oa,cap',e,hl,hi⟩:=h
  simp only [Value.slice.injEq] at e
  obtain ⟨rfl,rfl,rfl⟩:=e
  have hc:∀ j,j < p.length * 3→∃ u,w.cell? ⟨b,o + j,none⟩=some u∧u.oneCell'=true:=by
    intro j hj
    obtain ⟨b',o',cv,e1,h1,h2,h3,h4⟩:=hi (j / 3) _ (getD_of_lt p (j / 3) Fn.zero (by omega))
    obtain ⟨rfl,rfl⟩:b=b'∧o=o':=by simpa using e1
    have:j=j / 3 * 3∨j=j / 3 * 3 + 1∨j=j / 3 * 3 + 2:=by omega
    rcases this with e | e | e
    · exact ⟨_,by rw [e]; exact h1,rfl⟩
    · exact ⟨_,by rw [e,← Nat.add_assoc]; exact h2,rfl⟩
    · obtain ⟨oc,cc,rfl,_⟩:=id h4
      exact ⟨_,by rw [e,← Nat.add_assoc]; exact h3,rfl⟩
  have hx:∀ j,j < p.length * 3→((List.range (p.length * 3)).map fun j=>(w.cell? ⟨b,o + j,none⟩).getD (.int .i64 0))[j]?=w.cell? ⟨b,o + j,none⟩:=by
    intro j hj
    obtain ⟨u,h1,_⟩:=hc j hj
    simp [hj,h1]
  refine ⟨(List.range (p.length * 3)).map fun j=>(w.cell? ⟨b,o + j,none⟩).getD (.int .i64 0),by simp,fun j u hu=>?_,fun u hu=>?_,fun i f hf=>?_⟩
  · have hj:j < p.length * 3:=by
      have:=(List.getElem?_eq_some_iff.1 hu).1
      simpa using this
    rw [hx j hj] at hu
    simp only [Addr.add]
    split
    · rename_i h0; subst h0; simpa using hu
    · exact hu
  · obtain ⟨j,hj,rfl⟩:=List.mem_map.1 hu
    obtain ⟨u,h1,h2⟩:=hc j (by simpa using hj)
    rw [h1]
    exact h2
  · have hil:i < p.length:=(List.getElem?_eq_some_iff.1 hf).1
    obtain ⟨b',o',cv,e1,h1,h2,h3,h4⟩:=hi i f hf
    obtain ⟨rfl,rfl⟩:b=b'∧o=o':=by simpa using e1
    refine ⟨cv,?_,?_,?_,h4⟩
    · rw [hx _ (by omega)]; exact h1
    · rw [hx _ (by omega),← Nat.add_assoc]; exact h2
    · rw [hx _ (by omega),← Nat.add_assoc]; exact h3
theorem prog_of_row {w0 w:World} {base n:Nat} {v cv:Value} {xs:List Value} {p:List Fn} {g:Fn} (h:w.ownsRow base 33 3 v (n + 1) (xs++[.int .i64 g.args,.int .i64 g.locals,cv])) (hx:xs.length=n * 3) (hn:n=p.length) (hn5:n < 5) (hk:Kept w0 w) (hcv:CodeAt w cv g.code)
    (hp:∀ i f,p[i]?=some f→∃ cv,xs[i * 3]?=some (.int .i64 f.args)∧xs[i * 3 + 1]?=some (.int .i64 f.locals)∧xs[i * 3 + 2]?=some cv∧CodeAt w0 cv f.code):ProgAt w v (p++[g]):=by
  obtain ⟨hl,⟨_,h0⟩ | ⟨b,cap,cur,rfl,hb,hg,hnc,hcm,hcs,ht⟩⟩:=h
  · omega
  have hat:∀ j u,(xs++[.int .i64 g.args,.int .i64 g.locals,cv])[j]?=some u→w.cell? ⟨b,j,none⟩=some u:=by
    intro j u hu
    have hj:j < (n + 1) * 3:=by
      have:=(List.getElem?_eq_some_iff.1 hu).1
      omega
    rw [← ht,List.getElem?_take_of_lt hj] at hu
    rw [cell_lays hg]
    simpa using hu
  refine ⟨some ⟨b,0,none⟩,cap,by simp [hn],by simp; omega,fun i f hf=>?_⟩
  by_cases hi:i < p.length
  · rw [List.getElem?_append_left hi] at hf
    obtain ⟨c1,h1,h2,h3,h4⟩:=hp i f hf
    refine ⟨b,0,c1,rfl,(by rw [Nat.zero_add]; exact hat _ _ (by rw [List.getElem?_append_left (by omega)]; exact h1)),(by rw [Nat.zero_add]; exact hat _ _ (by rw [List.getElem?_append_left (by omega)]; exact h2)),(by rw [Nat.zero_add]; exact hat _ _ (by rw [List.getElem?_append_left (by omega)]; exact h3)),h4.kept hk⟩
  · obtain rfl:i=p.length:=by
      have:=(List.getElem?_eq_some_iff.1 hf).1
      simp at this
      omega
    obtain rfl:g=f:=by simpa using hf
    refine ⟨b,0,cv,rfl,?_,?_,?_,hcv⟩
    · rw [Nat.zero_add]; refine hat _ _ ?_; rw [List.getElem?_append_right (by omega),hx,hn,Nat.sub_self]; rfl
    · rw [Nat.zero_add]; refine hat _ _ ?_; rw [List.getElem?_append_right (by omega),hx,hn,show p.length * 3 + 1 - p.length * 3=1 by omega]; rfl
    · rw [Nat.zero_add]; refine hat _ _ ?_; rw [List.getElem?_append_right (by omega),hx,hn,show p.length * 3 + 2 - p.length * 3=2 by omega]; rfl
end Go.Proofs.YtogcfkmekdpmmaaDoor
