/-
  How expressions lie in memory.
-/
import Derived.Test.YtogcfkmekdpmmaaDoorExprS
set_option maxRecDepth 100000
set_option maxHeartbeats 8000000
namespace Go.Proofs.YtogcfkmekdpmmaaDoor
open Go.RowKit

def NodesAt (w:World) (v:Value) (c:List (Int × Int)):Prop :=
  ∃ oa cap,v=.slice oa c.length cap∧(c.length≤8796093022208∧c.length≤cap)∧∀ i x,c[i]?=some x→∃ b o,oa=some ⟨b,o,none⟩ ∧
    w.cell? ⟨b,o + i * 2,none⟩=some (.int .i64 x.1)∧w.cell? ⟨b,o + i * 2 + 1,none⟩=some (.int .i64 x.2)
theorem NodesAt.kept {w w':World} (h:Kept w w') {v:Value} {c:List (Int × Int)} (hc:NodesAt w v c):NodesAt w' v c:=by
  obtain ⟨oa,cap,e,hl,hi⟩:=hc
  refine ⟨oa,cap,e,hl,fun i x hx=>?_⟩
  obtain ⟨b,o,e1,h1,h2⟩:=hi i x hx
  exact ⟨b,o,e1,h.cell h1,h.cell h2⟩
theorem NodesAt.nil (w:World):NodesAt w (.slice none 0 0) []:=⟨none,0,rfl,by simp,fun i x h=>by simp at h⟩
theorem NodesAt.first {w:World} {v:Value} {x:Int × Int} {r:List (Int × Int)} (h:NodesAt w v (x :: r)):∃ b o cap,v=.slice (some ⟨b,o,none⟩) (r.length + 1) cap∧r.length + 1≤cap∧r.length≤8796093022208 ∧
    w.cell? ⟨b,o,none⟩=some (.int .i64 x.1)∧w.cell? ⟨b,o + 1,none⟩=some (.int .i64 x.2) ∧
    (∀ cap' oa,r.length≤cap'→(r≠[]→oa=some ⟨b,o + 2,none⟩)→NodesAt w (.slice oa r.length cap') r):=by
  obtain ⟨oa,cap,rfl,⟨hl,hc⟩,hi⟩:=h
  obtain ⟨b,o,rfl,h1,h2⟩:=hi 0 x rfl
  refine ⟨b,o,cap,by simp,by simpa using hc,by simp at hl; omega,by simpa using h1,by simpa using h2,fun cap' oa' hl' hoa=>⟨_,_,rfl,⟨by simp at hl; omega,hl'⟩,fun i y hy=>?_⟩⟩
  have hne:r≠[]:=by intro e; subst e; simp at hy
  obtain ⟨b',o',e,g1,g2⟩:=hi (i + 1) y (by simpa using hy)
  obtain ⟨rfl,rfl⟩:=(by simpa using e:b=b'∧o=o')
  refine ⟨b,o + 2,hoa hne,?_,?_⟩
  · rw [← g1]; congr 2; omega
  · rw [← g2]; congr 2; omega

theorem IntsW.at {w:World} {v:Value} {l:List Int} (h:IntsW w v l) {i:Nat} (hi:i < l.length):∃ b o cap,v=.slice (some ⟨b,o,none⟩) l.length cap∧w.cell? ⟨b,o + i,none⟩=some (.int .i64 (l.getD i 0)):=by
  obtain ⟨oa,cap,rfl,_,hc⟩:=h
  obtain ⟨b,o,rfl,h1⟩:=hc i _ (getD_of_lt l i 0 hi)
  exact ⟨b,o,cap,rfl,h1⟩
end Go.Proofs.YtogcfkmekdpmmaaDoor
