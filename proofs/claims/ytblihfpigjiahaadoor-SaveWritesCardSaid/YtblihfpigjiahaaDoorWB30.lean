/- CloneB, CloneC, CloneD, CloneE, CloneF, CloneG -/
import Derived.Test.YtblihfpigjiahaaDoorWB29
import Derived.Test.YtblihfpigjiahaaDoorWB24
set_option maxRecDepth 100000
set_option maxHeartbeats 8000000
namespace Go.Proofs.YtblihfpigjiahaaDoor
open Go.RowKit
def Zuw (x:Fr) (w:World) (en:Ending) (w':World):Prop :=
 ∃ v1 v2,en=.returned (.agg #[.int .i64 x.fn,.int .i64 x.at_,v1,v2])∧w'.ownsRow w.heap.size 3 1 v1 x.locals.length (ints x.locals)∧w'.ownsRow w.heap.size 3 1 v2 x.stack.length (ints x.stack)∧(∀ b,v1.ownBlock=some b→v2.ownBlock≠some b)∧Zb w w'
def Zgk (s:St) (t:Nat) (A:Nat→Value × Value) (k:Nat):Value :=
 if k % 4=0 then .int .i64 (Ze s t (k / 4)).fn else if k % 4=1 then .int .i64 (Ze s t (k / 4)).at_ else if k % 4=2 then (A (k / 4)).1 else (A (k / 4)).2
def Zbs (s:St) (t:Nat) (A:Nat→Value × Value):List Value:=(List.range ((Zc s t).frames.length*4)).map (Zgk s t A)
theorem Zfh (s:St) (t:Nat) (A:Nat→Value × Value) {k:Nat} (h:k<(Zc s t).frames.length*4):(Zbs s t A)[k]?=some (Zgk s t A k):=by
 simp [Zbs,List.getElem?_range h]
theorem Zsc (s:St) (t:Nat) (A:Nat→Value × Value) {j:Nat} (h:j<(Zc s t).frames.length) :
  (Zbs s t A)[j*4]?=some (.int .i64 (Ze s t j).fn)∧(Zbs s t A)[j*4+1]?=some (.int .i64 (Ze s t j).at_)∧(Zbs s t A)[j*4+2]?=some (A j).1∧(Zbs s t A)[j*4+3]?=some (A j).2:=by
 rw [Zfh s t A (by omega),Zfh s t A (by omega),Zfh s t A (by omega),Zfh s t A (by omega)]
 unfold Zgk
 have d0:j*4 / 4=j:=by omega
 have d1:(j*4+1) / 4=j:=by omega
 have d2:(j*4+2) / 4=j:=by omega
 have d3:(j*4+3) / 4=j:=by omega
 have m0:j*4 % 4=0:=by omega
 have m1:(j*4+1) % 4=1:=by omega
 have m2:(j*4+2) % 4=2:=by omega
 have m3:(j*4+3) % 4=3:=by omega
 simp [d0,d1,d2,d3,m0,m1,m2,m3]
def Zcd (s:St) (t:Nat) (A:Nat→Value × Value) (v:Value) (w:World) (k:Nat) (w':World):Prop :=
 ∃ V:Key→Value,V (.frames t)=v∧Xx (FK t k) w.heap.size w' V s∧(∀ j,k≤j→V (.locals t j)=(A j).1∧V (.stack t j)=(A j).2)∧Zb w w'
theorem Zcd.start {s:St} {t:Nat} {A:Nat→Value × Value} {v:Value} {w w':World} (h:w'.ownsRow w.heap.size 53 4 v (Zc s t).frames.length (Zbs s t A)) (hk:Zb w w'):Zcd s t A v w 0 w':=by
 refine ⟨fun | some (some (.inr (.inl (_,j))))=>(A j).1 | some (some (.inr (.inr (_,j))))=>(A j).2 | _=>v,rfl,Xx.frames_start h (fun j hj=>Zsc s t A hj),fun j _=>⟨rfl,rfl⟩,hk⟩
theorem Zcd.next {s:St} {t g cap k:Nat} {A:Nat→Value × Value} {w w1 w2:World} {v1 v2:Value} (h:Zcd s t A (.slice (some ⟨g,0,none⟩) (Zc s t).frames.length cap) w k w1) (hk:k<(Zc s t).frames.length) (hp:Zuw (Ze s t k) w1 (.returned (.agg #[.int .i64 (Ze s t k).fn,.int .i64 (Ze s t k).at_,v1,v2])) w2) :
  Zcd s t A (.slice (some ⟨g,0,none⟩) (Zc s t).frames.length cap) w (k+1) ((((w2.setCell ⟨g,k*4,none⟩ (.int .i64 (Ze s t k).fn)).setCell ⟨g,k*4+1,none⟩ (.int .i64 (Ze s t k).at_)).setCell ⟨g,k*4+2,none⟩ v1).setCell ⟨g,k*4+3,none⟩ v2):=by
 obtain ⟨V,hV,ho,hs,hkw⟩:=h
 obtain ⟨u1,u2,e,h1,h2,ha,hk2⟩:=hp
 have e':u1=v1∧u2=v2:=by simpa using e.symm
 obtain ⟨rfl,rfl⟩:=e'
 have hg:w.heap.size≤g:=((ho.piece (.frames t) rfl).block g (by rw [hV];rfl)).1
 refine ⟨frV V t k u1 u2,by rw [Zbt V (by simp) (by simp)];exact hV,ho.frame_in hkw.size hk2 hk hV h1 h2 ha,fun j hj=>?_,?_⟩
 ·rw [Zbt V (by simp;omega) (by simp),Zbt V (by simp) (by simp;omega)]
  exact hs j (by omega)
 ·exact ((((hkw.trans hk2).setCell (p:=⟨g,k*4,none⟩) hg _).setCell (p:=⟨g,k*4+1,none⟩) hg _).setCell (p:=⟨g,k*4+2,none⟩) hg _).setCell (p:=⟨g,k*4+3,none⟩) hg _
theorem Zcd.cells {s:St} {t g cap k:Nat} {A:Nat→Value × Value} {w w1:World} (h:Zcd s t A (.slice (some ⟨g,0,none⟩) (Zc s t).frames.length cap) w k w1) (hk:k<(Zc s t).frames.length) :
  w1.cell? ⟨g,k*4,none⟩=some (.int .i64 (Ze s t k).fn)∧w1.cell? ⟨g,k*4+1,none⟩=some (.int .i64 (Ze s t k).at_)∧w1.cell? ⟨g,k*4+2,none⟩=some (A k).1∧w1.cell? ⟨g,k*4+3,none⟩=some (A k).2∧g<w1.heap.size∧∀ j,w1.frozen? ⟨g,j,none⟩=false:=by
 obtain ⟨V,hV,ho,hs,hkw⟩:=h
 obtain ⟨xs,r1,r2⟩:=ho.piece (.frames t) rfl
 obtain ⟨x0,x1,x2,x3⟩:=r2 k hk
 rw [(hs k (Nat.le_refl _)).1] at x2
 rw [(hs k (Nat.le_refl _)).2] at x3
 rw [hV] at r1
 rcases r1 with ⟨l,⟨h0,_⟩ | ⟨g',cap',cur,e',_,hg,hn,_,hcs,ht⟩⟩
 ·cases h0
 ·simp only [Value.slice.injEq,Option.some.injEq,Addr.mk.injEq] at e'
  obtain ⟨⟨rfl,_⟩,_⟩:=e'
  have hat:∀ j u,xs[j]?=some u→w1.cell? ⟨g,j,none⟩=some u:=fun j u hj=>by
   rw [Zd hg j,← Array.getElem?_toList]
   rw [← ht,List.getElem?_take] at hj
   split at hj
   ·exact hj
   ·cases hj
  exact ⟨hat _ _ x0,hat _ _ x1,hat _ _ x2,hat _ _ x3,(Array.getElem?_eq_some_iff.1 hg).1,fun j=>Zk hg j⟩
theorem Xx.low {K:Key→Prop} {base base':Nat} {w:World} {V:Key→Value} {s:St} (h:Xx K base' w V s) (hb:base≤base'):Xx K base w V s:=⟨fun k hk=>(h.piece k hk).low hb,h.apart⟩
def Zwe (s:St) (t:Nat) (w:World) (en:Ending) (w':World):Prop :=
 ∃ V,en=.returned (.agg #[V (.frames t),.int .i64 (Zc s t).caller])∧Xx (FK t (Zc s t).frames.length) w.heap.size w' V s∧Zb w w'
def Ziz (s:St) (A:Nat→Value) (k:Nat):Value:=if k % 2=0 then A (k / 2) else .int .i64 (Zc s (k / 2)).caller
def Zdi (s:St) (A:Nat→Value):List Value:=(List.range (s.fibers.length*2)).map (Ziz s A)
theorem Zkf (s:St) (A:Nat→Value) {k:Nat} (h:k<s.fibers.length*2):(Zdi s A)[k]?=some (Ziz s A k):=by
 simp [Zdi,List.getElem?_range h]
theorem Zyr (s:St) (A:Nat→Value) {j:Nat} (h:j<s.fibers.length):(Zdi s A)[j*2]?=some (A j)∧(Zdi s A)[j*2+1]?=some (.int .i64 (Zc s j).caller):=by
 rw [Zkf s A (by omega),Zkf s A (by omega)]
 unfold Ziz
 have d0:j*2 / 2=j:=by omega
 have d1:(j*2+1) / 2=j:=by omega
 have m0:j*2 % 2=0:=by omega
 have m1:(j*2+1) % 2=1:=by omega
 simp [d0,d1,m0,m1]
def Zce (s:St) (A:Nat→Value) (v:Value) (w:World) (k:Nat) (w':World):Prop :=
 ∃ V:Key→Value,V .fibers=v∧Xx (LK s k) w.heap.size w' V s∧(∀ j,k≤j→V (.frames j)=A j)∧Zb w w'
theorem Zce.start {s:St} {A:Nat→Value} {v:Value} {w w':World} (h:w'.ownsRow w.heap.size 46 2 v s.fibers.length (Zdi s A)) (hk:Zb w w'):Zce s A v w 0 w' :=
 ⟨fun | some (some (.inl i))=>A i | _=>v,rfl,Xx.fibers_start h (fun _ hj=>Zyr s A hj),fun _ _=>rfl,hk⟩
theorem Zce.next {s:St} {g cap k:Nat} {A:Nat→Value} {w w1 w2:World} {v1:Value} (h:Zce s A (.slice (some ⟨g,0,none⟩) s.fibers.length cap) w k w1) (hk:k<s.fibers.length) (hp:Zwe s k w1 (.returned (.agg #[v1,.int .i64 (Zc s k).caller])) w2) :
  Zce s A (.slice (some ⟨g,0,none⟩) s.fibers.length cap) w (k+1) ((w2.setCell ⟨g,k*2,none⟩ v1).setCell ⟨g,k*2+1,none⟩ (.int .i64 (Zc s k).caller)):=by
 obtain ⟨V,hV,ho,hs,hkw⟩:=h
 obtain ⟨V1,e,h1,hk2⟩:=hp
 obtain rfl:V1 (.frames k)=v1:=by simpa using e.symm
 have hg:w.heap.size≤g:=((ho.piece .fibers trivial).block g (by rw [hV];rfl)).1
 refine ⟨fbV V V1 k,by rw [Zca V V1 rfl];exact hV,ho.fiber_in hkw.size hk2 hk hV h1,fun j hj=>?_,?_⟩
 ·rw [Zca V V1 (t:=k) (k:=.frames j) (beq_eq_false_iff_ne.2 (by omega))]
  exact hs j (by omega)
 ·exact ((hkw.trans hk2).setCell (p:=⟨g,k*2,none⟩) hg _).setCell (p:=⟨g,k*2+1,none⟩) hg _
theorem Zce.cells {s:St} {g cap k:Nat} {A:Nat→Value} {w w1:World} (h:Zce s A (.slice (some ⟨g,0,none⟩) s.fibers.length cap) w k w1) (hk:k<s.fibers.length) :
  w1.cell? ⟨g,k*2,none⟩=some (A k)∧w1.cell? ⟨g,k*2+1,none⟩=some (.int .i64 (Zc s k).caller)∧g<w1.heap.size∧∀ j,w1.frozen? ⟨g,j,none⟩=false:=by
 obtain ⟨V,hV,ho,hs,hkw⟩:=h
 obtain ⟨xs,r1,r2⟩:=ho.piece .fibers trivial
 obtain ⟨x0,x1⟩:=r2 k hk
 rw [hs k (Nat.le_refl _)] at x0
 rw [hV] at r1
 rcases r1 with ⟨l,⟨h0,_⟩ | ⟨g',cap',cur,e',_,hg,hn,_,hcs,ht⟩⟩
 ·cases h0
 ·simp only [Value.slice.injEq,Option.some.injEq,Addr.mk.injEq] at e'
  obtain ⟨⟨rfl,_⟩,_⟩:=e'
  have hat:∀ j u,xs[j]?=some u→w1.cell? ⟨g,j,none⟩=some u:=fun j u hj=>by
   rw [Zd hg j,← Array.getElem?_toList]
   rw [← ht,List.getElem?_take] at hj
   split at hj
   ·exact hj
   ·cases hj
  exact ⟨hat _ _ x0,hat _ _ x1,(Array.getElem?_eq_some_iff.1 hg).1,fun j=>Zk hg j⟩
end Go.Proofs.YtblihfpigjiahaaDoor
