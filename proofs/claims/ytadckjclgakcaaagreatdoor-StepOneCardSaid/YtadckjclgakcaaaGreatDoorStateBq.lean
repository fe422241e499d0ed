/-
  A state that is handed in: its fibers' slice is no longer than it may be.
-/
import Derived.Test.YtadckjclgakcaaaGreatDoorXB48
set_option maxRecDepth 100000
set_option maxHeartbeats 8000000
namespace Go.Proofs.YtadckjclgakcaaaGreatDoor
open Go.RowKit

theorem open_cap {H:Type} {enc:TypeId × Value→H} {w:World} {base:Nat} {spare:Nat→Bool} {held:Bool} {fuel:Nat} {cs:List Value} {x:DataW H × List MemPlace} (h:DataW.trod enc Tryz.prog w base spare held fuel 26 cs=some x):∃ oa n cap r,cs=.slice oa n cap :: r∧n≤cap:=by
  obtain ⟨f0,f1,f2,hu,t0,o0,t1,o1,t2,o2⟩:=typeState
  obtain ⟨y0,y1,y2,n',hy,hl,g0,g1,g2⟩:=Deep.trod_struct3 hu h
  rw [t0,o0,cellsFibers] at g0
  rw [cellsState] at hl
  match cs,hl with
  | [c0,c1,c2],_ =>
    simp only [List.drop,List.take] at g0
    rcases Deep.open_slice Tryz.underlying23 g0 with ⟨e,_⟩ | ⟨a,len,cap,m,n,D,Pl,e,_,hlc,_⟩
    · simp at e
      subst e
      exact ⟨none,0,0,_,rfl,Nat.le_refl _⟩
    · simp at e
      subst e
      exact ⟨some a,len,cap,_,rfl,hlc⟩
end Go.Proofs.YtadckjclgakcaaaGreatDoor
