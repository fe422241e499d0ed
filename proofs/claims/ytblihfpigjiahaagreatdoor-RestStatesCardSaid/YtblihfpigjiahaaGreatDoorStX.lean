/-
  A state in a box, as the laws' walks carry it.
-/
import Derived.Test.YtblihfpigjiahaaGreatDoorZB11
set_option maxRecDepth 100000
set_option maxHeartbeats 8000000
namespace Go.Proofs.YtblihfpigjiahaaGreatDoor
open Go.RowKit

abbrev stV (oa:Option Addr) (n cap:Nat) (c:Int) (oo:Option Addr) (m co:Nat):Value:=.agg #[.slice oa n cap,.int .i64 c,.slice oo m co]
abbrev stO (oa:Option Addr) (n cap:Nat) (c:Int) (oo:Option Addr) (m co:Nat):Obj:=.cells #[.slice oa n cap,.int .i64 c,.slice oo m co] 26
theorem stAt_parts {w:World} {oa oo:Option Addr} {n cap m co:Nat} {c:Int} {s:St} (h:StAt w (.agg #[.slice oa n cap,.int .i64 c,.slice oo m co]) s):c=s.now∧n=s.fibers.length∧m=s.out.length:=by
  obtain ⟨vf,vo,e,⟨oa',cap',e1,_,_⟩,⟨oo',co',e2,_,_⟩⟩:=h
  subst e1 e2
  simp only [Value.agg.injEq,Array.mk.injEq,List.cons.injEq,Value.slice.injEq,Value.int.injEq,and_true,true_and] at e
  obtain ⟨⟨_,e1,_⟩,e2,_,e3,_⟩:=e
  exact ⟨e2,e1,e3⟩
theorem stAt_shape {w:World} {v:Value} {s:St} (h:StAt w v s):∃ oa n cap c oo m co,v=.agg #[.slice oa n cap,.int .i64 c,.slice oo m co]:=by
  obtain ⟨vf,vo,rfl,⟨oa,cap,rfl,_,_⟩,⟨oo,co,rfl,_,_⟩⟩:=h
  exact ⟨_,_,_,_,_,_,_,rfl⟩
def GivesSt (f:FuncId) (args:Array Value) (u:World) (s:St) (more:List Value):Prop :=
  Calls Tryz.prog f args u fun e w'=>∃ oa n cap c oo m co,e=.returned (.tuple (#[.agg #[.slice oa n cap,.int .i64 c,.slice oo m co]]++more.toArray))∧StAt w' (.agg #[.slice oa n cap,.int .i64 c,.slice oo m co]) s∧Kept u w'
theorem box_st {w u:World} (hk:Kept w u) (c:Array Value) (t:TypeId):Kept w (u.alloc (.cells c t))∧(u.alloc (.cells c t)).heap[u.heap.size]?=some (.cells c t):=⟨hk.alloc _,Zd rfl⟩
theorem cell_new {w:World} {b:Nat} {c:Array Value} {t:TypeId} {fr:Nat × Nat} (h:w.heap[b]?=some (.cells c t fr)) (i:Nat):∀ o,(w.alloc o).cell? ⟨b,i,none⟩=c[i]?:=fun o=>Zb (Zg h o) i
def GivesInts (f:FuncId) (args:Array Value) (u:World) (l:List Int) (more:List Value):Prop :=
  Calls Tryz.prog f args u fun e w'=>∃ oa n cap,e=.returned (.tuple (#[.slice oa n cap]++more.toArray))∧n=l.length∧n≤cap∧IntsW w' (.slice oa n cap) l∧Kept u w'
theorem intsW_take {w:World} {oa:Option Addr} {n cap:Nat} {l r:List Int} (h:IntsW w (.slice oa n cap) (l++r)):IntsW w (.slice oa l.length cap) l:=by
  obtain ⟨oa',cap',e,hl,hi⟩:=h
  cases e
  refine ⟨oa,cap,rfl,by simp at hl; omega,fun i z hz=>hi i z ?_⟩
  rw [List.getElem?_append_left (List.getElem?_eq_some_iff.1 hz).1]
  exact hz
end Go.Proofs.YtblihfpigjiahaaGreatDoor
