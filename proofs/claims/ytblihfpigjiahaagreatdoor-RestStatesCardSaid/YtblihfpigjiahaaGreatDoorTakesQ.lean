/-
  A drawn region, taken by hand by a plan: the numbers of the operations, one behind the other.
-/
import Derived.Test.YtblihfpigjiahaaGreatDoorZB18
set_option maxRecDepth 100000
set_option maxHeartbeats 8000000
namespace Go.Proofs.YtblihfpigjiahaaGreatDoor
open Go.RowKit

variable {P:Program} {md:Region.Mode} {Q:Exit→Act→World→Prop} {S:World→Prop}

structure AnyY (plan:List Nat) (P:Program) (md:Region.Mode) (ops:Array Oper) (Q:Exit→Act→World→Prop) (S:World→Prop) (n:Nat) (listed:Array Bool) (a:Act) (w:World):Prop where
  out:wpAnyH P md ops Q S n listed a w
theorem Xa {ops:Array Oper} {n:Nat} {listed:Array Bool} {a:Act} {w:World} (plan:List Nat) (h:AnyY plan P md ops Q S n listed a w):wpAnyH P md ops Q S n listed a w:=h.out
theorem endY {ops:Array Oper} {n:Nat} {listed:Array Bool} {a:Act} {w:World} (h:wpAnyH P md ops Q S n listed a w):AnyY [] P md ops Q S n listed a w:=⟨h⟩
theorem Zz {L tl:List Oper} {i:Nat} {plan:List Nat} {oi:Oper} {v:Value} {fuel:Nat} {listed:Array Bool} {a:Act} {w:World} (hS:S w) (hy:∀ u,S u→(execOp a.eval oi).run P u=.ok (.value v) u)
    (h:AnyY plan P md L.toArray Q S fuel (listed.setIfInBounds i true) (a.put oi.dst v) w) (hd:L.drop i=oi :: tl:=by rfl) (hs:Region.noSelect L.toArray=true:=by kernel_rfl) (hf:Region.free md L.toArray listed i=true:=by kernel_rfl)
    (hr:(Region.ready md L.toArray listed).contains i=true:=by kernel_rfl) (hQ:∀ c a w,Q (.panic c) (a.put oi.dst v) w→Q (.panic c) a w:=by exact fun _ _ _ h=>h)
    (hw:Region.wanted oi (yielded L.toArray a.tmps)=true:=by rfl):AnyY (i :: plan) P md L.toArray Q S (fuel + 1) listed a w:=⟨take_yes hd hs hf hr hQ hw hy hS h.out⟩
structure AnyN (plan:List Nat) (P:Program) (md:Region.Mode) (ops:Array Oper) (Q:Exit→Act→World→Prop) (S:World→Prop) (n:Nat) (listed:Array Bool) (a:Act) (w:World):Prop where
  out:wpAnyH P md ops Q S n listed a w
theorem planN {ops:Array Oper} {n:Nat} {listed:Array Bool} {a:Act} {w:World} (plan:List Nat) (h:AnyN plan P md ops Q S n listed a w):wpAnyH P md ops Q S n listed a w:=h.out
theorem endN {ops:Array Oper} {n:Nat} {listed:Array Bool} {a:Act} {w:World} (h:wpAnyH P md ops Q S n listed a w):AnyN [] P md ops Q S n listed a w:=⟨h⟩
theorem takeN {L tl:List Oper} {i:Nat} {plan:List Nat} {oi:Oper} {fuel:Nat} {listed:Array Bool} {a:Act} {w:World} (hS:S w)
    (h:AnyN plan P md L.toArray Q S fuel (listed.setIfInBounds i true) (a.put oi.dst undef) w) (hd:L.drop i=oi :: tl:=by rfl) (hs:Region.noSelect L.toArray=true:=by kernel_rfl) (hf:Region.free md L.toArray listed i=true:=by kernel_rfl)
    (hr:(Region.ready md L.toArray listed).contains i=true:=by kernel_rfl) (hQ:∀ c a w,Q (.panic c) (a.put oi.dst undef) w→Q (.panic c) a w:=by exact fun _ _ _ h=>h)
    (hw:Region.wanted oi (yielded L.toArray a.tmps)=false:=by rfl):AnyN (i :: plan) P md L.toArray Q S (fuel + 1) listed a w:=⟨take_no hd hs hf hr hQ hw hS h.out⟩
end Go.Proofs.YtblihfpigjiahaaGreatDoor
