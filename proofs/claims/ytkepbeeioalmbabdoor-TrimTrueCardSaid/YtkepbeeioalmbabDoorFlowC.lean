/-
  Worlds in which one block, the heights', is written.
-/
import Derived.Test.YtkepbeeioalmbabDoorFlowS
import Derived.Test.YtkepbeeioalmbabDoorBlocks
import Derived.Test.YtkepbeeioalmbabDoorHide
namespace Go.Proofs.YtkepbeeioalmbabDoor
open Go.RowKit

/-- The heights lie in block B. -/
def HeightsAt (w : World) (B : Nat) (H : List Int) : Prop := w.heap[B]? = some (.cells (H.map (fun z => Value.int .i64 z)).toArray 3)
theorem HeightsAt.kept {w w' : World} {B : Nat} {H : List Int} (h : HeightsAt w B H) (k : Kept w w') : HeightsAt w' B H := lays_kept k h
theorem HeightsAt.cell {w : World} {B : Nat} {H : List Int} (h : HeightsAt w B H) {k : Nat} (hk : k < H.length) : w.cell? ⟨B, k, none⟩ = some (.int .i64 (H.getD k 0)) := by
  rw [cell_lays h k]; simp [hk, List.getD]
theorem HeightsAt.frozen {w : World} {B : Nat} {H : List Int} (h : HeightsAt w B H) (k : Nat) : w.frozen? ⟨B, k, none⟩ = false := frozen_lays h k
theorem HeightsAt.set {w : World} {B : Nat} {H : List Int} (h : HeightsAt w B H) (k : Nat) (z : Int) : HeightsAt (w.setCell ⟨B, k, none⟩ (.int .i64 z)) B (H.set k z) := by
  unfold HeightsAt at *
  rw [lays_set h k]
  congr 2
  simp [List.map_set]
theorem HeightsAt.lt {w : World} {B : Nat} {H : List Int} (h : HeightsAt w B H) : B < w.heap.size := (Array.getElem?_eq_some_iff.1 h).1
theorem HeightsAt.other {w : World} {B : Nat} {H : List Int} (h : HeightsAt w B H) {p : Addr} (hp : p.block ≠ B) (u : Value) : HeightsAt (w.setCell p u) B H := lays_other h (fun e => hp e.symm) u

/-- All that come's contract leans on. -/
structure ComeAt (w0 w : World) (p : List Fn) (g : Fn) (vp vc : Value) (B : Nat) (H : List Int) : Prop where
  prog : ProgAt w0 vp p
  code : CodeAt w0 vc g.code
  kinds : KindsAt w0
  right : ∀ x, x ∈ g.code → opS p g x = 0
  most : g.code.length ≤ 24
  kept : Kept w0 w
  new : w0.heap.size ≤ B
  hs : HeightsAt w B H
  len : H.length = g.code.length

/-- What come hands back and leaves. -/
def ComePost (p : List Fn) (g : Fn) (n : Nat) (H : List Int) (at_ : Nat) (h : Int) (B : Nat) (w : World) (e : Ending) (w' : World) : Prop :=
  ∃ b H', comeS p g.code n H at_ h = (b, H') ∧ e = .returned (.bool b) ∧ HeightsAt w' B H' ∧ KeptX B w w'
end Go.Proofs.YtkepbeeioalmbabDoor
