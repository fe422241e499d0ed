/-
  Worlds in which one block, the heights', is written.
-/
import Derived.Test.YtlnnemmoofpgmabDoorFlowS
import Derived.Test.YtlnnemmoofpgmabDoorBlocks
import Derived.Test.YtlnnemmoofpgmabDoorHide
namespace Go.Proofs.YtlnnemmoofpgmabDoor
open Go.RowKit

/-- Nothing old has turned but block B. -/
structure KeptX (B : Nat) (w w' : World) : Prop where
  os : w'.os = w.os
  tape : w'.tape = w.tape
  output : w'.output = w.output
  size : w.heap.size ≤ w'.heap.size
  block : ∀ k, k < w.heap.size → k ≠ B → w'.heap[k]? = w.heap[k]?

theorem KeptX.of {B : Nat} {w w' : World} (h : Kept w w') : KeptX B w w' := ⟨h.os, h.tape, h.output, h.size, fun k hk _ => h.block k hk⟩
theorem KeptX.refl (B : Nat) (w : World) : KeptX B w w := .of (Kept.refl w)
theorem KeptX.trans {B : Nat} {a b c : World} (h : KeptX B a b) (k : KeptX B b c) : KeptX B a c :=
  ⟨k.os.trans h.os, k.tape.trans h.tape, k.output.trans h.output, Nat.le_trans h.size k.size, fun i hi hn => (k.block i (Nat.lt_of_lt_of_le hi h.size) hn).trans (h.block i hi hn)⟩
theorem KeptX.alloc {B : Nat} {a b : World} (h : KeptX B a b) (o : Obj) : KeptX B a (b.alloc o) := h.trans (.of ((Kept.refl _).alloc _))
theorem KeptX.drew {B : Nat} {a b : World} (h : KeptX B a b) : KeptX B a b.drew := h.trans (.of (Kept.refl _).drew)
theorem KeptX.setCell {B : Nat} {a b : World} (h : KeptX B a b) {p : Addr} (hp : p.block = B ∨ a.heap.size ≤ p.block) (u : Value) : KeptX B a (b.setCell p u) :=
  ⟨h.os, h.tape, h.output, by simpa [World.setCell] using h.size, fun k hk hn => (Below.heap_setCell _ _ _ _ (by omega)).trans (h.block k hk hn)⟩
theorem KeptX.kept {B : Nat} {w0 w w' : World} (h0 : Kept w0 w) (hB : w0.heap.size ≤ B) (h : KeptX B w w') : Kept w0 w' :=
  ⟨h.os.trans h0.os, h.tape.trans h0.tape, h.output.trans h0.output, Nat.le_trans h0.size h.size, fun k hk => (h.block k (Nat.lt_of_lt_of_le hk h0.size) (by omega)).trans (h0.block k hk)⟩
theorem KeptX.cell {B : Nat} {w w' : World} (h : KeptX B w w') {p : Addr} {v : Value} (hn : p.block ≠ B) (hc : w.cell? p = some v) : w'.cell? p = some v :=
  (World.cell?_of_block (w := w) (h.block p.block (cell_lt hc) hn)).trans hc
theorem KeptX.frozen {B : Nat} {w w' : World} (h : KeptX B w w') {p : Addr} (hp : p.block < w.heap.size) (hn : p.block ≠ B) : w'.frozen? p = w.frozen? p :=
  World.frozen?_of_block (w := w) (h.block p.block hp hn)
theorem KeptX.lays {B : Nat} {w w' : World} (h : KeptX B w w') {b : Nat} {o : Obj} (hn : b ≠ B) (hb : w.heap[b]? = some o) : w'.heap[b]? = some o :=
  (h.block b (Array.getElem?_eq_some_iff.1 hb).1 hn).trans hb

/-- The heights lie in block B. -/
def HeightsAt (w : World) (B : Nat) (H : List Int) : Prop := w.heap[B]? = some (.cells (H.map (fun z => Value.int .i64 z)).toArray 3)
theorem HeightsAt.kept {w w' : World} {B : Nat} {H : List Int} (h : HeightsAt w B H) (k : Kept w w') : HeightsAt w' B H := lays_kept k h
theorem HeightsAt.cell {w : World} {B : Nat} {H : List Int} (h : HeightsAt w B H) {k : Nat} (hk : k < H.length) : w.cell? ⟨B, k, none⟩ = some (.int .i64 (H.getD k 0)) := by
  rw [cell_lays h k]; simp [hk, List.getD]
theorem HeightsAt.frozen {w : World} {B : Nat} {H : List Int} (h : HeightsAt w B H) (k : Nat) : w.frozen? ⟨B, k, none⟩ = false := frozen_lays h k
theorem HeightsAt.set {w : World} {B : Nat} {H : List Int} (h : HeightsAt w B H) (k : Nat) (z : Int) : HeightsAt (w.setCell ⟨B, k, none⟩ (.int .i64 z)) B (H.set k z) := by
  unfold HeightsAt at *
  rw [lays_set h k]
  congr 2
  simp [List.map_set]
theorem HeightsAt.lt {w : World} {B : Nat} {H : List Int} (h : HeightsAt w B H) : B < w.heap.size := (Array.getElem?_eq_some_iff.1 h).1
theorem HeightsAt.other {w : World} {B : Nat} {H : List Int} (h : HeightsAt w B H) {p : Addr} (hp : p.block ≠ B) (u : Value) : HeightsAt (w.setCell p u) B H := lays_other h (fun e => hp e.symm) u

/-- All that come's contract leans on. -/
structure ComeAt (w0 w : World) (p : List Fn) (g : Fn) (vp vc : Value) (B : Nat) (H : List Int) : Prop where
  prog : ProgAt w0 vp p
  code : CodeAt w0 vc g.code
  kinds : KindsAt w0
  right : ∀ x, x ∈ g.code → opS p g x = 0
  most : g.code.length ≤ 24
  kept : Kept w0 w
  new : w0.heap.size ≤ B
  hs : HeightsAt w B H
  len : H.length = g.code.length

/-- What come hands back and leaves. -/
def ComePost (p : List Fn) (g : Fn) (n : Nat) (H : List Int) (at_ : Nat) (h : Int) (B : Nat) (w : World) (e : Ending) (w' : World) : Prop :=
  ∃ b H', comeS p g.code n H at_ h = (b, H') ∧ e = .returned (.bool b) ∧ HeightsAt w' B H' ∧ KeptX B w w'
end Go.Proofs.YtlnnemmoofpgmabDoor
