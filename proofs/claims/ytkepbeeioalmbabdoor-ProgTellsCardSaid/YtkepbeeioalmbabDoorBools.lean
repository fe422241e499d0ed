/-
  Lists of truths in memory.
-/
import Derived.Test.YtkepbeeioalmbabDoorFlowG
import Derived.Test.YtkepbeeioalmbabDoorFlowC
import Derived.Test.YtkepbeeioalmbabDoorChecked
namespace Go.Proofs.YtkepbeeioalmbabDoor
open Go.RowKit

/-- Bools that lie in block B. -/
def BoolsIn (w : World) (B : Nat) (l : List Bool) : Prop := w.heap[B]? = some (.cells (l.map (fun z => Value.bool z)).toArray 4)
theorem BoolsIn.kept {w w' : World} {B : Nat} {l : List Bool} (h : BoolsIn w B l) (k : Kept w w') : BoolsIn w' B l := lays_kept k h
theorem BoolsIn.cell {w : World} {B : Nat} {l : List Bool} (h : BoolsIn w B l) {k : Nat} (hk : k < l.length) : w.cell? ⟨B, k, none⟩ = some (.bool (l.getD k false)) := by
  rw [cell_lays h k]; simp [hk, List.getD]
theorem BoolsIn.frozen {w : World} {B : Nat} {l : List Bool} (h : BoolsIn w B l) (k : Nat) : w.frozen? ⟨B, k, none⟩ = false := frozen_lays h k
theorem BoolsIn.set {w : World} {B : Nat} {l : List Bool} (h : BoolsIn w B l) (k : Nat) (z : Bool) : BoolsIn (w.setCell ⟨B, k, none⟩ (.bool z)) B (l.set k z) := by
  unfold BoolsIn at *
  rw [lays_set h k]
  congr 2
  simp [List.map_set]
theorem BoolsIn.lt {w : World} {B : Nat} {l : List Bool} (h : BoolsIn w B l) : B < w.heap.size := (Array.getElem?_eq_some_iff.1 h).1
theorem BoolsIn.other {w : World} {B : Nat} {l : List Bool} (h : BoolsIn w B l) {p : Addr} (hp : p.block ≠ B) (u : Value) : BoolsIn (w.setCell p u) B l := lays_other h (fun e => hp e.symm) u

/-- A slice of bools. -/
def BoolsAt (w : World) (v : Value) (l : List Bool) : Prop :=
  ∃ oa cap, v = .slice oa l.length cap ∧ l.length ≤ 8796093022208 ∧ ∀ i z, l[i]? = some z → ∃ b o, oa = some ⟨b, o, none⟩ ∧ w.cell? ⟨b, o + i, none⟩ = some (.bool z)
theorem BoolsAt.kept {w w' : World} (h : Kept w w') {v : Value} {l : List Bool} (hl : BoolsAt w v l) : BoolsAt w' v l := by
  obtain ⟨oa, cap, e, hn, hi⟩ := hl
  refine ⟨oa, cap, e, hn, fun i z hz => ?_⟩
  obtain ⟨b, o, e1, h1⟩ := hi i z hz
  exact ⟨b, o, e1, h.cell h1⟩
theorem BoolsAt.nil (w : World) : BoolsAt w (.slice none 0 0) [] := ⟨none, 0, rfl, by simp, fun i z h => by simp at h⟩
theorem BoolsIn.slice {w : World} {B : Nat} {l : List Bool} (h : BoolsIn w B l) (hl : l.length ≤ 8796093022208) {n m : Nat} (hn : n = l.length) : BoolsAt w (.slice (some ⟨B, 0, none⟩) n m) l := by
  subst hn
  refine ⟨_, _, rfl, hl, fun i z hz => ⟨B, 0, rfl, ?_⟩⟩
  have hi := (List.getElem?_eq_some_iff.1 hz).1
  rw [Nat.zero_add, h.cell hi]
  simp [List.getD, hz]

theorem bools_zero {w : World} {B m : Nat} (h : w.heap[B]? = some (.cells (Array.replicate m (.bool false)) 4)) : BoolsIn w B (List.replicate m false) := by
  unfold BoolsIn
  rw [h]
  simp

theorem infoBool : (Tryd.prog.info? 4).map (fun i => (i.zero, i.size, i.bytes)) = some (some (.bool false), 1, 1) := by kernel_rfl
theorem made_bools (m : Nat) : madeCells #[.bool false] m = ((List.replicate m false).map (fun z => Value.bool z)).toArray := by
  apply Array.ext
  · simp [madeCells]
  · intro i h1 h2
    simp [madeCells, Nat.mod_one]
theorem make_bools (m : Nat) (hm : m ≤ 1000000) (u : World) : (Instr.makeSlice 23 (.int .i64 m) (.int .i64 m)).run Tryd.prog u =
    .ok (.slice (some ⟨u.heap.size, 0, none⟩) m m) (u.alloc (.cells ((List.replicate m false).map (fun z => Value.bool z)).toArray 4)) := by
  obtain ⟨i0, hi, hz0, hz1, hz2⟩ := info_parts infoBool
  have h := run_make (P := Tryd.prog) u 23 4 i0 (.bool false) Tryd.underlying23 hi hz0 .i64 .i64 (m : Int) (m : Int) (by omega) (Int.le_refl _) (by rw [hz2]; omega) (by omega)
  rw [Int.toNat_natCast] at h
  rw [← made_bools]
  simpa [hz1, Value.cells] using h

end Go.Proofs.YtkepbeeioalmbabDoor
