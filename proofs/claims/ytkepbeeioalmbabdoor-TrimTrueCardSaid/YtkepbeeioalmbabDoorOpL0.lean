/-
  The contracts of op.Effect and op.Check at told programs; the statements' own count, turned.
-/
import Derived.Test.YtkepbeeioalmbabDoorOpH
import Derived.Test.YtkepbeeioalmbabDoorOpB
import Derived.Test.YtkepbeeioalmbabDoorCount
namespace Go.Proofs.YtkepbeeioalmbabDoor
open Go.RowKit

theorem effect_is (p : List Fn) (v : Value) (kd a r1 r2 r3 : Int) (w : World) (hp : ProgAt w v p) (hk : KindsAt w) (h : effS p kd a = (r1, r2, r3)) :
    Calls Tryd.prog 51 #[v, .agg #[.int .i64 kd, .int .i64 a]] w fun e w' => e = .returned (.tuple #[.int .i64 r1, .int .i64 r2, .int .i64 r3]) ∧ Kept w w' := by
  have := effect_any p v kd a w hp hk
  rw [h] at this
  exact this
theorem check_is (p : List Fn) (v : Value) (f r : Int) (w : World) (hp : ProgAt w v p) (hk : KindsAt w) (h : chkS p f = r) :
    Calls Tryd.prog 27 #[v, .int .i64 f] w fun e w' => e = .returned (.int .i64 r) ∧ Kept w w' := by
  have := check_any p v f w hp hk
  rw [h] at this
  exact this

theorem nilProg (w : World) : ProgAt w (.slice none 0 0) [] := ⟨none, 0, rfl, by simp, fun i f h => by simp at h⟩

def cntX : List Fn := [⟨0, 1, (13, 2) :: cnt0.tail⟩, ⟨1, 1, cnt1⟩, ⟨2, 2, cnt2⟩]
theorem CountAt.kept {n0 : Nat} {w w' : World} {v : Value} (h : CountAt n0 w v) (k : Kept w w') : CountAt n0 w' v := by
  obtain ⟨b0, b1, b2, b, h1, h2, h3, h4, rfl, g0, g1, g2, g3⟩ := h
  exact ⟨b0, b1, b2, b, h1, h2, h3, h4, rfl, lays_kept k g0, lays_kept k g1, lays_kept k g2, lays_kept k g3⟩

/-- What the store 'x[0].Code[0].A = 2' finds and leaves. -/
theorem CountAt.opened {n0 : Nat} {w : World} {v : Value} (h : CountAt n0 w v) : ∃ b b0, n0 ≤ b0 ∧ v = .slice (some ⟨b, 0, none⟩) 3 3 ∧ w.cell? ⟨b, 2, none⟩ = some (.slice (some ⟨b0, 0, none⟩) 14 14) ∧
    w.cell? ⟨b0, 1, none⟩ = some (.int .i64 1) ∧ w.frozen? ⟨b0, 1, none⟩ = false ∧ ProgAt (w.setCell ⟨b0, 1, none⟩ (.int .i64 2)) (.slice (some ⟨b, 0, none⟩) 3 3) cntX := by
  obtain ⟨b0, b1, b2, b, h1, h2, h3, h4, rfl, g0, g1, g2, g3⟩ := h
  refine ⟨b, b0, h1, rfl, cell_lays g3 2, cell_lays g0 1, frozen_lays g0 1, ?_⟩
  refine progAt_block (lays_other g3 (by simp; omega) _) [(⟨0, 1, (13, 2) :: cnt0.tail⟩, .slice (some ⟨b0, 0, none⟩) 14 14), (⟨1, 1, cnt1⟩, .slice (some ⟨b1, 0, none⟩) 12 12), (⟨2, 2, cnt2⟩, .slice (some ⟨b2, 0, none⟩) 4 4)] rfl (by simp) ?_ 3 3 rfl cntX rfl
  intro x hx
  simp only [List.mem_cons, List.not_mem_nil, or_false] at hx
  rcases hx with rfl | rfl | rfl
  · exact codeAt_block (lays_set g0 1 _) ((13, 2) :: cnt0.tail) rfl (by decide) 14 14 rfl
  · exact codeAt_block (lays_other g1 (by simp; omega) _) cnt1 rfl (by decide) 12 12 rfl
  · exact codeAt_block (lays_other g2 (by simp; omega) _) cnt2 rfl (by decide) 4 4 rfl

end Go.Proofs.YtkepbeeioalmbabDoor
