/-
  Programs that lie in whole blocks of their own: literals of the statements.
-/
import Derived.Test.YtkepbeeioalmbabDoorMem
namespace Go.Proofs.YtkepbeeioalmbabDoor
open Go.RowKit

def flatOps (c : List (Int × Int)) : List Value := c.flatMap fun x => [.int .i64 x.1, .int .i64 x.2]
theorem flatOps_at : ∀ (c : List (Int × Int)) (i : Nat) (x : Int × Int), c[i]? = some x → (flatOps c)[i * 2]? = some (.int .i64 x.1) ∧ (flatOps c)[i * 2 + 1]? = some (.int .i64 x.2)
  | [], i, x, h => by simp at h
  | y :: c, 0, x, h => by simp at h; subst h; simp [flatOps]
  | y :: c, i + 1, x, h => by
    have := flatOps_at c i x (by simpa using h)
    have e : flatOps (y :: c) = .int .i64 y.1 :: .int .i64 y.2 :: flatOps c := by simp [flatOps]
    rw [e, show (i + 1) * 2 = i * 2 + 1 + 1 by omega]
    simpa using this

theorem codeAt_block {w : World} {b : Nat} {A : Array Value} {t : TypeId} {fr : Nat × Nat} (h : w.heap[b]? = some (.cells A t fr)) (c : List (Int × Int)) (hA : A = (flatOps c).toArray) (hl : c.length ≤ 8796093022208) (n cap : Nat) (hn : n = c.length) :
    CodeAt w (.slice (some ⟨b, 0, none⟩) n cap) c := by
  subst hn hA
  refine ⟨_, _, rfl, hl, fun i x hx => ⟨b, 0, rfl, ?_, ?_⟩⟩
  · rw [cell_lays h]; simpa using (flatOps_at c i x hx).1
  · rw [cell_lays h]; simpa using (flatOps_at c i x hx).2

def flatFns (l : List (Fn × Value)) : List Value := l.flatMap fun x => [.int .i64 x.1.args, .int .i64 x.1.locals, x.2]
theorem flatFns_at : ∀ (l : List (Fn × Value)) (i : Nat) (x : Fn × Value), l[i]? = some x → (flatFns l)[i * 3]? = some (.int .i64 x.1.args) ∧ (flatFns l)[i * 3 + 1]? = some (.int .i64 x.1.locals) ∧ (flatFns l)[i * 3 + 2]? = some x.2
  | [], i, x, h => by simp at h
  | y :: c, 0, x, h => by simp at h; subst h; simp [flatFns]
  | y :: c, i + 1, x, h => by
    have := flatFns_at c i x (by simpa using h)
    have e : flatFns (y :: c) = .int .i64 y.1.args :: .int .i64 y.1.locals :: y.2 :: flatFns c := by simp [flatFns]
    rw [e, show (i + 1) * 3 = i * 3 + 1 + 1 + 1 by omega]
    simpa using this

theorem progAt_block {w : World} {b : Nat} {A : Array Value} {t : TypeId} {fr : Nat × Nat} (h : w.heap[b]? = some (.cells A t fr)) (l : List (Fn × Value)) (hA : A = (flatFns l).toArray) (hl : l.length ≤ 8796093022208)
    (hc : ∀ x, x ∈ l → CodeAt w x.2 x.1.code) (n cap : Nat) (hn : n = l.length) (p : List Fn) (hp : p = l.map (·.1)) : ProgAt w (.slice (some ⟨b, 0, none⟩) n cap) p := by
  subst hn hA hp
  refine ⟨_, cap, by rw [List.length_map], by simpa using hl, fun i f hf => ?_⟩
  rw [List.getElem?_map, Option.map_eq_some_iff] at hf
  obtain ⟨x, hx, rfl⟩ := hf
  obtain ⟨h1, h2, h3⟩ := flatFns_at l i x hx
  refine ⟨b, 0, x.2, rfl, ?_, ?_, ?_, hc x (List.mem_of_getElem? hx)⟩
  · rw [cell_lays h]; simpa using h1
  · rw [cell_lays h]; simpa using h2
  · rw [cell_lays h]; simpa using h3

/-- The program of the statements' own count. -/
def cnt0 : List (Int × Int) := [(13, 1), (3, 0), (2, 0), (0, 7), (14, 0), (16, 0), (2, 0), (0, 0), (14, 0), (16, 0), (2, 0), (0, 0), (14, 0), (12, 0)]
def cnt1 : List (Int × Int) := [(2, 0), (15, 0), (1, 0), (2, 0), (0, 1), (11, 2), (15, 0), (1, 0), (0, 99), (12, 0), (0, 5), (9, 9)]
def cnt2 : List (Int × Int) := [(2, 0), (2, 1), (4, 0), (12, 0)]
def cntL : List Fn := [⟨0, 1, cnt0⟩, ⟨1, 1, cnt1⟩, ⟨2, 2, cnt2⟩]

def CountAt (n0 : Nat) (w : World) (v : Value) : Prop :=
  ∃ b0 b1 b2 b, n0 ≤ b0 ∧ b0 < b1 ∧ b1 < b2 ∧ b2 < b ∧ v = .slice (some ⟨b, 0, none⟩) 3 3 ∧ w.heap[b0]? = some (.cells (flatOps cnt0).toArray 38) ∧ w.heap[b1]? = some (.cells (flatOps cnt1).toArray 38) ∧
    w.heap[b2]? = some (.cells (flatOps cnt2).toArray 38) ∧
    w.heap[b]? = some (.cells #[.int .i64 0, .int .i64 1, .slice (some ⟨b0, 0, none⟩) 14 14, .int .i64 1, .int .i64 1, .slice (some ⟨b1, 0, none⟩) 12 12, .int .i64 2, .int .i64 2, .slice (some ⟨b2, 0, none⟩) 4 4] 36)

theorem CountAt.prog {n0 : Nat} {w : World} {v : Value} (h : CountAt n0 w v) : ProgAt w v cntL := by
  obtain ⟨b0, b1, b2, b, _, _, _, _, rfl, h0, h1, h2, h3⟩ := h
  refine progAt_block h3 [(⟨0, 1, cnt0⟩, .slice (some ⟨b0, 0, none⟩) 14 14), (⟨1, 1, cnt1⟩, .slice (some ⟨b1, 0, none⟩) 12 12), (⟨2, 2, cnt2⟩, .slice (some ⟨b2, 0, none⟩) 4 4)] rfl (by simp) ?_ 3 3 rfl cntL rfl
  intro x hx
  simp only [List.mem_cons, List.not_mem_nil, or_false] at hx
  rcases hx with rfl | rfl | rfl
  · exact codeAt_block h0 cnt0 rfl (by decide) 14 14 rfl
  · exact codeAt_block h1 cnt1 rfl (by decide) 12 12 rfl
  · exact codeAt_block h2 cnt2 rfl (by decide) 4 4 rfl

end Go.Proofs.YtkepbeeioalmbabDoor
