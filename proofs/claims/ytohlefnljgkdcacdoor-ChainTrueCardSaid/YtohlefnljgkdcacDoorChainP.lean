/-
  Of lines, plain: what ChainTrue asks.
-/
import Derived.Test.YtohlefnljgkdcacDoorChainB
namespace Go.Proofs.YtohlefnljgkdcacDoor
open Go.RowKit

theorem line_good (fs : List Fb) (hcal : ∀ b, b ∈ fs → -1 ≤ b.caller ∧ b.caller < fs.length) : ∀ (k : Nat) (n : Int) (acc l : List Int), lineF fs k n acc = some l → -1 ≤ n → n < fs.length → acc.Nodup → (∀ z, z ∈ acc → 0 ≤ z ∧ z < fs.length) →
    (∀ i, i + 1 < acc.length → callerOf fs (acc.getD i 0) = acc.getD (i + 1) 0) → (acc ≠ [] → callerOf fs (acc.getD (acc.length - 1) 0) = n) →
    l.Nodup ∧ (∀ z, z ∈ l → 0 ≤ z ∧ z < fs.length) ∧ (∀ i, i + 1 < l.length → callerOf fs (l.getD i 0) = l.getD (i + 1) 0) ∧ (∀ i, i < acc.length → l.getD i 0 = acc.getD i 0) ∧ acc.length ≤ l.length ∧ (0 ≤ n → acc.length < l.length ∧ l.getD acc.length 0 = n)
  | 0, _, _, _, h, _, _, _, _, _, _ => by cases h
  | k + 1, n, acc, l, h, h1, h2, hnd, hin, hch, hla => by
    by_cases hn : n < 0
    · have := lineF_out h hn
      subst this
      exact ⟨hnd, hin, hch, fun _ _ => rfl, Nat.le_refl _, fun h => by omega⟩
    · obtain ⟨hna, h'⟩ := lineF_in h (by omega)
      have hni : n.toNat < fs.length := by omega
      have hc := hcal _ (List.mem_of_getElem? (getD_of_lt fs n.toNat Fb.zero hni))
      have hg : ∀ i, i < acc.length → (acc ++ [n]).getD i 0 = acc.getD i 0 := fun i hi => by
        simp [List.getD, List.getElem?_append_left hi]
      have hg2 : (acc ++ [n]).getD acc.length 0 = n := by simp [List.getD]
      obtain ⟨q1, q2, q3, q4, q5, _⟩ := line_good fs hcal k (callerOf fs n) (acc ++ [n]) l h' hc.1 hc.2
        (by
          rw [List.nodup_append]
          refine ⟨hnd, by simp, ?_⟩
          intro a ha b hb e
          simp at hb
          subst hb e
          exact hna ha)
        (by
          intro z hz
          rcases List.mem_append.1 hz with hz | hz
          · exact hin z hz
          · simp at hz; subst hz; exact ⟨by omega, h2⟩)
        (by
          intro i hi
          simp only [List.length_append, List.length_cons, List.length_nil] at hi
          rw [hg i (by omega)]
          by_cases e : i + 1 < acc.length
          · rw [hg (i + 1) e]; exact hch i e
          · have e2 : i + 1 = acc.length := by omega
            rw [e2, hg2]
            have e3 : i = acc.length - 1 := by omega
            rw [e3]
            exact hla (fun e => by rw [e] at e2; simp at e2))
        (by
          intro _
          have : (acc ++ [n]).length - 1 = acc.length := by simp
          rw [this, hg2])
      simp only [List.length_append, List.length_cons, List.length_nil] at q4 q5
      refine ⟨q1, q2, q3, fun i hi => ?_, by omega, fun _ => ⟨by omega, ?_⟩⟩
      · rw [q4 i (by omega), hg i hi]
      · rw [q4 acc.length (by omega), hg2]

def below (l : List Int) (n : Nat) : Nat := (l.filter fun z => decide (z < (n : Int))).length
theorem below_step : ∀ (l : List Int), l.Nodup → ∀ n : Nat, below l (n + 1) = below l n + (if (n : Int) ∈ l then 1 else 0)
  | [], _, n => rfl
  | a :: l, hnd, n => by
    have ih := below_step l (List.nodup_cons.1 hnd).2 n
    have ha := (List.nodup_cons.1 hnd).1
    unfold below at ih ⊢
    by_cases e : a = (n : Int)
    · subst e
      rw [if_neg ha] at ih
      rw [if_pos (by simp)]
      rw [List.filter_cons_of_pos (by simp; omega), List.filter_cons_of_neg (by simp)]
      simp only [List.length_cons]
      omega
    · have hm : ((n : Int) ∈ a :: l) ↔ (n : Int) ∈ l := by simp [Ne.symm e]
      by_cases h1 : a < (n : Int)
      · rw [List.filter_cons_of_pos (by simp; omega), List.filter_cons_of_pos (by simp; omega)]
        simp only [List.length_cons, hm]
        omega
      · rw [List.filter_cons_of_neg (by simp; omega), List.filter_cons_of_neg (by simp; omega)]
        simp only [hm]
        exact ih
theorem below_zero {l : List Int} (h : ∀ z, z ∈ l → 0 ≤ z) : below l 0 = 0 := by
  unfold below
  rw [List.length_eq_zero_iff, List.filter_eq_nil_iff]
  intro z hz
  have := h z hz
  simp; omega
theorem below_all {l : List Int} {N : Nat} (h : ∀ z, z ∈ l → z < N) : below l N = l.length := by
  unfold below
  rw [List.filter_eq_self.2]
  intro z hz
  have := h z hz
  simp; omega
theorem below_le (l : List Int) (n : Nat) : below l n ≤ l.length := List.length_filter_le _ _

structure Line (s : St) (l : List Int) : Prop where
  nodup : l.Nodup
  inside : ∀ z, z ∈ l → 0 ≤ z ∧ z < s.fibers.length
  chain : ∀ i, i + 1 < l.length → callerOf s.fibers (l.getD i 0) = l.getD (i + 1) 0
  none : s.now < 0 → l = []
  first : 0 ≤ s.now → 0 < l.length ∧ l.getD 0 0 = s.now ∧ l.getD (l.length - 1) 0 = 0
theorem line_of {p : List Fn} {s : St} (h : stErrS p s = 0) : Line s (lineC p s) := by
  obtain ⟨hls, hlf⟩ := right_line h
  obtain ⟨_, hlim, _⟩ := right_parts h
  obtain ⟨_, _, _, _, ⟨hn1, hn2⟩, hcal⟩ := limS_zero hlim
  obtain ⟨q1, q2, q3, _, _, q6⟩ := line_good s.fibers hcal _ _ _ _ hlf hn1 hn2 List.nodup_nil (fun z hz => by cases hz) (fun i hi => by simp at hi) (fun h => absurd rfl h)
  refine ⟨q1, q2, q3, fun hn => (lineF_out hlf hn).symm, fun hn => ?_⟩
  obtain ⟨h1, h2⟩ := q6 hn
  refine ⟨h1, h2, ?_⟩
  unfold lineS at hls
  rw [hlf] at hls
  simp only at hls
  split at hls
  · rename_i hc
    rcases hc with hc | hc
    · rw [hc] at h1; simp at h1
    · rw [List.getLast?_eq_getElem?] at hc
      simp [List.getD, hc]
  · cases hls
theorem kind_in {p : List Fn} {s : St} (h : stErrS p s = 0) {k : Nat} (hk : k < s.fibers.length) :
    ((k : Int) ∈ lineC p s → kindC p s k = if (k : Int) = s.now then 1 else 2) ∧ ((k : Int) ∉ lineC p s → (k : Int) ≠ s.now ∧ (kindC p s k = 0 ∨ kindC p s k = 3 ∨ kindC p s k = 4)) := by
  obtain ⟨l, hl1, hf⟩ := right_fiber h
  have hll : l = lineC p s := Option.some.inj (hl1.symm.trans (right_line h).1)
  subst hll
  have hL := line_of h
  constructor
  · intro hin
    have hq : (fibAt s k).frames.length ≠ 0 := by
      intro h0
      have hfk := hf k hk
      unfold fiberB at hfk
      rw [List.length_eq_zero_iff.1 h0] at hfk
      simp [hin] at hfk
    unfold kindC
    rw [if_neg hq]
    split
    · rfl
    · first | rfl | rw [if_pos hin]
  · intro hin
    have hne : (k : Int) ≠ s.now := by
      intro e
      obtain ⟨h1, h2, _⟩ := hL.first (by omega)
      apply hin
      rw [e, ← h2]
      exact List.mem_of_getElem? (getD_of_lt _ 0 0 h1)
    refine ⟨hne, ?_⟩
    unfold kindC
    split
    · exact .inl rfl
    · first | rw [if_neg hne, if_neg hin] | skip
      split
      · exact .inr (.inl rfl)
      · exact .inr (.inr rfl)
end Go.Proofs.YtohlefnljgkdcacDoor
