/- StateU, StepS, DeskN, Fib -/
import Derived.Test.YtokhibfenccijaaGreatDoorKB18
import Derived.Test.YtokhibfenccijaaGreatDoorKB03
import Derived.Test.YtokhibfenccijaaGreatDoorKB05
set_option maxRecDepth 100000
set_option maxHeartbeats 8000000
namespace Go.Proofs.YtokhibfenccijaaGreatDoor
theorem sub_len {l S : List Int} (hn : l.Nodup) (hs : ∀ x, x ∈ l → x ∈ S) : l.length ≤ S.length := by
  induction l generalizing S with
  | nil => simp
  | cons x r ih =>
    rw [List.nodup_cons] at hn
    have hx := hs x (List.mem_cons_self)
    have := ih (S := S.erase x) hn.2 (fun y hy => (List.mem_erase_of_ne (by rintro rfl; exact hn.1 hy)).2 (hs y (List.mem_cons_of_mem _ hy)))
    rw [List.length_erase_of_mem hx] at this
    have hp := List.length_pos_of_mem hx
    simp
    omega
theorem few {l : List Int} {n : Nat} (hn : l.Nodup) (hs : ∀ x, x ∈ l → 0 ≤ x ∧ x < n) : l.length ≤ n := by
  have := sub_len (S := (List.range n).map fun (k : Nat) => (k : Int)) hn (fun x hx => by
    have := hs x hx
    exact List.mem_map.2 ⟨x.toNat, by simp; omega, by omega⟩)
  simpa using this
theorem framesB_iff (p : List Fn) : ∀ l : List Fr, framesB p l = true ↔ (l.all (frameB p) = true ∧ jwaitsB p l = true)
  | [] => by simp [framesB, jwaitsB]
  | [x] => by simp [framesB, jwaitsB]
  | x :: y :: r => by
    have ih := framesB_iff p (y :: r)
    have hw : frameB p x = true → (waitB p x 11 y.fn = true ↔ jwaitB p x (11, y.fn) = true) := by
      intro hx
      simp only [frameB, Bool.and_eq_true, ixB_iff, decide_eq_true_eq] at hx
      simp only [waitB, jwaitB, Bool.and_eq_true, Bool.or_eq_true, Bool.not_eq_true', decide_eq_true_eq, decide_eq_false_iff_not, Prod.ext_iff]
      have : (¬ x.at_ = 0) ↔ 0 < x.at_ := by omega
      rw [this]
      simp
    simp only [framesB, jwaitsB, Bool.and_eq_true, ih, List.all_cons]
    constructor
    · rintro ⟨⟨h1, _, h3⟩, h4, h5⟩
      exact ⟨⟨h1, by simpa using h4⟩, (hw h1).1 h3, h5⟩
    · rintro ⟨⟨h1, h2⟩, h3, h4⟩
      refine ⟨⟨h1, ?_, (hw h1).2 h3⟩, by simpa using h2, h4⟩
      have := h2.1
      simp only [frameB, Bool.and_eq_true] at this
      exact this.1
def Marks (n : Nat) (B : List Bool) (l : List Int) : Prop := B.length = n ∧ ∀ i : Nat, i < n → B.getD i false = decide ((i : Int) ∈ l)
theorem Marks.set {n : Nat} {B : List Bool} {l : List Int} (h : Marks n B l) {z : Int} (h0 : 0 ≤ z) (_hz : z < n) : Marks n (B.set z.toNat true) (l ++ [z]) := by
  refine ⟨by simp [h.1], fun i hi => ?_⟩
  have := h.2 i hi
  by_cases e : z.toNat = i
  · subst e
    simp [List.getD, h.1, hi]
    right; omega
  · have hne : ¬ ((i : Int) = z) := by omega
    simp [List.getD, e, hne] at this ⊢
    rw [this]
theorem line_last (fs : List Fb) : ∀ (k : Nat) (n : Int) (acc acc' : List Int), 0 ≤ n → lineF fs k n acc = some acc' → ∃ z, acc'.getLast? = some z ∧ z ∉ acc
  | 0, _, _, _, _, h => by cases h
  | k + 1, n, acc, acc', h0, h => by
    unfold lineF at h
    rw [if_neg (by omega)] at h
    split at h
    · cases h
    · rename_i hna
      by_cases hc : callerOf fs n < 0
      · cases k with
        | zero => cases h
        | succ k =>
          unfold lineF at h
          rw [if_pos hc] at h
          cases h
          exact ⟨n, by simp, hna⟩
      · obtain ⟨z, h1, h2⟩ := line_last fs k _ _ _ (by omega) h
        exact ⟨z, h1, fun hm => h2 (List.mem_append_left _ hm)⟩
theorem jline_line {fs : List Fb} (hc : ∀ b, b ∈ fs → -1 ≤ b.caller ∧ b.caller < fs.length) : ∀ (k : Nat) (n : Int) (acc : List Int) (B B' : List Bool), -1 ≤ n → n < fs.length → Marks fs.length B acc → jlineF fs k n B = some B' →
    ∃ acc', lineF fs k n acc = some acc' ∧ Marks fs.length B' acc' ∧ (n = -1 → acc' = acc) ∧ (n ≠ -1 → acc'.getLast? = some 0)
  | 0, _, _, _, _, _, _, _, h => by cases h
  | k + 1, n, acc, B, B', h0, hn, hm, h => by
    unfold jlineF at h
    unfold lineF
    by_cases hz : n = -1
    · rw [if_pos hz] at h
      cases h
      rw [if_pos (by omega)]
      exact ⟨acc, rfl, hm, fun _ => rfl, fun h => absurd hz h⟩
    · rw [if_neg hz] at h
      split at h
      · cases h
      · rename_i hno
        rw [not_or] at hno
        obtain ⟨hb, hq⟩ := hno
        have hq : decide (callerOf fs n = -1) = decide (n = 0) := by
          rcases Decidable.em (decide (callerOf fs n = -1) = decide (n = 0)) with h | h
          · exact h
          · exact absurd h hq
        have hna : n ∉ acc := by
          have := hm.2 n.toNat (by omega)
          rw [show ((n.toNat : Nat) : Int) = n by omega] at this
          intro hin
          rw [this, decide_eq_true hin] at hb
          exact hb rfl
        rw [if_neg (by omega), if_neg hna]
        have hcr : -1 ≤ callerOf fs n ∧ callerOf fs n < fs.length := by
          have hx := getD_of_lt fs n.toNat Fb.zero (by omega)
          exact hc _ (List.mem_of_getElem? hx)
        obtain ⟨acc', h1, h2, h3, h4⟩ := jline_line hc k _ _ _ _ hcr.1 hcr.2 (hm.set (by omega) hn) h
        refine ⟨acc', h1, h2, fun h => absurd h hz, fun _ => ?_⟩
        by_cases hcz : callerOf fs n = -1
        · rw [h3 hcz]
          simp only [hcz, decide_true] at hq
          have : n = 0 := by simpa using hq.symm
          simp [this]
        · exact h4 hcz
theorem line_jline {fs : List Fb} (hc : ∀ b, b ∈ fs → -1 ≤ b.caller ∧ b.caller < fs.length) : ∀ (k : Nat) (n : Int) (acc acc' : List Int) (B : List Bool), -1 ≤ n → n < fs.length → Marks fs.length B acc → lineF fs k n acc = some acc' → (n ≠ -1 → acc'.getLast? = some 0) →
    ∃ B', jlineF fs k n B = some B' ∧ Marks fs.length B' acc'
  | 0, _, _, _, _, _, _, _, h, _ => by cases h
  | k + 1, n, acc, acc', B, h0, hn, hm, h, hl => by
    unfold lineF at h
    unfold jlineF
    by_cases hz : n = -1
    · rw [if_pos (by omega)] at h
      cases h
      exact ⟨B, by rw [if_pos hz], hm⟩
    · rw [if_neg (by omega)] at h
      split at h
      · cases h
      · rename_i hna
        have hcr : -1 ≤ callerOf fs n ∧ callerOf fs n < fs.length := by
          have hx := getD_of_lt fs n.toNat Fb.zero (by omega)
          exact hc _ (List.mem_of_getElem? hx)
        have hb : B.getD n.toNat false = false := by
          have := hm.2 n.toNat (by omega)
          rw [show ((n.toNat : Nat) : Int) = n by omega] at this
          rw [this, decide_eq_false hna]
        have hl0 := hl hz
        have hq : decide (callerOf fs n = -1) = decide (n = 0) := by
          rw [decide_eq_decide]
          by_cases hcz : callerOf fs n = -1
          · cases k with
            | zero => cases h
            | succ k =>
              unfold lineF at h
              rw [if_pos (by omega)] at h
              cases h
              simp at hl0
              subst hl0
              simp [hcz]
          · obtain ⟨z, h1, h2⟩ := line_last fs k _ _ _ (by omega) h
            rw [hl0] at h1
            cases h1
            simp only [List.mem_append, List.mem_singleton, not_or] at h2
            constructor
            · intro h; exact absurd h hcz
            · intro h; exact absurd h.symm h2.2
        obtain ⟨B', h1, h2⟩ := line_jline hc k _ _ _ _ hcr.1 hcr.2 (hm.set (by omega) hn) h (fun _ => hl0)
        refine ⟨B', ?_, h2⟩
        rw [if_neg hz, if_neg]
        · exact h1
        · rw [hb, hq]; simp
theorem line_mem (fs : List Fb) : ∀ (k : Nat) (n : Int) (acc acc' : List Int), lineF fs k n acc = some acc' → (∀ z, z ∈ acc → z ∈ acc') ∧ (0 ≤ n → n ∈ acc') ∧ (n < 0 → acc' = acc)
  | 0, _, _, _, h => by cases h
  | k + 1, n, acc, acc', h => by
    unfold lineF at h
    split at h
    · cases h; exact ⟨fun _ h => h, fun _ => by omega, fun _ => rfl⟩
    · split at h
      · cases h
      · have ih := line_mem fs k _ _ _ h
        exact ⟨fun z hz => ih.1 z (List.mem_append_left _ hz), fun _ => ih.1 n (by simp), fun _ => by omega⟩
theorem limS_zero {s : St} (h : limS s = 0) : s.fibers.length ≤ 5 ∧ s.out.length ≤ 30 ∧ (∀ b, b ∈ s.fibers → b.frames.length ≤ 6) ∧ 0 < s.fibers.length ∧ (-1 ≤ s.now ∧ s.now < s.fibers.length) ∧ ∀ b, b ∈ s.fibers → -1 ≤ b.caller ∧ b.caller < s.fibers.length := by
  unfold limS at h
  split at h
  · rename_i h1
    split at h
    · rename_i h2
      split at h
      · rename_i h3
        split at h
        · rename_i h4
          split at h
          · rename_i h5
            rw [inB_iff] at h4
            simp only [List.all_eq_true, inB_iff, decide_eq_true_eq] at h2 h5
            exact ⟨h1.1, h1.2, h2, h3, ⟨h4.1, by omega⟩, fun b hb => ⟨(h5 b hb).1, by have := (h5 b hb).2; omega⟩⟩
          · cases h
        · cases h
      · cases h
    · cases h
  · cases h
def Bare (p : List Fn) : Prop := ∀ (k i : Nat) (x : Int × Int), (codeOf p k)[i]? = some x → x.1 = 14 ∨ x.1 = 15 → x.2 = 0
theorem wait_jwait {p : List Fn} (hb : Bare p) {x : Fr} (hx : frameB p x = true) {kd : Int} (hk : kd = 14 ∨ kd = 15) : waitB p x kd 0 = jwaitB p x (kd, 0) := by
  rw [Bool.eq_iff_iff]
  simp only [frameB, Bool.and_eq_true, ixB_iff, decide_eq_true_eq] at hx
  simp only [waitB, jwaitB, Bool.and_eq_true, Bool.or_eq_true, Bool.not_eq_true', decide_eq_true_eq, decide_eq_false_iff_not, Prod.ext_iff]
  have h1 : (¬ x.at_ = 0) ↔ 0 < x.at_ := by omega
  have h2 : ¬ kd = 11 := by omega
  rw [h1]
  constructor
  · rintro ⟨h3, h4, _⟩
    refine ⟨h3, h4, ?_⟩
    have hlt : x.at_.toNat - 1 < (codeOf p x.fn.toNat).length := by omega
    have := hb x.fn.toNat (x.at_.toNat - 1) (opAhead p x) (by unfold opAhead; rw [getD_of_lt _ _ (0, 0) hlt]) (by rw [h4]; exact hk)
    exact this
  · rintro ⟨h3, h4, _⟩
    exact ⟨h3, h4, .inl h2⟩
theorem all_getD {α : Type} {l : List α} {P : α → Bool} {d : α} (h : l.all P = true) {k : Nat} (hk : k < l.length) : P (l.getD k d) = true := by
  rw [List.all_eq_true] at h
  exact h _ (List.mem_of_getElem? (getD_of_lt l k d hk))
theorem all_range {n : Nat} {P : Nat → Bool} : (List.range n).all P = true ↔ ∀ k, k < n → P k = true := by
  simp [List.all_eq_true]
theorem freshB_one {p : List Fn} {b : Fb} (h : freshB p b = true) : jwaitsB p b.frames = true ∧ ∃ x, b.frames = [x] := by
  unfold freshB at h
  split at h
  · rename_i x e; rw [e]; exact ⟨rfl, x, rfl⟩
  · cases h
theorem fiber_same {p : List Fn} (hb : Bare p) {s : St} {k : Nat} {on : Bool} (hrun : (k : Int) = s.now → on = true) :
    (fiberB p (s.fibers.getD k Fb.zero) on (decide ((k : Int) = s.now)) = true ∧ ¬ (k = 0 ∧ on = false ∧ (s.fibers.getD 0 Fb.zero).frames.isEmpty = false)) ↔
    ((s.fibers.getD k Fb.zero).frames.all (frameB p) = true ∧ (on || decide ((s.fibers.getD k Fb.zero).caller = -1)) = true ∧ jfiberB p s k on = true) := by
  have h0 : k = 0 → s.fibers.getD 0 Fb.zero = s.fibers.getD k Fb.zero := by rintro rfl; rfl
  by_cases hk0 : k = 0
  · rw [h0 hk0]
    generalize hbe : s.fibers.getD k Fb.zero = b at *
    unfold fiberB jfiberB
    rw [hbe]
    cases hl : b.frames.getLast? with
    | none =>
      have : b.frames = [] := by simpa using hl
      simp only [this, List.all_nil, List.isEmpty_nil]
      cases on <;> simp
    | some t =>
      have hne : b.frames.isEmpty = false := by
        cases hf : b.frames with
        | nil => rw [hf] at hl; cases hl
        | cons _ _ => rfl
      have ht : t ∈ b.frames := by
        rw [List.getLast?_eq_some_iff] at hl
        obtain ⟨ys, hy⟩ := hl
        rw [hy]; simp
      cases on with
      | false => simp [hk0, hne]
      | true =>
        simp only [Bool.and_eq_true, framesB_iff]
        by_cases hr : (k : Int) = s.now
        · simp only [hr, decide_true, if_true]
          simp [and_assoc]
        · simp only [hr, decide_false, if_false]
          simp
          constructor
          · rintro ⟨⟨h1, h2⟩, h3⟩
            have := wait_jwait hb (h1 t ht) (.inl rfl)
            exact ⟨h1, h2, by rw [← this]; exact h3⟩
          · rintro ⟨h1, h2, h3⟩
            have := wait_jwait hb (h1 t ht) (.inl rfl)
            exact ⟨⟨h1, h2⟩, by rw [this]; exact h3⟩
  · generalize hbe : s.fibers.getD k Fb.zero = b at *
    unfold fiberB jfiberB
    rw [hbe]
    cases hl : b.frames.getLast? with
    | none =>
      have : b.frames = [] := by simpa using hl
      simp only [this, List.all_nil]
      cases on <;> simp [hk0]
    | some t =>
      have ht : t ∈ b.frames := by
        rw [List.getLast?_eq_some_iff] at hl
        obtain ⟨ys, hy⟩ := hl
        rw [hy]; simp
      simp only [Bool.and_eq_true, framesB_iff]
      cases on with
      | true =>
        by_cases hr : (k : Int) = s.now
        · simp only [hr, decide_true, if_true]
          simp [hk0, and_assoc]
        · simp only [hr, decide_false, if_false]
          simp [hk0]
          constructor
          · rintro ⟨⟨h1, h2⟩, h3⟩
            have := wait_jwait hb (h1 t ht) (.inl rfl)
            exact ⟨h1, h2, by rw [← this]; exact h3⟩
          · rintro ⟨h1, h2, h3⟩
            have := wait_jwait hb (h1 t ht) (.inl rfl)
            exact ⟨⟨h1, h2⟩, by rw [this]; exact h3⟩
      | false =>
        have hr : ¬ (k : Int) = s.now := fun h => by have := hrun h; cases this
        simp only [hr, decide_false, if_false]
        simp [hk0]
        constructor
        · rintro ⟨⟨h1, h2⟩, h3, h4⟩
          have := wait_jwait hb (h1 t ht) (.inr rfl)
          refine ⟨h1, h3, ?_⟩
          rcases h4 with h4 | h4
          · exact .inl h4
          · exact .inr ⟨h2, by rw [← this]; exact h4⟩
        · rintro ⟨h1, h3, h4⟩
          have := wait_jwait hb (h1 t ht) (.inr rfl)
          rcases h4 with h4 | h4
          · exact ⟨⟨h1, (freshB_one h4).1⟩, h3, .inl h4⟩
          · exact ⟨⟨h1, h4.1⟩, h3, .inr (by rw [this]; exact h4.2)⟩
theorem form_same {p : List Fn} (hb : Bare p) {s : St} (hlim : limS s = 0) : formJ p s = formR p s := by
  obtain ⟨hf5, ho, hfr, hpos, hnow, hcal⟩ := limS_zero hlim
  have hm0 : Marks s.fibers.length (List.replicate s.fibers.length false) [] := ⟨by simp, fun i hi => by simp [List.getD, hi]⟩
  rw [Bool.eq_iff_iff]
  constructor
  · intro h
    simp only [formJ, Bool.and_eq_true] at h
    obtain ⟨hall, h⟩ := h
    unfold jlineS at h
    cases hj : jlineF s.fibers (s.fibers.length + 1) s.now (List.replicate s.fibers.length false) with
    | none => rw [hj] at h; cases h
    | some B =>
      rw [hj] at h
      simp only at h
      by_cases hcl : ((List.range s.fibers.length).all fun k => B.getD k false || decide ((s.fibers.getD k Fb.zero).caller = -1)) = true
      · rw [if_pos hcl] at h
        simp only at h
        obtain ⟨l, h1, h2, h3, h4⟩ := jline_line hcal _ _ _ _ _ hnow.1 hnow.2 hm0 hj
        have hmem := line_mem _ _ _ _ _ h1
        have hls : lineS s = some l := by
          unfold lineS
          rw [h1]
          simp only
          rw [if_pos]
          by_cases hz : s.now = -1
          · exact .inl (h3 hz)
          · exact .inr (h4 hz)
        have hk : ∀ k, k < s.fibers.length → (fiberB p (s.fibers.getD k Fb.zero) (decide ((k : Int) ∈ l)) (decide ((k : Int) = s.now)) = true ∧ ¬ (k = 0 ∧ decide ((k : Int) ∈ l) = false ∧ (s.fibers.getD 0 Fb.zero).frames.isEmpty = false)) := by
          intro k hk
          rw [all_range] at h hcl
          have e := h2.2 k hk
          have := h k hk
          have hc := hcl k hk
          rw [e] at this hc
          exact (fiber_same hb (fun hn => decide_eq_true (by rw [hn]; exact hmem.2.1 (by omega)))).2 ⟨all_getD hall hk, hc, this⟩
        unfold formR
        rw [hls]
        simp only [Bool.and_eq_true]
        refine ⟨?_, all_range.2 fun k hk' => ?_⟩
        · have := (hk 0 hpos).2
          by_cases hz : s.now = -1
          · have : l = [] := h3 hz
            subst this
            simp at this ⊢
            exact .inr this
          · simp [hz]
        · obtain ⟨h5, h6⟩ := hk k hk'
          rw [Bool.and_eq_true]
          refine ⟨h5, ?_⟩
          by_cases hk0 : k = 0
          · subst hk0
            simp at h6 ⊢
            by_cases h7 : (0 : Int) ∈ l
            · exact .inl h7
            · exact .inr (h6 h7)
          · simp [hk0]
      · rw [if_neg hcl] at h; cases h
  · intro h
    unfold formR at h
    cases hls : lineS s with
    | none => rw [hls] at h; cases h
    | some l =>
      rw [hls] at h
      simp only [Bool.and_eq_true] at h
      obtain ⟨_, h⟩ := h
      unfold lineS at hls
      cases hl : lineF s.fibers (s.fibers.length + 1) s.now [] with
      | none => rw [hl] at hls; cases hls
      | some l' =>
        rw [hl] at hls
        simp only at hls
        split at hls
        · rename_i hlast
          cases hls
          have hmem := line_mem _ _ _ _ _ hl
          obtain ⟨B, h1, h2⟩ := line_jline hcal _ _ _ _ _ hnow.1 hnow.2 hm0 hl (fun hz => by
            rcases hlast with rfl | h
            · have := hmem.2.1 (by omega); simp at this
            · exact h)
          have hk : ∀ k, k < s.fibers.length → ((s.fibers.getD k Fb.zero).frames.all (frameB p) = true ∧ (decide ((k : Int) ∈ l) || decide ((s.fibers.getD k Fb.zero).caller = -1)) = true ∧ jfiberB p s k (decide ((k : Int) ∈ l)) = true) := by
            intro k hk
            have := all_range.1 h k hk
            rw [Bool.and_eq_true] at this
            refine (fiber_same hb (fun hn => decide_eq_true (by rw [hn]; exact hmem.2.1 (by omega)))).1 ⟨this.1, ?_⟩
            rintro ⟨rfl, h5, h6⟩
            have h7 := this.2
            have h8 : (0 : Int) ∉ l := by simpa using h5
            rw [h6] at h7
            simp [h8] at h7
          unfold formJ
          rw [Bool.and_eq_true]
          refine ⟨?_, ?_⟩
          · rw [List.all_eq_true]
            intro b hbm
            obtain ⟨i, hi, rfl⟩ := List.getElem_of_mem hbm
            have := (hk i hi).1
            simpa [List.getD, hi] using this
          · unfold jlineS
            rw [h1]
            simp only
            rw [if_pos]
            · simp only
              exact all_range.2 fun k hk' => by rw [h2.2 k hk']; exact (hk k hk').2.2
            · exact all_range.2 fun k hk' => by rw [h2.2 k hk']; exact (hk k hk').2.1
        · cases hls
theorem judge_same {p : List Fn} (hb : Bare p) (s : St) : judgeS p s = if limS s = 0 then (if formR p s = true then 0 else 1) else limS s := by
  unfold judgeS
  by_cases h : limS s = 0
  · rw [if_pos h, if_pos h, form_same hb h]
  · rw [if_neg h, if_neg h]
def Fb.top (b : Fb) : Fr := b.frames.getLast?.getD Fr.zero
def St.fib (s : St) (n : Int) : Fb := s.fibers.getD n.toNat Fb.zero
def St.turn (s : St) (n : Int) (g : Fb → Fb) : St := { s with fibers := s.fibers.set n.toNat (g (s.fib n)) }
def Fb.turnTop (b : Fb) (g : Fr → Fr) : Fb := { b with frames := b.frames.set (b.frames.length - 1) (g b.top) }
def St.top (s : St) : Fr := (s.fib s.now).top
def St.turnTop (s : St) (n : Int) (g : Fr → Fr) : St := s.turn n fun b => b.turnTop g
def pushV (s : St) (n v : Int) : St := s.turnTop n fun f => { f with stack := f.stack ++ [v] }
def lastV (s : St) : Int := s.top.stack.getLast?.getD 0
def pullV (s : St) : St := s.turnTop s.now fun f => { f with stack := f.stack.dropLast }
def setAt (s : St) (a : Int) : St := s.turnTop s.now fun f => { f with at_ := a }
def putS (s : St) (v : Int) : St × Int := if s.out.length = 30 then (St.zero, 2) else ({ s with out := s.out ++ [v] }, 0)
def begunS (p : List Fn) (f : Int) (vals : List Int) : Fr := ⟨f, 0, vals ++ List.replicate ((p.getD f.toNat Fn.zero).locals.toNat - vals.length) 0, []⟩
def givenS (s : St) : St × Int :=
  let v := lastV s
  let s1 : St := (pullV s).turn s.now fun b => { b with frames := b.frames.dropLast }
  if (s1.fib s.now).frames = [] then
    if (s1.fib s.now).caller < 0 then putS { s1 with now := -1 } v
    else (pushV { (s1.turn s.now fun b => { b with caller := -1 }) with now := (s1.fib s.now).caller } (s1.fib s.now).caller v, 0)
  else (pushV s1 s.now v, 0)
def resumedS (s : St) : St × Int :=
  let v := lastV s
  let n := lastV (pullV s)
  let s1 := pullV (pullV s)
  if ixB n s1.fibers.length = true then
    if n ∈ (lineF s1.fibers (s1.fibers.length + 1) s1.now []).getD [] ∨ (s1.fib n).frames = [] then (St.zero, 6)
    else
      let s2 : St := { (s1.turn n fun b => { b with caller := s1.now }) with now := n }
      if s2.top.at_ = 0 then (s2.turnTop n fun f => { f with locals := f.locals.set 0 v }, 0) else (pushV s2 n v, 0)
  else (St.zero, 5)
def calledS (p : List Fn) (s : St) (f : Int) : St × Int :=
  let k := (p.getD f.toNat Fn.zero).args.toNat
  let vals := s.top.stack.drop (s.top.stack.length - k)
  let s1 := s.turnTop s.now fun x => { x with stack := x.stack.take (x.stack.length - k) }
  if (s1.fib s.now).frames.length = 6 then (St.zero, 2)
  else (s1.turn s.now fun b => { b with frames := b.frames ++ [begunS p f vals] }, 0)
def yieldedS (s : St) : St × Int :=
  let v := lastV s
  let s1 := pullV s
  if (s1.fib s.now).caller < 0 then (St.zero, 7)
  else (pushV { (s1.turn s.now fun b => { b with caller := -1 }) with now := (s1.fib s.now).caller } (s1.fib s.now).caller v, 0)
def wrapS (z : Int) : Int := Int.bmod z (2 ^ 64)
def truthS (b : Bool) : Int := if b = true then 1 else 0
def reckonS (kd a b : Int) : Int :=
  if kd = 4 then wrapS (a + b) else if kd = 5 then wrapS (a - b) else if kd = 6 then wrapS (a * b) else if kd = 7 then truthS (decide (a < b)) else truthS (decide (a = b))
def madeS (p : List Fn) (s : St) (f : Int) : St × Int :=
  if s.fibers.length = 5 then (St.zero, 2)
  else ({ pushV s s.now s.fibers.length with fibers := (pushV s s.now s.fibers.length).fibers ++ [⟨[begunS p f []], -1⟩] }, 0)
def doneS (p : List Fn) (s0 : St) : St × Int :=
  let x := (codeOf p s0.top.fn.toNat).getD s0.top.at_.toNat (0, 0)
  let s := setAt s0 (s0.top.at_ + 1)
  if x.1 = 0 then (pushV s s.now x.2, 0)
  else if x.1 = 1 then (pullV s, 0)
  else if x.1 = 2 then (pushV s s.now (s.top.locals.getD x.2.toNat 0), 0)
  else if x.1 = 3 then ((pullV s).turnTop s.now fun f => { f with locals := f.locals.set x.2.toNat (lastV s) }, 0)
  else if x.1 = 9 then (setAt s x.2, 0)
  else if x.1 = 10 then (if lastV s = 0 then setAt (pullV s) x.2 else pullV s, 0)
  else if x.1 = 11 then calledS p s x.2
  else if x.1 = 12 then givenS s
  else if x.1 = 13 then madeS p s x.2
  else if x.1 = 14 then resumedS s
  else if x.1 = 15 then yieldedS s
  else if x.1 = 16 then putS (pullV s) (lastV s)
  else (pushV (pullV (pullV s)) s.now (reckonS x.1 (lastV (pullV s)) (lastV s)), 0)
def oneS (p : List Fn) (s : St) : St × Int := if s.now < 0 then (St.zero, 8) else doneS p s
def runS (p : List Fn) : Nat → St → St × Nat × Int
  | 0, s => (s, 0, 0)
  | k + 1, s => if s.now < 0 then (s, 0, 0) else if (oneS p s).2 = 0 then ((runS p k (oneS p s).1).1, (runS p k (oneS p s).1).2.1 + 1, (runS p k (oneS p s).1).2.2) else (s, 0, (oneS p s).2)
def beginS (p : List Fn) : St := ⟨[⟨[⟨0, 0, List.replicate (p.getD 0 Fn.zero).locals.toNat 0, []⟩], -1⟩], 0, []⟩
def AllI (l : List Int) : Prop := ∀ z ∈ l, I64 z
def FrI (f : Fr) : Prop := AllI f.locals ∧ AllI f.stack
def FbI (b : Fb) : Prop := ∀ f ∈ b.frames, FrI f
structure NumI (s : St) : Prop where
  fb : ∀ b ∈ s.fibers, FbI b
  out : AllI s.out
  len : s.fibers.length ≤ 5
theorem AllI.nil : AllI [] := fun _ h => by cases h
theorem AllI.app {a b : List Int} (ha : AllI a) (hb : AllI b) : AllI (a ++ b) := fun z h => by
  rcases List.mem_append.1 h with h | h
  · exact ha z h
  · exact hb z h
theorem AllI.one {z : Int} (h : I64 z) : AllI [z] := fun x hx => by obtain rfl := List.mem_singleton.1 hx; exact h
theorem AllI.sub {a b : List Int} (ha : AllI a) (h : ∀ z ∈ b, z ∈ a) : AllI b := fun z hz => ha z (h z hz)
theorem I64.zero : I64 0 := by unfold I64; omega
theorem AllI.last {a : List Int} (ha : AllI a) : I64 (a.getLast?.getD 0) := by
  cases h : a.getLast? with
  | none => exact I64.zero
  | some z => exact ha z (List.mem_of_getLast? h)
theorem AllI.getD {a : List Int} (ha : AllI a) (i : Nat) : I64 (a.getD i 0) := by
  rw [List.getD_eq_getElem?_getD]
  cases h : a[i]? with
  | none => exact I64.zero
  | some z => exact ha z (List.mem_of_getElem? h)
theorem AllI.set {a : List Int} (ha : AllI a) (i : Nat) {z : Int} (hz : I64 z) : AllI (a.set i z) := fun x hx => by
  rcases List.mem_or_eq_of_mem_set hx with h | rfl
  · exact ha x h
  · exact hz
theorem AllI.rep (n : Nat) : AllI (List.replicate n 0) := fun z hz => by rw [List.eq_of_mem_replicate hz]; exact I64.zero
theorem FrI.zero : FrI Fr.zero := ⟨AllI.nil, AllI.nil⟩
theorem FbI.top {b : Fb} (h : FbI b) : FrI b.top := by
  unfold Fb.top
  cases hq : b.frames.getLast? with
  | none => exact FrI.zero
  | some f => exact h f (List.mem_of_getLast? hq)
theorem NumI.fib {s : St} (h : NumI s) (n : Int) : FbI (s.fib n) := by
  unfold St.fib
  rw [List.getD_eq_getElem?_getD]
  cases hq : s.fibers[n.toNat]? with
  | none => exact fun f hf => by cases hf
  | some b => exact h.fb b (List.mem_of_getElem? hq)
theorem NumI.top {s : St} (h : NumI s) : FrI s.top := (h.fib _).top
theorem NumI.turn {s : St} (h : NumI s) (n : Int) {g : Fb → Fb} (hg : FbI (g (s.fib n))) : NumI (s.turn n g) := by
  refine ⟨fun b hb => ?_, h.out, by simpa [St.turn] using h.len⟩
  rcases List.mem_or_eq_of_mem_set hb with hb | rfl
  · exact h.fb b hb
  · exact hg
theorem FbI.turnTop {b : Fb} (h : FbI b) {g : Fr → Fr} (hg : FrI (g b.top)) : FbI (b.turnTop g) := fun f hf => by
  rcases List.mem_or_eq_of_mem_set hf with hf | rfl
  · exact h f hf
  · exact hg
theorem NumI.turnTop {s : St} (h : NumI s) (n : Int) {g : Fr → Fr} (hg : FrI (g (s.fib n).top)) : NumI (s.turnTop n g) := h.turn n ((h.fib n).turnTop hg)
theorem NumI.push {s : St} (h : NumI s) (n : Int) {v : Int} (hv : I64 v) : NumI (pushV s n v) := h.turnTop n ⟨(h.fib n).top.1, (h.fib n).top.2.app (AllI.one hv)⟩
theorem NumI.last {s : St} (h : NumI s) : I64 (lastV s) := h.top.2.last
theorem NumI.pull {s : St} (h : NumI s) : NumI (pullV s) := h.turnTop _ ⟨(h.fib _).top.1, (h.fib _).top.2.sub fun _ hz => (List.dropLast_sublist _).subset hz⟩
theorem NumI.setAt {s : St} (h : NumI s) (a : Int) : NumI (setAt s a) := h.turnTop _ ⟨(h.fib _).top.1, (h.fib _).top.2⟩
theorem NumI.now {s : St} (h : NumI s) (n : Int) : NumI { s with now := n } := ⟨h.fb, h.out, h.len⟩
theorem NumI.zero : NumI St.zero := ⟨(fun b hb => by cases hb), AllI.nil, Nat.zero_le _⟩
theorem NumI.put {s : St} (h : NumI s) {v : Int} (hv : I64 v) : NumI (putS s v).1 := by
  unfold putS
  split
  · exact NumI.zero
  · exact ⟨h.fb, h.out.app (AllI.one hv), h.len⟩
theorem FrI.begun (p : List Fn) (f : Int) {vals : List Int} (h : AllI vals) : FrI (begunS p f vals) := ⟨h.app (AllI.rep _), AllI.nil⟩
theorem FbI.caller {b : Fb} (h : FbI b) (c : Int) : FbI { b with caller := c } := h
theorem NumI.given {s : St} (h : NumI s) : NumI (givenS s).1 := by
  have h1 : NumI ((pullV s).turn s.now fun b => { b with frames := b.frames.dropLast }) := h.pull.turn _ (fun f hf => h.pull.fib _ f ((List.dropLast_sublist _).subset hf))
  unfold givenS
  simp only
  split
  · split
    · exact (h1.now _).put h.last
    · exact NumI.push ((h1.turn _ ((h1.fib _).caller _)).now _) _ h.last
  · exact h1.push _ h.last
theorem NumI.resumed {s : St} (h : NumI s) : NumI (resumedS s).1 := by
  unfold resumedS
  simp only
  split
  · split
    · exact NumI.zero
    · have h2 := (h.pull.pull.turn (lastV (pullV s)) (g := fun b => { b with caller := (pullV (pullV s)).now }) ((h.pull.pull.fib _).caller _)).now (lastV (pullV s))
      split
      · exact h2.turnTop _ ⟨(h2.fib _).top.1.set _ h.last, (h2.fib _).top.2⟩
      · exact h2.push _ h.last
  · exact NumI.zero
theorem NumI.called {s : St} (h : NumI s) (p : List Fn) (f : Int) : NumI (calledS p s f).1 := by
  unfold calledS
  simp only
  have h1 := h.turnTop s.now (g := fun x => { x with stack := x.stack.take (x.stack.length - (p.getD f.toNat Fn.zero).args.toNat) }) ⟨(h.fib _).top.1, (h.fib _).top.2.sub fun _ hz => List.mem_of_mem_take hz⟩
  split
  · exact NumI.zero
  · dsimp only
    refine h1.turn _ (fun x hx => ?_)
    rcases List.mem_append.1 hx with hx | hx
    · exact h1.fib _ x hx
    · obtain rfl := List.mem_singleton.1 hx
      exact FrI.begun p f (h.top.2.sub fun _ hz => List.mem_of_mem_drop hz)
theorem NumI.yielded {s : St} (h : NumI s) : NumI (yieldedS s).1 := by
  unfold yieldedS
  simp only
  split
  · exact NumI.zero
  · exact NumI.push ((h.pull.turn _ ((h.pull.fib _).caller _)).now _) _ h.last
theorem NumI.made {s : St} (h : NumI s) (p : List Fn) (f : Int) : NumI (madeS p s f).1 := by
  unfold madeS
  split
  · exact NumI.zero
  · rename_i h5
    have hl := h.len
    have h1 := h.push s.now (v := (s.fibers.length : Int)) (by unfold I64; omega)
    refine ⟨fun b hb => ?_, h1.out, ?_⟩
    · rcases List.mem_append.1 hb with hb | hb
      · exact h1.fb b hb
      · obtain rfl := List.mem_singleton.1 hb
        exact fun x hx => by obtain rfl := List.mem_singleton.1 hx; exact FrI.begun p f AllI.nil
    · simp [pushV, St.turnTop, St.turn]
      omega
theorem I64.wrap (z : Int) : I64 (wrapS z) := by
  unfold wrapS I64
  have h1 := Int.le_bmod (x := z) (m := 2 ^ 64) (by decide)
  have h2 := Int.bmod_lt (x := z) (m := 2 ^ 64) (by decide)
  omega
theorem I64.reckon (k a b : Int) : I64 (reckonS k a b) := by
  unfold reckonS truthS
  split
  · exact I64.wrap _
  · split
    · exact I64.wrap _
    · split
      · exact I64.wrap _
      · split <;> split <;> (unfold I64; omega)
def doneX (p : List Fn) (x : Int × Int) (s : St) : St × Int :=
  if x.1 = 0 then (pushV s s.now x.2, 0)
  else if x.1 = 1 then (pullV s, 0)
  else if x.1 = 2 then (pushV s s.now (s.top.locals.getD x.2.toNat 0), 0)
  else if x.1 = 3 then ((pullV s).turnTop s.now fun f => { f with locals := f.locals.set x.2.toNat (lastV s) }, 0)
  else if x.1 = 9 then (setAt s x.2, 0)
  else if x.1 = 10 then (if lastV s = 0 then setAt (pullV s) x.2 else pullV s, 0)
  else if x.1 = 11 then calledS p s x.2
  else if x.1 = 12 then givenS s
  else if x.1 = 13 then madeS p s x.2
  else if x.1 = 14 then resumedS s
  else if x.1 = 15 then yieldedS s
  else if x.1 = 16 then putS (pullV s) (lastV s)
  else (pushV (pullV (pullV s)) s.now (reckonS x.1 (lastV (pullV s)) (lastV s)), 0)
theorem doneS_is (p : List Fn) (s : St) : doneS p s = doneX p ((codeOf p s.top.fn.toNat).getD s.top.at_.toNat (0, 0)) (setAt s (s.top.at_ + 1)) := rfl
theorem NumI.done {p : List Fn} (ho : OkT p) {s : St} (h0 : NumI s) : NumI (doneS p s).1 := by
  have hx : I64 ((codeOf p s.top.fn.toNat).getD s.top.at_.toNat (0, 0)).2 := by
    rw [List.getD_eq_getElem?_getD]
    cases hq : (codeOf p s.top.fn.toNat)[s.top.at_.toNat]? with
    | none => exact I64.zero
    | some y =>
      unfold codeOf at hq
      rw [List.getD_eq_getElem?_getD] at hq
      cases hp : p[s.top.fn.toNat]? with
      | none => rw [hp] at hq; simp [Fn.zero] at hq
      | some f =>
        rw [hp] at hq
        have := (ho.fn f (List.mem_of_getElem? hp)).2.2.2 y (List.mem_of_getElem? hq)
        simp only [Option.getD_some]
        unfold I64
        omega
  have h := h0.setAt (s.top.at_ + 1)
  rw [doneS_is]
  generalize (codeOf p s.top.fn.toNat).getD s.top.at_.toNat (0, 0) = x at *
  generalize Go.Proofs.YtokhibfenccijaaGreatDoor.setAt s (s.top.at_ + 1) = s' at *
  unfold doneX
  by_cases c0 : x.1 = 0
  · rw [if_pos c0]
    exact h.push _ hx
  rw [if_neg c0]
  by_cases c1 : x.1 = 1
  · rw [if_pos c1]
    exact h.pull
  rw [if_neg c1]
  by_cases c2 : x.1 = 2
  · rw [if_pos c2]
    exact h.push _ (h.top.1.getD _)
  rw [if_neg c2]
  by_cases c3 : x.1 = 3
  · rw [if_pos c3]
    exact h.pull.turnTop _ ⟨(h.pull.fib _).top.1.set _ h.last, (h.pull.fib _).top.2⟩
  rw [if_neg c3]
  by_cases c9 : x.1 = 9
  · rw [if_pos c9]
    exact h.setAt _
  rw [if_neg c9]
  by_cases c10 : x.1 = 10
  · rw [if_pos c10]
    by_cases hl : lastV s' = 0
    · rw [if_pos hl]; exact h.pull.setAt _
    · rw [if_neg hl]; exact h.pull
  rw [if_neg c10]
  by_cases c11 : x.1 = 11
  · rw [if_pos c11]
    exact h.called p _
  rw [if_neg c11]
  by_cases c12 : x.1 = 12
  · rw [if_pos c12]
    exact h.given
  rw [if_neg c12]
  by_cases c13 : x.1 = 13
  · rw [if_pos c13]
    exact h.made p _
  rw [if_neg c13]
  by_cases c14 : x.1 = 14
  · rw [if_pos c14]
    exact h.resumed
  rw [if_neg c14]
  by_cases c15 : x.1 = 15
  · rw [if_pos c15]
    exact h.yielded
  rw [if_neg c15]
  by_cases c16 : x.1 = 16
  · rw [if_pos c16]
    exact h.pull.put h.last
  rw [if_neg c16]
  exact h.pull.pull.push _ (I64.reckon _ _ _)
theorem NumI.one {p : List Fn} (ho : OkT p) {s : St} (h : NumI s) : NumI (oneS p s).1 := by
  unfold oneS
  split
  · exact NumI.zero
  · exact h.done ho
theorem NumI.run {p : List Fn} (ho : OkT p) : ∀ (k : Nat) {s : St}, NumI s → NumI (runS p k s).1
  | 0, s, h => h
  | k + 1, s, h => by
    unfold runS
    split
    · exact h
    · split
      · exact NumI.run ho k (h.one ho)
      · exact h
theorem NumI.begin (p : List Fn) : NumI (beginS p) := ⟨fun b hb => by
  obtain rfl := List.mem_singleton.1 hb
  exact fun f hf => by obtain rfl := List.mem_singleton.1 hf; exact ⟨AllI.rep _, AllI.nil⟩, AllI.nil, by simp [beginS]⟩
def ErrN (e : Int) : Prop := e = 0 ∨ e = 2 ∨ e = 5 ∨ e = 6 ∨ e = 7 ∨ e = 8
theorem putN_err (s : St) (v : Int) : ErrN (putS s v).2 := by unfold putS ErrN; split <;> simp
theorem oneN_err (p : List Fn) (s : St) : ErrN (oneS p s).2 := by
  unfold oneS
  by_cases hn : s.now < 0
  · rw [if_pos hn]; simp [ErrN]
  rw [if_neg hn, doneS_is]
  generalize (codeOf p s.top.fn.toNat).getD s.top.at_.toNat (0, 0) = x
  generalize setAt s (s.top.at_ + 1) = s'
  unfold doneX
  by_cases c0 : x.1 = 0
  · rw [if_pos c0]
    simp [ErrN]
  rw [if_neg c0]
  by_cases c1 : x.1 = 1
  · rw [if_pos c1]
    simp [ErrN]
  rw [if_neg c1]
  by_cases c2 : x.1 = 2
  · rw [if_pos c2]
    simp [ErrN]
  rw [if_neg c2]
  by_cases c3 : x.1 = 3
  · rw [if_pos c3]
    simp [ErrN]
  rw [if_neg c3]
  by_cases c9 : x.1 = 9
  · rw [if_pos c9]
    simp [ErrN]
  rw [if_neg c9]
  by_cases c10 : x.1 = 10
  · rw [if_pos c10]
    simp [ErrN]
  rw [if_neg c10]
  by_cases c11 : x.1 = 11
  · rw [if_pos c11]
    unfold calledS ErrN; simp only; split <;> simp
  rw [if_neg c11]
  by_cases c12 : x.1 = 12
  · rw [if_pos c12]
    unfold givenS; simp only; split
    · split
      · exact putN_err _ _
      · simp [ErrN]
    · simp [ErrN]
  rw [if_neg c12]
  by_cases c13 : x.1 = 13
  · rw [if_pos c13]
    unfold madeS ErrN; split <;> simp
  rw [if_neg c13]
  by_cases c14 : x.1 = 14
  · rw [if_pos c14]
    unfold resumedS ErrN; simp only; split
    · split
      · simp
      · split <;> simp
    · simp
  rw [if_neg c14]
  by_cases c15 : x.1 = 15
  · rw [if_pos c15]
    unfold yieldedS ErrN; simp only; split <;> simp
  rw [if_neg c15]
  by_cases c16 : x.1 = 16
  · rw [if_pos c16]
    exact putN_err _ _
  rw [if_neg c16]
  simp [ErrN]
theorem runN_err (p : List Fn) : ∀ (k : Nat) (s : St), ErrN (runS p k s).2.2 ∧ (runS p k s).2.1 ≤ k
  | 0, s => by simp [runS, ErrN]
  | k + 1, s => by
    unfold runS
    split
    · simp [ErrN]
    · split
      · obtain ⟨h1, h2⟩ := runN_err p k (oneS p s).1
        exact ⟨h1, by simp only; omega⟩
      · exact ⟨oneN_err p s, by simp⟩
def fibAt (s : St) (i : Nat) : Fb := s.fibers.getD i Fb.zero
def frAt (s : St) (i j : Nat) : Fr := (fibAt s i).frames.getD j Fr.zero
theorem getD_set_self {α : Type} (l : List α) (i : Nat) (x d : α) (h : i < l.length) : (l.set i x).getD i d = x := by simp [List.getD, h]
theorem getD_set_ne {α : Type} (l : List α) (i j : Nat) (x d : α) (h : i ≠ j) : (l.set i x).getD j d = l.getD j d := by simp [List.getD, h]
def setFib (s : St) (i : Nat) (b : Fb) : St := { s with fibers := s.fibers.set i b }
theorem fibAt_same {s : St} {i : Nat} (b : Fb) (h : i < s.fibers.length) : fibAt (setFib s i b) i = b := getD_set_self _ _ _ _ h
theorem fibAt_ne {s : St} {i j : Nat} (b : Fb) (h : i ≠ j) : fibAt (setFib s i b) j = fibAt s j := getD_set_ne _ _ _ _ _ h
theorem setFib_len (s : St) (i : Nat) (b : Fb) : (setFib s i b).fibers.length = s.fibers.length := by simp [setFib]
def setFr (s : St) (i j : Nat) (f : Fr) : St := setFib s i { fibAt s i with frames := (fibAt s i).frames.set j f }
theorem frAt_same {s : St} {i j : Nat} (f : Fr) (hi : i < s.fibers.length) (hj : j < (fibAt s i).frames.length) : frAt (setFr s i j f) i j = f := by
  unfold frAt setFr; rw [fibAt_same _ hi]; exact getD_set_self _ _ _ _ hj
theorem frAt_ne {s : St} {i j i' j' : Nat} (f : Fr) (hi : i < s.fibers.length) (h : ¬ (i = i' ∧ j = j')) : frAt (setFr s i j f) i' j' = frAt s i' j' := by
  unfold frAt setFr
  by_cases e : i = i'
  · subst e
    rw [fibAt_same _ hi]
    exact getD_set_ne _ _ _ _ _ (fun e => h ⟨rfl, e⟩)
  · rw [fibAt_ne _ e]
theorem setFr_frames {s : St} {i j : Nat} (f : Fr) (hi : i < s.fibers.length) (t : Nat) : (fibAt (setFr s i j f) t).frames.length = (fibAt s t).frames.length := by
  unfold setFr
  by_cases e : i = t
  · subst e; rw [fibAt_same _ hi]; simp
  · rw [fibAt_ne _ e]
theorem setFr_caller {s : St} {i j : Nat} (f : Fr) (hi : i < s.fibers.length) (t : Nat) : (fibAt (setFr s i j f) t).caller = (fibAt s t).caller := by
  unfold setFr
  by_cases e : i = t
  · subst e; rw [fibAt_same _ hi]
  · rw [fibAt_ne _ e]
def Small (s : St) : Prop := s.fibers.length ≤ 1000 ∧ s.out.length ≤ 1000 ∧ ∀ b, b ∈ s.fibers → b.frames.length ≤ 1000 ∧ ∀ f, f ∈ b.frames → f.locals.length ≤ 1000 ∧ f.stack.length ≤ 1000
end Go.Proofs.YtokhibfenccijaaGreatDoor
