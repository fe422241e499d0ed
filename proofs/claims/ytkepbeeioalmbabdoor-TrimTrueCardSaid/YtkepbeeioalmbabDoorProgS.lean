/-
  Plain functions: who may come to be begun by a function, as the program goes (visitS), and as the reference does, round by round (callsS): one and the same.
-/
import Derived.Test.YtkepbeeioalmbabDoorPlain
namespace Go.Proofs.YtkepbeeioalmbabDoor

/-- Does an op name a function (Call, Make)? -/
def namesB (x : Int × Int) : Bool := decide (x.1 = 11) || decide (x.1 = 13)
/-- The functions that ops name, in their order. -/
def targets (c : List (Int × Int)) : List Nat := (c.filter namesB).map fun x => x.2.toNat

def codeOf (p : List Fn) (g : Nat) : List (Int × Int) := (p.getD g Fn.zero).code

/-- The program's way. -/
def visitS (p : List Fn) : Nat → List Bool → Nat → List Bool
  | 0, B, _ => B
  | n + 1, B, g => if B.getD g false = true then B else (targets (codeOf p g)).foldl (visitS p n) (B.set g true)

/-- The reference's: one function's ops, one round, all rounds. -/
def markS (B : List Bool) (l : List Nat) : List Bool := l.foldl (fun B j => B.set j true) B
def stepB (p : List Fn) (B : List Bool) (k : Nat) : List Bool := if B.getD k false = true then markS B (targets (codeOf p k)) else B
def roundB (p : List Fn) : Nat → List Bool → List Bool
  | 0, B => B
  | k + 1, B => stepB p (roundB p k B) k
def roundsB (p : List Fn) : Nat → List Bool → List Bool
  | 0, B => B
  | r + 1, B => roundB p p.length (roundsB p r B)
def startB (p : List Fn) (f : Nat) : List Bool := (List.replicate p.length false).set f true
def callsS (p : List Fn) (f : Nat) : List Bool := roundsB p p.length (startB p f)

/-- All that is named is there. -/
def Named (p : List Fn) : Prop := ∀ k j, k < p.length → j ∈ targets (codeOf p k) → j < p.length

/-- f may come to begin k. -/
def ReachC (p : List Fn) (f k : Nat) : Prop := ∀ S : Nat → Prop, S f → (∀ k j, k < p.length → S k → j ∈ targets (codeOf p k) → S j) → S k
theorem ReachC.self (p : List Fn) (f : Nat) : ReachC p f f := fun _ h _ => h
theorem ReachC.step {p : List Fn} {f k j : Nat} (h : ReachC p f k) (hk : k < p.length) (hj : j ∈ targets (codeOf p k)) : ReachC p f j :=
  fun S h0 hs => hs k j hk (h S h0 hs) hj
theorem ReachC.trans {p : List Fn} {f g k : Nat} (h : ReachC p f g) (h' : ReachC p g k) : ReachC p f k :=
  fun S h0 hs => h' S (h S h0 hs) hs

def MonoB (B B' : List Bool) : Prop := B'.length = B.length ∧ ∀ k, B.getD k false = true → B'.getD k false = true
theorem MonoB.refl (B : List Bool) : MonoB B B := ⟨rfl, fun _ h => h⟩
theorem MonoB.trans {A B C : List Bool} (h : MonoB A B) (k : MonoB B C) : MonoB A C := ⟨k.1.trans h.1, fun i hi => k.2 i (h.2 i hi)⟩

theorem getB_set (B : List Bool) (k i : Nat) : (B.set k true).getD i false = true ↔ (i = k ∧ k < B.length) ∨ B.getD i false = true := by
  simp only [List.getD, List.getElem?_set]
  by_cases h : k = i
  · subst h
    by_cases hk : k < B.length
    · simp [hk]
    · simp [hk]
  · simp [h, Ne.symm h]
theorem MonoB.set (B : List Bool) (k : Nat) : MonoB B (B.set k true) := ⟨by simp, fun i hi => (getB_set B k i).2 (.inr hi)⟩

theorem getB_lt {B : List Bool} {k : Nat} (h : B.getD k false = true) : k < B.length := by
  by_cases hk : k < B.length
  · exact hk
  · simp [List.getD, hk] at h

/-- How many are not named. -/
def unvB (B : List Bool) : Nat := (B.filter fun b => !b).length
theorem unvB_set : ∀ (B : List Bool) (k : Nat), k < B.length → B.getD k false = false → unvB (B.set k true) + 1 = unvB B
  | [], k, h, _ => by simp at h
  | b :: B, 0, _, h => by
    simp at h
    subst h
    simp [unvB]
  | b :: B, k + 1, hk, h => by
    have ih := unvB_set B k (by simpa using hk) (by simpa using h)
    simp only [unvB, List.set_cons_succ, List.filter_cons] at ih ⊢
    cases b
    · simp only [Bool.not_false, if_true, List.length_cons]; omega
    · simpa using ih
theorem unvB_mono : ∀ (B B' : List Bool), MonoB B B' → unvB B' ≤ unvB B ∧ (B' ≠ B → unvB B' < unvB B)
  | [], B', h => by
    have : B' = [] := List.length_eq_zero_iff.1 h.1
    subst this
    simp
  | b :: B, [], h => by simp [MonoB] at h
  | b :: B, b' :: B', h => by
    have ih := unvB_mono B B' ⟨by simpa using h.1, fun k hk => by simpa using h.2 (k + 1) (by simpa using hk)⟩
    have h0 := h.2 0
    simp only [List.getD_cons_zero] at h0
    simp only [unvB, List.filter_cons] at ih ⊢
    cases b <;> cases b' <;> simp at h0 ih ⊢ <;> first | omega | (refine ⟨ih.1, fun hn => ih.2 hn⟩)
theorem unvB_le (B : List Bool) : unvB B ≤ B.length := List.length_filter_le _ _

/-- What is named is closed. -/
def ClosedB (p : List Fn) (B : List Bool) : Prop := ∀ k j, k < p.length → B.getD k false = true → j ∈ targets (codeOf p k) → B.getD j false = true
def SoundB (p : List Fn) (f : Nat) (B : List Bool) : Prop := ∀ k, B.getD k false = true → ReachC p f k

theorem closed_one {p : List Fn} {f : Nat} {B B' : List Bool} (hl : B.length = p.length) (hl' : B'.length = p.length) (h0 : B.getD f false = true) (h0' : B'.getD f false = true)
    (c : ClosedB p B) (c' : ClosedB p B') (s : SoundB p f B) (s' : SoundB p f B') : B = B' := by
  apply List.ext_getElem (hl.trans hl'.symm)
  intro k hk hk'
  have e1 : B[k] = B.getD k false := by simp [List.getD, hk]
  have e2 : B'[k] = B'.getD k false := by simp [List.getD, hk']
  rw [e1, e2, Bool.eq_iff_iff]
  exact ⟨fun h => s k h (fun k => B'.getD k false = true) h0' (fun k j hk a b => c' k j hk a b), fun h => s' k h (fun k => B.getD k false = true) h0 (fun k j hk a b => c k j hk a b)⟩

/-- One visit, and visits one behind the other. -/
def VisitOk (p : List Fn) (B B' : List Bool) : Prop :=
  MonoB B B' ∧ ∀ k j, B'.getD k false = true → B.getD k false = false → j ∈ targets (codeOf p k) → B'.getD j false = true
theorem VisitOk.refl (p : List Fn) (B : List Bool) : VisitOk p B B := ⟨.refl B, fun k j h h' => by rw [h] at h'; cases h'⟩
theorem VisitOk.trans {p : List Fn} {A B C : List Bool} (h : VisitOk p A B) (h' : VisitOk p B C) : VisitOk p A C :=
  ⟨h.1.trans h'.1, fun k j hC hA hj => by
    cases hB : B.getD k false with
    | true => exact h'.1.2 j (h.2 k j hB hA hj)
    | false => exact h'.2 k j hC hB hj⟩

theorem visits_ok {p : List Fn} (f : List Bool → Nat → List Bool) (n : Nat) (hf : ∀ B j, B.length = p.length → unvB B < n → j < p.length → VisitOk p B (f B j) ∧ (f B j).getD j false = true) :
    ∀ (l : List Nat) (B : List Bool), B.length = p.length → unvB B < n → (∀ j, j ∈ l → j < p.length) → VisitOk p B (l.foldl f B) ∧ ∀ j, j ∈ l → (l.foldl f B).getD j false = true
  | [], B, _, _, _ => ⟨.refl p B, fun j hj => by cases hj⟩
  | i :: l, B, hl, hu, hn => by
    obtain ⟨a, b⟩ := hf B i hl hu (hn i (by simp))
    obtain ⟨c, d⟩ := visits_ok f n hf l (f B i) (a.1.1.trans hl) (Nat.lt_of_le_of_lt (unvB_mono _ _ a.1).1 hu) (fun j hj => hn j (by simp [hj]))
    refine ⟨a.trans c, fun j hj => ?_⟩
    rcases List.mem_cons.1 hj with rfl | hj
    · exact c.1.2 _ b
    · exact d j hj

theorem visit_ok {p : List Fn} (hp : Named p) : ∀ (n : Nat) (B : List Bool) (g : Nat), B.length = p.length → unvB B < n → g < p.length → VisitOk p B (visitS p n B g) ∧ (visitS p n B g).getD g false = true
  | 0, B, g, _, h, _ => by omega
  | n + 1, B, g, hl, hu, hg => by
    unfold visitS
    split
    · rename_i h; exact ⟨.refl p B, h⟩
    · rename_i h
      have h' : B.getD g false = false := by simpa using h
      have hs := unvB_set B g (hl ▸ hg) h'
      obtain ⟨a, b⟩ := visits_ok (visitS p n) n (fun B j h1 h2 h3 => visit_ok hp n B j h1 h2 h3) (targets (codeOf p g)) (B.set g true) (by simpa using hl) (by omega) (fun j hj => hp g j hg hj)
      refine ⟨⟨(MonoB.set B g).trans a.1, fun k j hk hB hj => ?_⟩, a.1.2 g ((getB_set B g g).2 (.inl ⟨rfl, hl ▸ hg⟩))⟩
      by_cases hkg : k = g
      · subst hkg; exact b j hj
      · refine a.2 k j hk ?_ hj
        cases hz : (B.set g true).getD k false with
        | false => rfl
        | true => rcases (getB_set B g k).1 hz with ⟨h1, _⟩ | h1
                  · exact absurd h1 hkg
                  · rw [hB] at h1; cases h1

theorem visits_sound {p : List Fn} {f : Nat} (v : List Bool → Nat → List Bool) (hv : ∀ B j, B.length = p.length → j < p.length → SoundB p f B → ReachC p f j → (v B j).length = p.length ∧ SoundB p f (v B j)) :
    ∀ (l : List Nat) (B : List Bool), B.length = p.length → SoundB p f B → (∀ j, j ∈ l → j < p.length ∧ ReachC p f j) → (l.foldl v B).length = p.length ∧ SoundB p f (l.foldl v B)
  | [], B, hl, hs, _ => ⟨hl, hs⟩
  | i :: l, B, hl, hs, hn => by
    obtain ⟨a, b⟩ := hv B i hl (hn i (by simp)).1 hs (hn i (by simp)).2
    exact visits_sound v hv l (v B i) a b (fun j hj => hn j (by simp [hj]))

theorem set_sound {p : List Fn} {f : Nat} {B : List Bool} (hs : SoundB p f B) {g : Nat} (hg : ReachC p f g) : SoundB p f (B.set g true) := by
  intro k hk
  rcases (getB_set B g k).1 hk with ⟨rfl, _⟩ | h
  · exact hg
  · exact hs k h

theorem visit_sound {p : List Fn} (hp : Named p) {f : Nat} : ∀ (n : Nat) (B : List Bool) (g : Nat), B.length = p.length → g < p.length → SoundB p f B → ReachC p f g → (visitS p n B g).length = p.length ∧ SoundB p f (visitS p n B g)
  | 0, B, g, hl, _, hs, _ => ⟨hl, hs⟩
  | n + 1, B, g, hl, hg, hs, hr => by
    unfold visitS
    split
    · exact ⟨hl, hs⟩
    · exact visits_sound (visitS p n) (fun B j h1 h2 h3 h4 => visit_sound hp n B j h1 h2 h3 h4) _ _ (by simpa using hl) (set_sound hs hr) (fun j hj => ⟨hp g j hg hj, hr.step hg hj⟩)

/-- Marks. -/
theorem mark_ok : ∀ (l : List Nat) (B : List Bool) (n : Nat), B.length = n → (∀ j, j ∈ l → j < n) → MonoB B (markS B l) ∧ ∀ j, j ∈ l → (markS B l).getD j false = true
  | [], B, _, _, _ => ⟨.refl B, fun j hj => by cases hj⟩
  | i :: l, B, n, hl, hn => by
    obtain ⟨a, b⟩ := mark_ok l (B.set i true) n (by simpa using hl) (fun j hj => hn j (by simp [hj]))
    refine ⟨(MonoB.set B i).trans a, fun j hj => ?_⟩
    rcases List.mem_cons.1 hj with rfl | hj
    · exact a.2 _ ((getB_set B _ _).2 (.inl ⟨rfl, hl ▸ hn _ (by simp)⟩))
    · exact b j hj
theorem mark_sound {p : List Fn} {f : Nat} : ∀ (l : List Nat) (B : List Bool), SoundB p f B → (∀ j, j ∈ l → ReachC p f j) → SoundB p f (markS B l)
  | [], _, hs, _ => hs
  | i :: l, B, hs, hn => mark_sound l (B.set i true) (set_sound hs (hn i (by simp))) (fun j hj => hn j (by simp [hj]))

theorem stepB_ok {p : List Fn} (hp : Named p) {f : Nat} {B : List Bool} {k : Nat} (hk : k < p.length) (hl : B.length = p.length) (hs : SoundB p f B) :
    MonoB B (stepB p B k) ∧ SoundB p f (stepB p B k) ∧ (B.getD k false = true → ∀ j, j ∈ targets (codeOf p k) → (stepB p B k).getD j false = true) := by
  unfold stepB
  split
  · rename_i h
    obtain ⟨a, b⟩ := mark_ok (targets (codeOf p k)) B p.length hl (fun j hj => hp k j hk hj)
    exact ⟨a, mark_sound _ _ hs (fun j hj => (hs k h).step hk hj), fun _ => b⟩
  · rename_i h
    exact ⟨.refl B, hs, fun h' => absurd h' h⟩

theorem monoB_anti {B C : List Bool} (a : MonoB B C) (b : MonoB C B) : C = B := by
  apply List.ext_getElem a.1
  intro k hk hk'
  have e1 : C[k] = C.getD k false := by simp [List.getD, hk]
  have e2 : B[k] = B.getD k false := by simp [List.getD, hk']
  rw [e1, e2, Bool.eq_iff_iff]
  exact ⟨b.2 k, a.2 k⟩

theorem roundB_ok {p : List Fn} (hp : Named p) {f : Nat} : ∀ (k : Nat) (B : List Bool), k ≤ p.length → B.length = p.length → SoundB p f B →
    MonoB B (roundB p k B) ∧ SoundB p f (roundB p k B) ∧ (roundB p k B = B → ∀ i j, i < k → B.getD i false = true → j ∈ targets (codeOf p i) → B.getD j false = true)
  | 0, B, _, hl, hs => ⟨.refl B, hs, fun _ i j hi => by omega⟩
  | k + 1, B, hk, hl, hs => by
    obtain ⟨a, b, c⟩ := roundB_ok hp k B (by omega) hl hs
    obtain ⟨d, e, g⟩ := stepB_ok hp (k := k) (by omega) (a.1.trans hl) b
    refine ⟨a.trans d, e, fun h i j hi hB hj => ?_⟩
    simp only [roundB] at h
    have h1 : roundB p k B = B := monoB_anti a (by rw [h] at d; exact d)
    rcases Nat.lt_succ_iff_lt_or_eq.1 hi with hi | rfl
    · exact c h1 i j hi hB hj
    · have := g (h1.symm ▸ hB) j hj
      rw [h] at this
      exact this

theorem closed_mark {B : List Bool} : ∀ (l : List Nat) (C : List Bool), (∀ j, j ∈ l → B.getD j false = true) → (∀ i, C.getD i false = true → B.getD i false = true) → ∀ i, (markS C l).getD i false = true → B.getD i false = true
  | [], _, _, h, i, hi => h i hi
  | a :: l, C, hl, h, i, hi => closed_mark l (C.set a true) (fun j hj => hl j (by simp [hj])) (fun i hi => by
      rcases (getB_set C a i).1 hi with ⟨rfl, _⟩ | h1
      · exact hl _ (by simp)
      · exact h i h1) i hi
theorem closed_round {p : List Fn} {B : List Bool} (c : ClosedB p B) : ∀ (k : Nat), k ≤ p.length → ∀ i, (roundB p k B).getD i false = true → B.getD i false = true
  | 0, _, i, h => h
  | k + 1, hk, i, h => by
    have ih := closed_round c k (by omega)
    simp only [roundB, stepB] at h
    split at h
    · rename_i hz
      exact closed_mark _ _ (fun j hj => c k j (by omega) (ih k hz) hj) ih i h
    · exact ih i h

theorem roundsB_ok {p : List Fn} (hp : Named p) {f : Nat} : ∀ (r : Nat) (B : List Bool), B.length = p.length → SoundB p f B →
    MonoB B (roundsB p r B) ∧ SoundB p f (roundsB p r B) ∧ (ClosedB p (roundsB p r B) ∨ unvB (roundsB p r B) + r ≤ unvB B)
  | 0, B, hl, hs => ⟨.refl B, hs, .inr (Nat.le_refl _)⟩
  | r + 1, B, hl, hs => by
    obtain ⟨a, b, c⟩ := roundsB_ok hp r B hl hs
    obtain ⟨d, e, g⟩ := roundB_ok hp p.length (roundsB p r B) (Nat.le_refl _) (a.1.trans hl) b
    refine ⟨a.trans d, e, ?_⟩
    simp only [roundsB]
    by_cases h : roundB p p.length (roundsB p r B) = roundsB p r B
    · left
      rw [h]
      exact fun k j hk hB hj => g h k j hk hB hj
    · rcases c with c | c
      · exfalso
        apply h
        refine monoB_anti d ⟨d.1.symm, fun k hk => ?_⟩
        exact closed_round (fun k j hk hB hj => c k j hk hB hj) p.length (Nat.le_refl _) k hk
      · right
        have := (unvB_mono _ _ d).2 h
        omega
theorem startB_get {p : List Fn} {f : Nat} (hf : f < p.length) (k : Nat) : (startB p f).getD k false = true ↔ k = f := by
  unfold startB
  rw [getB_set]
  simp only [List.length_replicate, hf, and_true]
  constructor
  · rintro (h | h)
    · exact h
    · exfalso
      have hk := getB_lt h
      rw [List.length_replicate] at hk
      simp [List.getD, hk] at h
  · exact .inl
theorem startB_unv {p : List Fn} {f : Nat} (hf : f < p.length) : unvB (startB p f) + 1 ≤ p.length := by
  have := unvB_set (List.replicate p.length false) f (by simpa using hf) (by simp [List.getD, hf])
  have h2 := unvB_le (List.replicate p.length false)
  rw [List.length_replicate] at h2
  unfold startB
  omega

theorem callsS_ok {p : List Fn} (hp : Named p) {f : Nat} (hf : f < p.length) : (callsS p f).length = p.length ∧ (callsS p f).getD f false = true ∧ ClosedB p (callsS p f) ∧ SoundB p f (callsS p f) := by
  obtain ⟨a, b, c⟩ := roundsB_ok hp (f := f) p.length (startB p f) (by simp [startB]) (fun k hk => by rw [(startB_get hf k).1 hk]; exact .self p f)
  refine ⟨a.1.trans (by simp [startB]), a.2 f ((startB_get hf f).2 rfl), ?_, b⟩
  rcases c with c | c
  · exact c
  · have := startB_unv hf
    omega

/-- The program's way comes to the same. -/
theorem visit_calls {p : List Fn} (hp : Named p) {f : Nat} (hf : f < p.length) : visitS p (p.length + 1) (List.replicate p.length false) f = callsS p f := by
  have hz : ∀ k, (List.replicate p.length false).getD k false = false := fun k => by
    cases h : (List.replicate p.length false).getD k false with
    | false => rfl
    | true => have hk := getB_lt h; rw [List.length_replicate] at hk; simp [List.getD, hk] at h
  have hu := unvB_le (List.replicate p.length false)
  rw [List.length_replicate] at hu
  obtain ⟨a, b⟩ := visit_ok hp (p.length + 1) (List.replicate p.length false) f (by simp) (by omega) hf
  obtain ⟨c, d⟩ := visit_sound hp (f := f) (p.length + 1) (List.replicate p.length false) f (by simp) hf (fun k hk => by rw [hz k] at hk; cases hk) (.self p f)
  obtain ⟨e, g, h, i⟩ := callsS_ok hp hf
  exact closed_one c e b g (fun k j _ hk hj => a.2 k j hk (hz k) hj) h d i
end Go.Proofs.YtkepbeeioalmbabDoor
