/-
  Plain functions on lists and integers: what the document says of ops, programs and heights. Nothing of the program stands here.
  States, plain structures. Nothing of the program stands here.
  Plain functions: who may come to be begun by a function, as the program goes (visitS), and as the reference does, round by round (callsS): one and the same.
  Plain functions: heights, as the program goes through the ways (comeS), and as the reference does, round by round (heightsS).
  Nothing old has turned; facts that are kept from the walk; blocks that stay as they were laid.
  How programs lie in memory: predicates on a world; kept where nothing old has turned.
  Contracts of the small functions of package op and of the reference: isIndex, within, hasRoom, badArgs, o, takes, leaves.
  Programs that lie in whole blocks of their own: literals of the statements.
-/
import Derived.Below
import Derived.WalkKit
import Derived.WalkSmall
import Derived.BigQuiet
import Derived.Test.YtgdcecibfoganacDoorChecked

namespace Go.Proofs.YtgdcecibfoganacDoor

/-- A function of a program: how many Args, how many Locals, its ops (kind, A). -/
structure Fn where
  args : Int
  locals : Int
  code : List (Int × Int)

def Fn.zero : Fn := ⟨0, 0, []⟩

/-- '0 ≤ i < n' as one test. -/
def ixB (i n : Int) : Bool := decide (0 ≤ i) && decide (i < n)
theorem ixB_true {i n : Int} (h : 0 ≤ i) (h' : i < n) : ixB i n = true := by simp [ixB, h, h']
theorem ixB_false {i n : Int} (h : ¬ (0 ≤ i ∧ i < n)) : ixB i n = false := by
  unfold ixB; rw [Bool.and_eq_false_iff]; simp only [decide_eq_false_iff_not]; omega
theorem ixB_iff {i n : Int} : ixB i n = true ↔ 0 ≤ i ∧ i < n := by simp [ixB]

/-- 'low ≤ n ≤ high' as one test. -/
def inB (n low high : Int) : Bool := decide (low ≤ n) && decide (n ≤ high)
theorem inB_true {n l h : Int} (h1 : l ≤ n) (h2 : n ≤ h) : inB n l h = true := by simp [inB, h1, h2]
theorem inB_false {n l h : Int} (h' : ¬ (l ≤ n ∧ n ≤ h)) : inB n l h = false := by
  unfold inB; rw [Bool.and_eq_false_iff]; simp only [decide_eq_false_iff_not]; omega
theorem inB_iff {n l h : Int} : inB n l h = true ↔ l ≤ n ∧ n ≤ h := by simp [inB]
theorem inB_ixB (i n : Int) : inB i 0 (n - 1) = ixB i n := by
  rw [Bool.eq_iff_iff, inB_iff, ixB_iff]; omega

/-- Room for Args and Locals: A2. -/
def roomB (a l : Int) : Bool := decide (0 ≤ a) && decide (a ≤ l) && decide (l ≤ 4)
theorem roomB_iff {a l : Int} : roomB a l = true ↔ 0 ≤ a ∧ a ≤ l ∧ l ≤ 4 := by simp [roomB, and_assoc]

/-- The table of kinds: takes, leaves, operand, a kind behind the other. -/
def ktab : List Int := [0,1,1, 1,0,0, 0,1,2, 1,0,2, 2,1,0, 2,1,0, 2,1,0, 2,1,0, 2,1,0, 0,0,3, 1,0,3, 0,1,4, 1,0,0, 0,1,4, 2,1,0, 1,1,0, 1,0,0]
def tk (k : Nat) : Int := ktab.getD (k * 3) 0
def lv (k : Nat) : Int := ktab.getD (k * 3 + 1) 0
def opd (k : Nat) : Int := ktab.getD (k * 3 + 2) 0

/-- A1: takes, leaves, the error. -/
def effS (p : List Fn) (kd a : Int) : Int × Int × Int :=
  if 0 ≤ kd ∧ kd < 17 then
    if kd = 11 then (if 0 ≤ a ∧ a < p.length then ((p.getD a.toNat Fn.zero).args, 1, 0) else (0, 0, 5))
    else (tk kd.toNat, lv kd.toNat, 0)
  else (0, 0, 4)

/-- A2, of one op: may A stand for an operand of that sort? -/
def mayB (p : List Fn) (f : Fn) (o a : Int) : Bool :=
  if o = 0 then decide (a = 0) else if o = 1 then inB a 0 999 else if o = 2 then ixB a f.locals else if o = 3 then ixB a f.code.length
  else ixB a p.length && roomB (p.getD a.toNat Fn.zero).args (p.getD a.toNat Fn.zero).locals

/-- A2, of one op. -/
def opS (p : List Fn) (f : Fn) (x : Int × Int) : Int :=
  if 0 ≤ x.1 ∧ x.1 < 17 then
    if mayB p f (opd x.1.toNat) x.2 = true then (if x.1 = 13 ∧ (p.getD x.2.toNat Fn.zero).args ≠ 1 then 1 else 0) else 3
  else 4

/-- The first error of a list of ops. -/
def opsS (p : List Fn) (f : Fn) : List (Int × Int) → Int
  | [] => 0
  | x :: r => if opS p f x = 0 then opsS p f r else opS p f x

/-- A2: Check. -/
def chkS (p : List Fn) (f : Int) : Int :=
  if 0 ≤ f ∧ f < p.length then
    let g := p.getD f.toNat Fn.zero
    if 24 < g.code.length then 2 else if roomB g.args g.locals = true then opsS p g g.code else 3
  else 5

end Go.Proofs.YtgdcecibfoganacDoor

namespace Go.Proofs.YtgdcecibfoganacDoor

structure Fr where
  fn : Int
  at_ : Int
  locals : List Int
  stack : List Int
structure Fb where
  frames : List Fr
  caller : Int
structure St where
  fibers : List Fb
  now : Int
  out : List Int
def Fr.zero : Fr := ⟨0, 0, [], []⟩
def Fb.zero : Fb := ⟨[], 0⟩
def St.zero : St := ⟨[], 0, []⟩
end Go.Proofs.YtgdcecibfoganacDoor

namespace Go.Proofs.YtgdcecibfoganacDoor

/-- Does an op name a function (Call, Make)? -/
def namesB (x : Int × Int) : Bool := decide (x.1 = 11) || decide (x.1 = 13)
/-- The functions that ops name, in their order. -/
def targets (c : List (Int × Int)) : List Nat := (c.filter namesB).map fun x => x.2.toNat

def codeOf (p : List Fn) (g : Nat) : List (Int × Int) := (p.getD g Fn.zero).code

/-- The program's way. -/
def visitS (p : List Fn) : Nat → List Bool → Nat → List Bool
  | 0, B, _ => B
  | n + 1, B, g => if B.getD g false = true then B else (targets (codeOf p g)).foldl (visitS p n) (B.set g true)

/-- The reference's: one function's ops, one round, all rounds. -/
def markS (B : List Bool) (l : List Nat) : List Bool := l.foldl (fun B j => B.set j true) B
def stepB (p : List Fn) (B : List Bool) (k : Nat) : List Bool := if B.getD k false = true then markS B (targets (codeOf p k)) else B
def roundB (p : List Fn) : Nat → List Bool → List Bool
  | 0, B => B
  | k + 1, B => stepB p (roundB p k B) k
def roundsB (p : List Fn) : Nat → List Bool → List Bool
  | 0, B => B
  | r + 1, B => roundB p p.length (roundsB p r B)
def startB (p : List Fn) (f : Nat) : List Bool := (List.replicate p.length false).set f true
def callsS (p : List Fn) (f : Nat) : List Bool := roundsB p p.length (startB p f)

/-- All that is named is there. -/
def Named (p : List Fn) : Prop := ∀ k j, k < p.length → j ∈ targets (codeOf p k) → j < p.length

/-- f may come to begin k. -/
def ReachC (p : List Fn) (f k : Nat) : Prop := ∀ S : Nat → Prop, S f → (∀ k j, k < p.length → S k → j ∈ targets (codeOf p k) → S j) → S k
theorem ReachC.self (p : List Fn) (f : Nat) : ReachC p f f := fun _ h _ => h
theorem ReachC.step {p : List Fn} {f k j : Nat} (h : ReachC p f k) (hk : k < p.length) (hj : j ∈ targets (codeOf p k)) : ReachC p f j :=
  fun S h0 hs => hs k j hk (h S h0 hs) hj
theorem ReachC.trans {p : List Fn} {f g k : Nat} (h : ReachC p f g) (h' : ReachC p g k) : ReachC p f k :=
  fun S h0 hs => h' S (h S h0 hs) hs

def MonoB (B B' : List Bool) : Prop := B'.length = B.length ∧ ∀ k, B.getD k false = true → B'.getD k false = true
theorem MonoB.refl (B : List Bool) : MonoB B B := ⟨rfl, fun _ h => h⟩
theorem MonoB.trans {A B C : List Bool} (h : MonoB A B) (k : MonoB B C) : MonoB A C := ⟨k.1.trans h.1, fun i hi => k.2 i (h.2 i hi)⟩

theorem getB_set (B : List Bool) (k i : Nat) : (B.set k true).getD i false = true ↔ (i = k ∧ k < B.length) ∨ B.getD i false = true := by
  simp only [List.getD, List.getElem?_set]
  by_cases h : k = i
  · subst h
    by_cases hk : k < B.length
    · simp [hk]
    · simp [hk]
  · simp [h, Ne.symm h]
theorem MonoB.set (B : List Bool) (k : Nat) : MonoB B (B.set k true) := ⟨by simp, fun i hi => (getB_set B k i).2 (.inr hi)⟩

theorem getB_lt {B : List Bool} {k : Nat} (h : B.getD k false = true) : k < B.length := by
  by_cases hk : k < B.length
  · exact hk
  · simp [List.getD, hk] at h

/-- How many are not named. -/
def unvB (B : List Bool) : Nat := (B.filter fun b => !b).length
theorem unvB_set : ∀ (B : List Bool) (k : Nat), k < B.length → B.getD k false = false → unvB (B.set k true) + 1 = unvB B
  | [], k, h, _ => by simp at h
  | b :: B, 0, _, h => by
    simp at h
    subst h
    simp [unvB]
  | b :: B, k + 1, hk, h => by
    have ih := unvB_set B k (by simpa using hk) (by simpa using h)
    simp only [unvB, List.set_cons_succ, List.filter_cons] at ih ⊢
    cases b
    · simp only [Bool.not_false, if_true, List.length_cons]; omega
    · simpa using ih
theorem unvB_mono : ∀ (B B' : List Bool), MonoB B B' → unvB B' ≤ unvB B ∧ (B' ≠ B → unvB B' < unvB B)
  | [], B', h => by
    have : B' = [] := List.length_eq_zero_iff.1 h.1
    subst this
    simp
  | b :: B, [], h => by simp [MonoB] at h
  | b :: B, b' :: B', h => by
    have ih := unvB_mono B B' ⟨by simpa using h.1, fun k hk => by simpa using h.2 (k + 1) (by simpa using hk)⟩
    have h0 := h.2 0
    simp only [List.getD_cons_zero] at h0
    simp only [unvB, List.filter_cons] at ih ⊢
    cases b <;> cases b' <;> simp at h0 ih ⊢ <;> first | omega | (refine ⟨ih.1, fun hn => ih.2 hn⟩)
theorem unvB_le (B : List Bool) : unvB B ≤ B.length := List.length_filter_le _ _

/-- What is named is closed. -/
def ClosedB (p : List Fn) (B : List Bool) : Prop := ∀ k j, k < p.length → B.getD k false = true → j ∈ targets (codeOf p k) → B.getD j false = true
def SoundB (p : List Fn) (f : Nat) (B : List Bool) : Prop := ∀ k, B.getD k false = true → ReachC p f k

theorem closed_one {p : List Fn} {f : Nat} {B B' : List Bool} (hl : B.length = p.length) (hl' : B'.length = p.length) (h0 : B.getD f false = true) (h0' : B'.getD f false = true)
    (c : ClosedB p B) (c' : ClosedB p B') (s : SoundB p f B) (s' : SoundB p f B') : B = B' := by
  apply List.ext_getElem (hl.trans hl'.symm)
  intro k hk hk'
  have e1 : B[k] = B.getD k false := by simp [List.getD, hk]
  have e2 : B'[k] = B'.getD k false := by simp [List.getD, hk']
  rw [e1, e2, Bool.eq_iff_iff]
  exact ⟨fun h => s k h (fun k => B'.getD k false = true) h0' (fun k j hk a b => c' k j hk a b), fun h => s' k h (fun k => B.getD k false = true) h0 (fun k j hk a b => c k j hk a b)⟩

/-- One visit, and visits one behind the other. -/
def VisitOk (p : List Fn) (B B' : List Bool) : Prop :=
  MonoB B B' ∧ ∀ k j, B'.getD k false = true → B.getD k false = false → j ∈ targets (codeOf p k) → B'.getD j false = true
theorem VisitOk.refl (p : List Fn) (B : List Bool) : VisitOk p B B := ⟨.refl B, fun k j h h' => by rw [h] at h'; cases h'⟩
theorem VisitOk.trans {p : List Fn} {A B C : List Bool} (h : VisitOk p A B) (h' : VisitOk p B C) : VisitOk p A C :=
  ⟨h.1.trans h'.1, fun k j hC hA hj => by
    cases hB : B.getD k false with
    | true => exact h'.1.2 j (h.2 k j hB hA hj)
    | false => exact h'.2 k j hC hB hj⟩

theorem visits_ok {p : List Fn} (f : List Bool → Nat → List Bool) (n : Nat) (hf : ∀ B j, B.length = p.length → unvB B < n → j < p.length → VisitOk p B (f B j) ∧ (f B j).getD j false = true) :
    ∀ (l : List Nat) (B : List Bool), B.length = p.length → unvB B < n → (∀ j, j ∈ l → j < p.length) → VisitOk p B (l.foldl f B) ∧ ∀ j, j ∈ l → (l.foldl f B).getD j false = true
  | [], B, _, _, _ => ⟨.refl p B, fun j hj => by cases hj⟩
  | i :: l, B, hl, hu, hn => by
    obtain ⟨a, b⟩ := hf B i hl hu (hn i (by simp))
    obtain ⟨c, d⟩ := visits_ok f n hf l (f B i) (a.1.1.trans hl) (Nat.lt_of_le_of_lt (unvB_mono _ _ a.1).1 hu) (fun j hj => hn j (by simp [hj]))
    refine ⟨a.trans c, fun j hj => ?_⟩
    rcases List.mem_cons.1 hj with rfl | hj
    · exact c.1.2 _ b
    · exact d j hj

theorem visit_ok {p : List Fn} (hp : Named p) : ∀ (n : Nat) (B : List Bool) (g : Nat), B.length = p.length → unvB B < n → g < p.length → VisitOk p B (visitS p n B g) ∧ (visitS p n B g).getD g false = true
  | 0, B, g, _, h, _ => by omega
  | n + 1, B, g, hl, hu, hg => by
    unfold visitS
    split
    · rename_i h; exact ⟨.refl p B, h⟩
    · rename_i h
      have h' : B.getD g false = false := by simpa using h
      have hs := unvB_set B g (hl ▸ hg) h'
      obtain ⟨a, b⟩ := visits_ok (visitS p n) n (fun B j h1 h2 h3 => visit_ok hp n B j h1 h2 h3) (targets (codeOf p g)) (B.set g true) (by simpa using hl) (by omega) (fun j hj => hp g j hg hj)
      refine ⟨⟨(MonoB.set B g).trans a.1, fun k j hk hB hj => ?_⟩, a.1.2 g ((getB_set B g g).2 (.inl ⟨rfl, hl ▸ hg⟩))⟩
      by_cases hkg : k = g
      · subst hkg; exact b j hj
      · refine a.2 k j hk ?_ hj
        cases hz : (B.set g true).getD k false with
        | false => rfl
        | true => rcases (getB_set B g k).1 hz with ⟨h1, _⟩ | h1
                  · exact absurd h1 hkg
                  · rw [hB] at h1; cases h1

theorem visits_sound {p : List Fn} {f : Nat} (v : List Bool → Nat → List Bool) (hv : ∀ B j, B.length = p.length → j < p.length → SoundB p f B → ReachC p f j → (v B j).length = p.length ∧ SoundB p f (v B j)) :
    ∀ (l : List Nat) (B : List Bool), B.length = p.length → SoundB p f B → (∀ j, j ∈ l → j < p.length ∧ ReachC p f j) → (l.foldl v B).length = p.length ∧ SoundB p f (l.foldl v B)
  | [], B, hl, hs, _ => ⟨hl, hs⟩
  | i :: l, B, hl, hs, hn => by
    obtain ⟨a, b⟩ := hv B i hl (hn i (by simp)).1 hs (hn i (by simp)).2
    exact visits_sound v hv l (v B i) a b (fun j hj => hn j (by simp [hj]))

theorem set_sound {p : List Fn} {f : Nat} {B : List Bool} (hs : SoundB p f B) {g : Nat} (hg : ReachC p f g) : SoundB p f (B.set g true) := by
  intro k hk
  rcases (getB_set B g k).1 hk with ⟨rfl, _⟩ | h
  · exact hg
  · exact hs k h

theorem visit_sound {p : List Fn} (hp : Named p) {f : Nat} : ∀ (n : Nat) (B : List Bool) (g : Nat), B.length = p.length → g < p.length → SoundB p f B → ReachC p f g → (visitS p n B g).length = p.length ∧ SoundB p f (visitS p n B g)
  | 0, B, g, hl, _, hs, _ => ⟨hl, hs⟩
  | n + 1, B, g, hl, hg, hs, hr => by
    unfold visitS
    split
    · exact ⟨hl, hs⟩
    · exact visits_sound (visitS p n) (fun B j h1 h2 h3 h4 => visit_sound hp n B j h1 h2 h3 h4) _ _ (by simpa using hl) (set_sound hs hr) (fun j hj => ⟨hp g j hg hj, hr.step hg hj⟩)

/-- Marks. -/
theorem mark_ok : ∀ (l : List Nat) (B : List Bool) (n : Nat), B.length = n → (∀ j, j ∈ l → j < n) → MonoB B (markS B l) ∧ ∀ j, j ∈ l → (markS B l).getD j false = true
  | [], B, _, _, _ => ⟨.refl B, fun j hj => by cases hj⟩
  | i :: l, B, n, hl, hn => by
    obtain ⟨a, b⟩ := mark_ok l (B.set i true) n (by simpa using hl) (fun j hj => hn j (by simp [hj]))
    refine ⟨(MonoB.set B i).trans a, fun j hj => ?_⟩
    rcases List.mem_cons.1 hj with rfl | hj
    · exact a.2 _ ((getB_set B _ _).2 (.inl ⟨rfl, hl ▸ hn _ (by simp)⟩))
    · exact b j hj
theorem mark_sound {p : List Fn} {f : Nat} : ∀ (l : List Nat) (B : List Bool), SoundB p f B → (∀ j, j ∈ l → ReachC p f j) → SoundB p f (markS B l)
  | [], _, hs, _ => hs
  | i :: l, B, hs, hn => mark_sound l (B.set i true) (set_sound hs (hn i (by simp))) (fun j hj => hn j (by simp [hj]))

theorem stepB_ok {p : List Fn} (hp : Named p) {f : Nat} {B : List Bool} {k : Nat} (hk : k < p.length) (hl : B.length = p.length) (hs : SoundB p f B) :
    MonoB B (stepB p B k) ∧ SoundB p f (stepB p B k) ∧ (B.getD k false = true → ∀ j, j ∈ targets (codeOf p k) → (stepB p B k).getD j false = true) := by
  unfold stepB
  split
  · rename_i h
    obtain ⟨a, b⟩ := mark_ok (targets (codeOf p k)) B p.length hl (fun j hj => hp k j hk hj)
    exact ⟨a, mark_sound _ _ hs (fun j hj => (hs k h).step hk hj), fun _ => b⟩
  · rename_i h
    exact ⟨.refl B, hs, fun h' => absurd h' h⟩

theorem monoB_anti {B C : List Bool} (a : MonoB B C) (b : MonoB C B) : C = B := by
  apply List.ext_getElem a.1
  intro k hk hk'
  have e1 : C[k] = C.getD k false := by simp [List.getD, hk]
  have e2 : B[k] = B.getD k false := by simp [List.getD, hk']
  rw [e1, e2, Bool.eq_iff_iff]
  exact ⟨b.2 k, a.2 k⟩

theorem roundB_ok {p : List Fn} (hp : Named p) {f : Nat} : ∀ (k : Nat) (B : List Bool), k ≤ p.length → B.length = p.length → SoundB p f B →
    MonoB B (roundB p k B) ∧ SoundB p f (roundB p k B) ∧ (roundB p k B = B → ∀ i j, i < k → B.getD i false = true → j ∈ targets (codeOf p i) → B.getD j false = true)
  | 0, B, _, hl, hs => ⟨.refl B, hs, fun _ i j hi => by omega⟩
  | k + 1, B, hk, hl, hs => by
    obtain ⟨a, b, c⟩ := roundB_ok hp k B (by omega) hl hs
    obtain ⟨d, e, g⟩ := stepB_ok hp (k := k) (by omega) (a.1.trans hl) b
    refine ⟨a.trans d, e, fun h i j hi hB hj => ?_⟩
    simp only [roundB] at h
    have h1 : roundB p k B = B := monoB_anti a (by rw [h] at d; exact d)
    rcases Nat.lt_succ_iff_lt_or_eq.1 hi with hi | rfl
    · exact c h1 i j hi hB hj
    · have := g (h1.symm ▸ hB) j hj
      rw [h] at this
      exact this

theorem closed_mark {B : List Bool} : ∀ (l : List Nat) (C : List Bool), (∀ j, j ∈ l → B.getD j false = true) → (∀ i, C.getD i false = true → B.getD i false = true) → ∀ i, (markS C l).getD i false = true → B.getD i false = true
  | [], _, _, h, i, hi => h i hi
  | a :: l, C, hl, h, i, hi => closed_mark l (C.set a true) (fun j hj => hl j (by simp [hj])) (fun i hi => by
      rcases (getB_set C a i).1 hi with ⟨rfl, _⟩ | h1
      · exact hl _ (by simp)
      · exact h i h1) i hi
theorem closed_round {p : List Fn} {B : List Bool} (c : ClosedB p B) : ∀ (k : Nat), k ≤ p.length → ∀ i, (roundB p k B).getD i false = true → B.getD i false = true
  | 0, _, i, h => h
  | k + 1, hk, i, h => by
    have ih := closed_round c k (by omega)
    simp only [roundB, stepB] at h
    split at h
    · rename_i hz
      exact closed_mark _ _ (fun j hj => c k j (by omega) (ih k hz) hj) ih i h
    · exact ih i h

theorem roundsB_ok {p : List Fn} (hp : Named p) {f : Nat} : ∀ (r : Nat) (B : List Bool), B.length = p.length → SoundB p f B →
    MonoB B (roundsB p r B) ∧ SoundB p f (roundsB p r B) ∧ (ClosedB p (roundsB p r B) ∨ unvB (roundsB p r B) + r ≤ unvB B)
  | 0, B, hl, hs => ⟨.refl B, hs, .inr (Nat.le_refl _)⟩
  | r + 1, B, hl, hs => by
    obtain ⟨a, b, c⟩ := roundsB_ok hp r B hl hs
    obtain ⟨d, e, g⟩ := roundB_ok hp p.length (roundsB p r B) (Nat.le_refl _) (a.1.trans hl) b
    refine ⟨a.trans d, e, ?_⟩
    simp only [roundsB]
    by_cases h : roundB p p.length (roundsB p r B) = roundsB p r B
    · left
      rw [h]
      exact fun k j hk hB hj => g h k j hk hB hj
    · rcases c with c | c
      · exfalso
        apply h
        refine monoB_anti d ⟨d.1.symm, fun k hk => ?_⟩
        exact closed_round (fun k j hk hB hj => c k j hk hB hj) p.length (Nat.le_refl _) k hk
      · right
        have := (unvB_mono _ _ d).2 h
        omega
theorem startB_get {p : List Fn} {f : Nat} (hf : f < p.length) (k : Nat) : (startB p f).getD k false = true ↔ k = f := by
  unfold startB
  rw [getB_set]
  simp only [List.length_replicate, hf, and_true]
  constructor
  · rintro (h | h)
    · exact h
    · exfalso
      have hk := getB_lt h
      rw [List.length_replicate] at hk
      simp [List.getD, hk] at h
  · exact .inl
theorem startB_unv {p : List Fn} {f : Nat} (hf : f < p.length) : unvB (startB p f) + 1 ≤ p.length := by
  have := unvB_set (List.replicate p.length false) f (by simpa using hf) (by simp [List.getD, hf])
  have h2 := unvB_le (List.replicate p.length false)
  rw [List.length_replicate] at h2
  unfold startB
  omega

theorem callsS_ok {p : List Fn} (hp : Named p) {f : Nat} (hf : f < p.length) : (callsS p f).length = p.length ∧ (callsS p f).getD f false = true ∧ ClosedB p (callsS p f) ∧ SoundB p f (callsS p f) := by
  obtain ⟨a, b, c⟩ := roundsB_ok hp (f := f) p.length (startB p f) (by simp [startB]) (fun k hk => by rw [(startB_get hf k).1 hk]; exact .self p f)
  refine ⟨a.1.trans (by simp [startB]), a.2 f ((startB_get hf f).2 rfl), ?_, b⟩
  rcases c with c | c
  · exact c
  · have := startB_unv hf
    omega

/-- The program's way comes to the same. -/
theorem visit_calls {p : List Fn} (hp : Named p) {f : Nat} (hf : f < p.length) : visitS p (p.length + 1) (List.replicate p.length false) f = callsS p f := by
  have hz : ∀ k, (List.replicate p.length false).getD k false = false := fun k => by
    cases h : (List.replicate p.length false).getD k false with
    | false => rfl
    | true => have hk := getB_lt h; rw [List.length_replicate] at hk; simp [List.getD, hk] at h
  have hu := unvB_le (List.replicate p.length false)
  rw [List.length_replicate] at hu
  obtain ⟨a, b⟩ := visit_ok hp (p.length + 1) (List.replicate p.length false) f (by simp) (by omega) hf
  obtain ⟨c, d⟩ := visit_sound hp (f := f) (p.length + 1) (List.replicate p.length false) f (by simp) hf (fun k hk => by rw [hz k] at hk; cases hk) (.self p f)
  obtain ⟨e, g, h, i⟩ := callsS_ok hp hf
  exact closed_one c e b g (fun k j _ hk hj => a.2 k j hk (hz k) hj) h d i
end Go.Proofs.YtgdcecibfoganacDoor

namespace Go.Proofs.YtgdcecibfoganacDoor

/-- The height behind an op; none, where it may not be. -/
def beh (p : List Fn) (x : Int × Int) (h : Int) : Option Int :=
  if (effS p x.1 x.2).2.2 = 0 ∧ (effS p x.1 x.2).1 ≤ h ∧ ¬ (x.1 = 12 ∧ 1 < h) ∧ h - (effS p x.1 x.2).1 + (effS p x.1 x.2).2.1 ≤ 8 then some (h - (effS p x.1 x.2).1 + (effS p x.1 x.2).2.1) else none

/-- The ops that may come next behind an op. -/
def nexts (x : Int × Int) (k : Nat) : List Nat :=
  if x.1 = 12 then [] else if x.1 = 9 then [x.2.toNat] else if x.1 = 10 then [x.2.toNat, k + 1] else [k + 1]

/-- One way behind the other, till one may not be gone. -/
def comesS (f : List Int → Nat → Int → Bool × List Int) : List Nat → List Int → Int → Bool × List Int
  | [], H, _ => (true, H)
  | j :: r, H, m => match f H j m with
    | (true, H') => comesS f r H' m
    | (false, H') => (false, H')

/-- To come to an op with a height. -/
def comeS (p : List Fn) (c : List (Int × Int)) : Nat → List Int → Nat → Int → Bool × List Int
  | 0, H, _, _ => (false, H)
  | n + 1, H, at_, h =>
    if c.length ≤ at_ then (false, H)
    else if H.getD at_ 0 = -1 then
      match beh p (c.getD at_ (0, 0)) h with
      | none => (false, H.set at_ h)
      | some m => comesS (comeS p c n) (nexts (c.getD at_ (0, 0)) at_) (H.set at_ h) m
    else (decide (H.getD at_ 0 = h), H)

theorem comesS_snoc (f : List Int → Nat → Int → Bool × List Int) : ∀ (l : List Nat) (j : Nat) (H : List Int) (m : Int), comesS f (l ++ [j]) H m = match comesS f l H m with
    | (true, H') => f H' j m
    | (false, H') => (false, H')
  | [], j, H, m => by
    simp only [List.nil_append, comesS]
    cases f H j m with
    | mk b H' => cases b <;> rfl
  | i :: l, j, H, m => by
    simp only [List.cons_append, comesS]
    cases f H i m with
    | mk b H' => cases b with
      | false => rfl
      | true => exact comesS_snoc f l j H' m
theorem comesS_prefix (f : List Int → Nat → Int → Bool × List Int) (l : List Nat) (H H' : List Int) (m : Int) (h : comesS f l H m = (false, H')) : ∀ r, comesS f (l ++ r) H m = (false, H') := by
  induction l generalizing H with
  | nil => simp [comesS] at h
  | cons i l ih =>
    intro r
    simp only [List.cons_append, comesS] at h ⊢
    cases hf : f H i m with
    | mk b H2 =>
      rw [hf] at h
      cases b with
      | false => exact h
      | true => exact ih H2 h r

/-- How many ops one has not come to. -/
def unv (H : List Int) : Nat := (H.filter (fun z => decide (z = -1))).length

theorem unv_set : ∀ (H : List Int) (k : Nat) (z : Int), H.getD k 0 = -1 → z ≠ -1 → unv (H.set k z) + 1 = unv H
  | [], k, z, h, _ => by simp at h
  | y :: H, 0, z, h, hz => by
    simp at h
    subst h
    simp [unv, hz]
  | y :: H, k + 1, z, h, hz => by
    have ih := unv_set H k z (by simpa using h) hz
    simp only [unv, List.set_cons_succ, List.filter_cons] at ih ⊢
    split
    · simp only [List.length_cons]; omega
    · exact ih
end Go.Proofs.YtgdcecibfoganacDoor

namespace Go.Proofs.YtgdcecibfoganacDoor
open Go.RowKit

/-- Nothing old has turned. -/
abbrev Kept (w w' : World) : Prop := Below w.heap.size w w'
theorem Kept.refl (w : World) : Kept w w := Below.refl _ w
theorem Kept.trans {a b c : World} (h : Kept a b) (k : Kept b c) : Kept a c := Below.trans h (Below.mono k h.size)
theorem Kept.drew {a b : World} (h : Kept a b) : Kept a b.drew := Below.drew h
theorem Kept.alloc {a b : World} (h : Kept a b) (o : Obj) : Kept a (b.alloc o) := Below.alloc h h.size o
theorem Kept.setCell {a b : World} (h : Kept a b) {p : Addr} (hp : a.heap.size ≤ p.block) (u : Value) : Kept a (b.setCell p u) := Below.setCell h hp u

theorem Kept.drewN {a b : World} (h : Kept a b) (n : Nat) : Kept a (b.drewN n) := below_drewN h n

theorem cell_lt {w : World} {p : Addr} {v : Value} (h : w.cell? p = some v) : p.block < w.heap.size := by
  unfold World.cell? at h
  split at h
  · rename_i hb; exact (Array.getElem?_eq_some_iff.1 hb).1
  · cases h
theorem Kept.cell {w w' : World} (h : Kept w w') {p : Addr} {v : Value} (hc : w.cell? p = some v) : w'.cell? p = some v :=
  (Below.cell h (cell_lt hc)).trans hc

/-- A function of a program by its number. -/
theorem getD_of_lt {α : Type} (l : List α) (i : Nat) (d : α) (h : i < l.length) : l[i]? = some (l.getD i d) := by
  simp [List.getD, h]

theorem hide {p : Prop} (h : p) : Hid p := h
theorem unhide {p : Prop} (h : Hid p) : p := h

theorem lays_new {w : World} {o : Obj} {b : Nat} (h : w.heap.size = b) : (w.alloc o).heap[b]? = some o := by
  subst h
  show (w.heap.push o)[w.heap.size]? = _
  simp
theorem lays_alloc {w : World} {o : Obj} {b : Nat} (h : w.heap[b]? = some o) (o' : Obj) : (w.alloc o').heap[b]? = some o :=
  (Below.heap_alloc w o' b (Array.getElem?_eq_some_iff.1 h).1).trans h
theorem lays_kept {w w' : World} (k : Kept w w') {o : Obj} {b : Nat} (h : w.heap[b]? = some o) : w'.heap[b]? = some o :=
  (k.block b (Array.getElem?_eq_some_iff.1 h).1).trans h
theorem lays_drew {w : World} {o : Obj} {b : Nat} (h : w.heap[b]? = some o) : w.drew.heap[b]? = some o := h
theorem lays_other {w : World} {o : Obj} {b : Nat} (h : w.heap[b]? = some o) {a : Addr} (hn : b ≠ a.block) (u : Value) : (w.setCell a u).heap[b]? = some o :=
  (Below.heap_setCell w a u b hn).trans h
theorem cell_lays {w : World} {b : Nat} {c : Array Value} {t : TypeId} {fr : Nat × Nat} (h : w.heap[b]? = some (.cells c t fr)) (i : Nat) : w.cell? ⟨b, i, none⟩ = c[i]? := by
  simp [World.cell?, h]
theorem lays_set {w : World} {b : Nat} {c : Array Value} {t : TypeId} {fr : Nat × Nat} (h : w.heap[b]? = some (.cells c t fr)) (i : Nat) (u : Value) : (w.setCell ⟨b, i, none⟩ u).heap[b]? = some (.cells (c.setIfInBounds i u) t fr) := by
  simp [World.setCell, Array.getElem?_modify, h]
theorem frozen_lays {w : World} {b : Nat} {c : Array Value} {t : TypeId} (h : w.heap[b]? = some (.cells c t (0, 0))) (i : Nat) : w.frozen? ⟨b, i, none⟩ = false := by
  simp [World.frozen?, h]


/-- Nothing old has turned but block B. -/
structure KeptX (B : Nat) (w w' : World) : Prop where
  os : w'.os = w.os
  tape : w'.tape = w.tape
  output : w'.output = w.output
  size : w.heap.size ≤ w'.heap.size
  block : ∀ k, k < w.heap.size → k ≠ B → w'.heap[k]? = w.heap[k]?

theorem KeptX.of {B : Nat} {w w' : World} (h : Kept w w') : KeptX B w w' := ⟨h.os, h.tape, h.output, h.size, fun k hk _ => h.block k hk⟩
theorem KeptX.refl (B : Nat) (w : World) : KeptX B w w := .of (Kept.refl w)
theorem KeptX.trans {B : Nat} {a b c : World} (h : KeptX B a b) (k : KeptX B b c) : KeptX B a c :=
  ⟨k.os.trans h.os, k.tape.trans h.tape, k.output.trans h.output, Nat.le_trans h.size k.size, fun i hi hn => (k.block i (Nat.lt_of_lt_of_le hi h.size) hn).trans (h.block i hi hn)⟩
theorem KeptX.alloc {B : Nat} {a b : World} (h : KeptX B a b) (o : Obj) : KeptX B a (b.alloc o) := h.trans (.of ((Kept.refl _).alloc _))
theorem KeptX.drew {B : Nat} {a b : World} (h : KeptX B a b) : KeptX B a b.drew := h.trans (.of (Kept.refl _).drew)
theorem KeptX.setCell {B : Nat} {a b : World} (h : KeptX B a b) {p : Addr} (hp : p.block = B ∨ a.heap.size ≤ p.block) (u : Value) : KeptX B a (b.setCell p u) :=
  ⟨h.os, h.tape, h.output, by simpa [World.setCell] using h.size, fun k hk hn => (Below.heap_setCell _ _ _ _ (by omega)).trans (h.block k hk hn)⟩
theorem KeptX.kept {B : Nat} {w0 w w' : World} (h0 : Kept w0 w) (hB : w0.heap.size ≤ B) (h : KeptX B w w') : Kept w0 w' :=
  ⟨h.os.trans h0.os, h.tape.trans h0.tape, h.output.trans h0.output, Nat.le_trans h0.size h.size, fun k hk => (h.block k (Nat.lt_of_lt_of_le hk h0.size) (by omega)).trans (h0.block k hk)⟩
theorem KeptX.cell {B : Nat} {w w' : World} (h : KeptX B w w') {p : Addr} {v : Value} (hn : p.block ≠ B) (hc : w.cell? p = some v) : w'.cell? p = some v :=
  (World.cell?_of_block (w := w) (h.block p.block (cell_lt hc) hn)).trans hc
theorem KeptX.frozen {B : Nat} {w w' : World} (h : KeptX B w w') {p : Addr} (hp : p.block < w.heap.size) (hn : p.block ≠ B) : w'.frozen? p = w.frozen? p :=
  World.frozen?_of_block (w := w) (h.block p.block hp hn)
theorem KeptX.lays {B : Nat} {w w' : World} (h : KeptX B w w') {b : Nat} {o : Obj} (hn : b ≠ B) (hb : w.heap[b]? = some o) : w'.heap[b]? = some o :=
  (h.block b (Array.getElem?_eq_some_iff.1 hb).1 hn).trans hb

/-- A slice of integers that may be as long as one that is handed in. -/
def IntsW (w : World) (v : Value) (l : List Int) : Prop :=
  ∃ oa cap, v = .slice oa l.length cap ∧ l.length ≤ 17592186043904 ∧ ∀ i z, l[i]? = some z → ∃ b o, oa = some ⟨b, o, none⟩ ∧ w.cell? ⟨b, o + i, none⟩ = some (.int .i64 z)
theorem IntsW.kept {w w' : World} (h : Kept w w') {v : Value} {l : List Int} (hl : IntsW w v l) : IntsW w' v l := by
  obtain ⟨oa, cap, e, hn, hi⟩ := hl
  refine ⟨oa, cap, e, hn, fun i z hz => ?_⟩
  obtain ⟨b, o, e1, h1⟩ := hi i z hz
  exact ⟨b, o, e1, h.cell h1⟩
theorem IntsW.nil (w : World) : IntsW w (.slice none 0 0) [] := ⟨none, 0, rfl, by simp, fun i z h => by simp at h⟩
end Go.Proofs.YtgdcecibfoganacDoor

namespace Go.Proofs.YtgdcecibfoganacDoor
open Go.RowKit

/-- The ops of a function, a slice of pairs. -/
def CodeAt (w : World) (v : Value) (c : List (Int × Int)) : Prop :=
  ∃ oa cap, v = .slice oa c.length cap ∧ c.length ≤ 8796093022208 ∧ ∀ i x, c[i]? = some x → ∃ b o, oa = some ⟨b, o, none⟩ ∧
    w.cell? ⟨b, o + i * 2, none⟩ = some (.int .i64 x.1) ∧ w.cell? ⟨b, o + i * 2 + 1, none⟩ = some (.int .i64 x.2)

/-- A program, a slice of functions. -/
def ProgAt (w : World) (v : Value) (p : List Fn) : Prop :=
  ∃ oa cap, v = .slice oa p.length cap ∧ p.length ≤ 8796093022208 ∧ ∀ i f, p[i]? = some f → ∃ b o cv, oa = some ⟨b, o, none⟩ ∧
    w.cell? ⟨b, o + i * 3, none⟩ = some (.int .i64 f.args) ∧ w.cell? ⟨b, o + i * 3 + 1, none⟩ = some (.int .i64 f.locals) ∧
    w.cell? ⟨b, o + i * 3 + 2, none⟩ = some cv ∧ CodeAt w cv f.code

/-- The table of kinds, in its variable. -/
def KindsAt (w : World) : Prop := ∀ k, k < 51 → w.cell? ⟨0, k, none⟩ = some (.int .i64 (ktab.getD k 0))

theorem CodeAt.kept {w w' : World} (h : Kept w w') {v : Value} {c : List (Int × Int)} (hc : CodeAt w v c) : CodeAt w' v c := by
  obtain ⟨oa, cap, e, hl, hi⟩ := hc
  refine ⟨oa, cap, e, hl, fun i x hx => ?_⟩
  obtain ⟨b, o, e1, h1, h2⟩ := hi i x hx
  exact ⟨b, o, e1, h.cell h1, h.cell h2⟩
theorem ProgAt.kept {w w' : World} (h : Kept w w') {v : Value} {p : List Fn} (hp : ProgAt w v p) : ProgAt w' v p := by
  obtain ⟨oa, cap, e, hl, hi⟩ := hp
  refine ⟨oa, cap, e, hl, fun i f hf => ?_⟩
  obtain ⟨b, o, cv, e1, h1, h2, h3, h4⟩ := hi i f hf
  exact ⟨b, o, cv, e1, h.cell h1, h.cell h2, h.cell h3, h4.kept h⟩
theorem KindsAt.kept {w w' : World} (h : Kept w w') (hk : KindsAt w) : KindsAt w' := fun k hk' => h.cell (hk k hk')

theorem ProgAt.lt {w : World} {v : Value} {p : List Fn} (hp : ProgAt w v p) : p.length ≤ 8796093022208 := by
  obtain ⟨_, _, _, h, _⟩ := hp; exact h

end Go.Proofs.YtgdcecibfoganacDoor

namespace Go.Proofs.YtgdcecibfoganacDoor
open Go.RowKit

set_option maxHeartbeats 400000 in
theorem isIndex_any (i n : Int) (w : World) :
    Calls Tryd.prog 24 #[.int .i64 i, .int .i64 n] w fun e w' => e = .returned (.bool (ixB i n)) ∧ w = w' := by
  by_cases h1 : 0 ≤ i
  · by_cases h2 : i < n
    · rw [ixB_true h1 h2]
      go_enter Tryd.func24, Tryd.ntmps24
      go_wp2
      go_ret
      exact ⟨rfl, rfl⟩
    · rw [ixB_false (by omega)]
      go_enter Tryd.func24, Tryd.ntmps24
      go_wp2
      go_ret
      exact ⟨rfl, rfl⟩
  · rw [ixB_false (by omega)]
    go_enter Tryd.func24, Tryd.ntmps24
    go_wp2
    go_ret
    exact ⟨rfl, rfl⟩

set_option maxHeartbeats 400000 in
theorem within_any (i l n : Int) (w : World) :
    Calls Tryd.prog 27 #[.int .i64 i, .int .i64 l, .int .i64 n] w fun e w' => e = .returned (.bool (inB i l n)) ∧ w = w' := by
  by_cases h1 : l ≤ i
  · by_cases h2 : i ≤ n
    · rw [inB_true h1 h2]
      go_enter Tryd.func27, Tryd.ntmps27
      go_wp2
      go_ret
      exact ⟨rfl, rfl⟩
    · rw [inB_false (by omega)]
      go_enter Tryd.func27, Tryd.ntmps27
      go_wp2
      go_ret
      exact ⟨rfl, rfl⟩
  · rw [inB_false (by omega)]
    go_enter Tryd.func27, Tryd.ntmps27
    go_wp2
    go_ret
    exact ⟨rfl, rfl⟩

set_option maxHeartbeats 400000 in
theorem hasRoom_any (a l : Int) (c : Value) (w : World) :
    Calls Tryd.prog 47 #[.agg #[.int .i64 a, .int .i64 l, c]] w fun e w' => e = .returned (.bool (roomB a l)) ∧ w' = w.alloc (.cells #[.int .i64 a, .int .i64 l, c] 38) := by
  by_cases h1 : 0 ≤ a
  · by_cases h2 : a ≤ l
    · by_cases h3 : l ≤ 4
      · rw [show roomB a l = true from by rw [roomB_iff]; exact ⟨h1, h2, h3⟩]
        go_enter Tryd.func47, Tryd.ntmps47
        go_wp2
        go_ret
        exact ⟨rfl, rfl⟩
      · rw [show roomB a l = false from by rw [← Bool.not_eq_true, roomB_iff]; omega]
        go_enter Tryd.func47, Tryd.ntmps47
        go_wp2
        go_ret
        exact ⟨rfl, rfl⟩
    · rw [show roomB a l = false from by rw [← Bool.not_eq_true, roomB_iff]; omega]
      go_enter Tryd.func47, Tryd.ntmps47
      go_wp2
      go_ret
      exact ⟨rfl, rfl⟩
  · rw [show roomB a l = false from by rw [← Bool.not_eq_true, roomB_iff]; omega]
    go_enter Tryd.func47, Tryd.ntmps47
    go_wp2
    go_ret
    exact ⟨rfl, rfl⟩

end Go.Proofs.YtgdcecibfoganacDoor

namespace Go.Proofs.YtgdcecibfoganacDoor
open Go.RowKit

def flatOps (c : List (Int × Int)) : List Value := c.flatMap fun x => [.int .i64 x.1, .int .i64 x.2]
theorem flatOps_at : ∀ (c : List (Int × Int)) (i : Nat) (x : Int × Int), c[i]? = some x → (flatOps c)[i * 2]? = some (.int .i64 x.1) ∧ (flatOps c)[i * 2 + 1]? = some (.int .i64 x.2)
  | [], i, x, h => by simp at h
  | y :: c, 0, x, h => by simp at h; subst h; simp [flatOps]
  | y :: c, i + 1, x, h => by
    have := flatOps_at c i x (by simpa using h)
    have e : flatOps (y :: c) = .int .i64 y.1 :: .int .i64 y.2 :: flatOps c := by simp [flatOps]
    rw [e, show (i + 1) * 2 = i * 2 + 1 + 1 by omega]
    simpa using this

theorem codeAt_block {w : World} {b : Nat} {A : Array Value} {t : TypeId} {fr : Nat × Nat} (h : w.heap[b]? = some (.cells A t fr)) (c : List (Int × Int)) (hA : A = (flatOps c).toArray) (hl : c.length ≤ 8796093022208) (n cap : Nat) (hn : n = c.length) :
    CodeAt w (.slice (some ⟨b, 0, none⟩) n cap) c := by
  subst hn hA
  refine ⟨_, _, rfl, hl, fun i x hx => ⟨b, 0, rfl, ?_, ?_⟩⟩
  · rw [cell_lays h]; simpa using (flatOps_at c i x hx).1
  · rw [cell_lays h]; simpa using (flatOps_at c i x hx).2

def flatFns (l : List (Fn × Value)) : List Value := l.flatMap fun x => [.int .i64 x.1.args, .int .i64 x.1.locals, x.2]
theorem flatFns_at : ∀ (l : List (Fn × Value)) (i : Nat) (x : Fn × Value), l[i]? = some x → (flatFns l)[i * 3]? = some (.int .i64 x.1.args) ∧ (flatFns l)[i * 3 + 1]? = some (.int .i64 x.1.locals) ∧ (flatFns l)[i * 3 + 2]? = some x.2
  | [], i, x, h => by simp at h
  | y :: c, 0, x, h => by simp at h; subst h; simp [flatFns]
  | y :: c, i + 1, x, h => by
    have := flatFns_at c i x (by simpa using h)
    have e : flatFns (y :: c) = .int .i64 y.1.args :: .int .i64 y.1.locals :: y.2 :: flatFns c := by simp [flatFns]
    rw [e, show (i + 1) * 3 = i * 3 + 1 + 1 + 1 by omega]
    simpa using this

theorem progAt_block {w : World} {b : Nat} {A : Array Value} {t : TypeId} {fr : Nat × Nat} (h : w.heap[b]? = some (.cells A t fr)) (l : List (Fn × Value)) (hA : A = (flatFns l).toArray) (hl : l.length ≤ 8796093022208)
    (hc : ∀ x, x ∈ l → CodeAt w x.2 x.1.code) (n cap : Nat) (hn : n = l.length) (p : List Fn) (hp : p = l.map (·.1)) : ProgAt w (.slice (some ⟨b, 0, none⟩) n cap) p := by
  subst hn hA hp
  refine ⟨_, cap, by rw [List.length_map], by simpa using hl, fun i f hf => ?_⟩
  rw [List.getElem?_map, Option.map_eq_some_iff] at hf
  obtain ⟨x, hx, rfl⟩ := hf
  obtain ⟨h1, h2, h3⟩ := flatFns_at l i x hx
  refine ⟨b, 0, x.2, rfl, ?_, ?_, ?_, hc x (List.mem_of_getElem? hx)⟩
  · rw [cell_lays h]; simpa using h1
  · rw [cell_lays h]; simpa using h2
  · rw [cell_lays h]; simpa using h3

/-- The program of the statements' own count. -/
def cnt0 : List (Int × Int) := [(13, 1), (3, 0), (2, 0), (0, 7), (14, 0), (16, 0), (2, 0), (0, 0), (14, 0), (16, 0), (2, 0), (0, 0), (14, 0), (12, 0)]
def cnt1 : List (Int × Int) := [(2, 0), (15, 0), (1, 0), (2, 0), (0, 1), (11, 2), (15, 0), (1, 0), (0, 99), (12, 0), (0, 5), (9, 9)]
def cnt2 : List (Int × Int) := [(2, 0), (2, 1), (4, 0), (12, 0)]
def cntL : List Fn := [⟨0, 1, cnt0⟩, ⟨1, 1, cnt1⟩, ⟨2, 2, cnt2⟩]

def CountAt (n0 : Nat) (w : World) (v : Value) : Prop :=
  ∃ b0 b1 b2 b, n0 ≤ b0 ∧ b0 < b1 ∧ b1 < b2 ∧ b2 < b ∧ v = .slice (some ⟨b, 0, none⟩) 3 3 ∧ w.heap[b0]? = some (.cells (flatOps cnt0).toArray 42) ∧ w.heap[b1]? = some (.cells (flatOps cnt1).toArray 42) ∧
    w.heap[b2]? = some (.cells (flatOps cnt2).toArray 42) ∧
    w.heap[b]? = some (.cells #[.int .i64 0, .int .i64 1, .slice (some ⟨b0, 0, none⟩) 14 14, .int .i64 1, .int .i64 1, .slice (some ⟨b1, 0, none⟩) 12 12, .int .i64 2, .int .i64 2, .slice (some ⟨b2, 0, none⟩) 4 4] 38)

theorem CountAt.prog {n0 : Nat} {w : World} {v : Value} (h : CountAt n0 w v) : ProgAt w v cntL := by
  obtain ⟨b0, b1, b2, b, _, _, _, _, rfl, h0, h1, h2, h3⟩ := h
  refine progAt_block h3 [(⟨0, 1, cnt0⟩, .slice (some ⟨b0, 0, none⟩) 14 14), (⟨1, 1, cnt1⟩, .slice (some ⟨b1, 0, none⟩) 12 12), (⟨2, 2, cnt2⟩, .slice (some ⟨b2, 0, none⟩) 4 4)] rfl (by simp) ?_ 3 3 rfl cntL rfl
  intro x hx
  simp only [List.mem_cons, List.not_mem_nil, or_false] at hx
  rcases hx with rfl | rfl | rfl
  · exact codeAt_block h0 cnt0 rfl (by decide) 14 14 rfl
  · exact codeAt_block h1 cnt1 rfl (by decide) 12 12 rfl
  · exact codeAt_block h2 cnt2 rfl (by decide) 4 4 rfl

end Go.Proofs.YtgdcecibfoganacDoor
