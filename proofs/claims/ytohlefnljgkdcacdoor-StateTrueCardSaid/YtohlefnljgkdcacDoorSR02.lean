/- StateS, StateU, TrimS, StateLp, Fib, StateTq, Keep, Mem, Hide -/
import Derived.Test.YtohlefnljgkdcacDoorSR01
import Derived.WalkKit
import Derived.WalkSmall
import Derived.BigQuiet
namespace Go.Proofs.YtohlefnljgkdcacDoor
def hgt (p : List Fn) (k : Nat) : List Int := (heightsS p (codeOf p k)).getD []
def hAt (p : List Fn) (x : Fr) : Int := (hgt p x.fn.toNat).getD x.at_.toNat 0
def opAhead (p : List Fn) (x : Fr) : Int × Int := (codeOf p x.fn.toNat).getD (x.at_.toNat - 1) (0, 0)
def frameB (p : List Fn) (x : Fr) : Bool :=
  ixB x.fn p.length && (decide ((x.locals.length : Int) = (p.getD x.fn.toNat Fn.zero).locals) && (ixB x.at_ (codeOf p x.fn.toNat).length && decide (0 ≤ hAt p x)))
def waitB (p : List Fn) (x : Fr) (kd ofn : Int) : Bool :=
  (!decide (x.at_ = 0) && decide ((x.stack.length : Int) = hAt p x - 1)) && (decide ((opAhead p x).1 = kd) && (!decide (kd = 11) || decide ((opAhead p x).2 = ofn)))
def zerosB (l : List Int) : Bool := l.all fun z => decide (z = 0)
def freshB (p : List Fn) (b : Fb) : Bool :=
  match b.frames with
  | [x] => (decide (x.at_ = 0) && (decide ((p.getD x.fn.toNat Fn.zero).args = 1) && decide (x.stack.length = 0))) && zerosB x.locals
  | _ => false
def framesB (p : List Fn) : List Fr → Bool
  | [] => true
  | [x] => frameB p x
  | x :: y :: r => frameB p x && (ixB y.fn p.length && waitB p x 11 y.fn) && framesB p (y :: r)
def fiberB (p : List Fn) (b : Fb) (on runs : Bool) : Bool :=
  match b.frames.getLast? with
  | none => !on && decide (b.caller = -1)
  | some t => framesB p b.frames &&
      (if runs = true then decide ((t.stack.length : Int) = hAt p t)
       else if on = true then waitB p t 14 0
       else decide (b.caller = -1) && (freshB p b || waitB p t 15 0))
def callerOf (fs : List Fb) (n : Int) : Int := (fs.getD n.toNat Fb.zero).caller
def lineF (fs : List Fb) : Nat → Int → List Int → Option (List Int)
  | 0, _, _ => none
  | k + 1, n, acc => if n < 0 then some acc else if n ∈ acc then none else lineF fs k (callerOf fs n) (acc ++ [n])
def lineS (s : St) : Option (List Int) :=
  match lineF s.fibers (s.fibers.length + 1) s.now [] with
  | none => none
  | some l => if l = [] ∨ l.getLast? = some 0 then some l else none
def limS (s : St) : Int :=
  if s.fibers.length ≤ 5 ∧ s.out.length ≤ 30 then
    if (s.fibers.all fun b => decide (b.frames.length ≤ 6)) = true then
      if 0 < s.fibers.length then
        if inB s.now (-1) (s.fibers.length - 1) = true then
          if (s.fibers.all fun b => inB b.caller (-1) (s.fibers.length - 1)) = true then 0 else 3
        else 3
      else 5
    else 2
  else 2
def formR (p : List Fn) (s : St) : Bool :=
  match lineS s with
  | none => false
  | some l => !(decide (s.now = -1) && !(s.fibers.getD 0 Fb.zero).frames.isEmpty) &&
      (List.range s.fibers.length).all fun k => fiberB p (s.fibers.getD k Fb.zero) (decide ((k : Int) ∈ l)) (decide ((k : Int) = s.now)) && !(decide (k = 0) && (!decide ((0 : Int) ∈ l) && !(s.fibers.getD 0 Fb.zero).frames.isEmpty))
def stErrS (p : List Fn) (s : St) : Int :=
  if progS p = 0 then (if limS s = 0 then (if formR p s = true then 0 else 1) else limS s) else progS p
def jwaitB (p : List Fn) (x : Fr) (op : Int × Int) : Bool :=
  (decide (0 < x.at_) && decide ((x.stack.length : Int) = hAt p x - 1)) && decide (opAhead p x = op)
def jwaitsB (p : List Fn) : List Fr → Bool
  | x :: y :: r => jwaitB p x (11, y.fn) && jwaitsB p (y :: r)
  | _ => true
def jlineF (fs : List Fb) : Nat → Int → List Bool → Option (List Bool)
  | 0, _, _ => none
  | k + 1, n, B => if n = -1 then some B else if B.getD n.toNat false = true ∨ (decide (callerOf fs n = -1)) ≠ (decide (n = 0)) then none else jlineF fs k (callerOf fs n) (B.set n.toNat true)
def jlineS (s : St) : Option (List Bool) :=
  match jlineF s.fibers (s.fibers.length + 1) s.now (List.replicate s.fibers.length false) with
  | none => none
  | some B => if ((List.range s.fibers.length).all fun k => B.getD k false || decide ((s.fibers.getD k Fb.zero).caller = -1)) = true then some B else none
def jfiberB (p : List Fn) (s : St) (n : Nat) (on : Bool) : Bool :=
  match (s.fibers.getD n Fb.zero).frames.getLast? with
  | none => !on
  | some t => (on || !decide (n = 0)) && ((!on && freshB p (s.fibers.getD n Fb.zero)) || (jwaitsB p (s.fibers.getD n Fb.zero).frames &&
      (if (n : Int) = s.now then decide ((t.stack.length : Int) = hAt p t) else if on = true then jwaitB p t (14, 0) else jwaitB p t (15, 0))))
def formJ (p : List Fn) (s : St) : Bool :=
  (s.fibers.all fun b => b.frames.all (frameB p)) &&
  match jlineS s with
  | none => false
  | some B => (List.range s.fibers.length).all fun n => jfiberB p s n (B.getD n false)
def judgeS (p : List Fn) (s : St) : Int := if limS s = 0 then (if formJ p s = true then 0 else 1) else limS s
end Go.Proofs.YtohlefnljgkdcacDoor
namespace Go.Proofs.YtohlefnljgkdcacDoor
theorem sub_len {l S : List Int} (hn : l.Nodup) (hs : ∀ x, x ∈ l → x ∈ S) : l.length ≤ S.length := by
 induction l generalizing S with
 | nil => simp
 | cons x r ih =>
  rw [List.nodup_cons] at hn
  have hx := hs x (List.mem_cons_self)
  have := ih (S := S.erase x) hn.2 (fun y hy => (List.mem_erase_of_ne (by rintro rfl; exact hn.1 hy)).2 (hs y (List.mem_cons_of_mem _ hy)))
  rw [List.length_erase_of_mem hx] at this
  have hp := List.length_pos_of_mem hx
  simp
  omega
theorem few {l : List Int} {n : Nat} (hn : l.Nodup) (hs : ∀ x, x ∈ l → 0 ≤ x ∧ x < n) : l.length ≤ n := by
 have := sub_len (S := (List.range n).map fun (k : Nat) => (k : Int)) hn (fun x hx => by
  have := hs x hx
  exact List.mem_map.2 ⟨x.toNat, by simp; omega, by omega⟩)
 simpa using this
theorem framesB_iff (p : List Fn) : ∀ l : List Fr, framesB p l = true ↔ (l.all (frameB p) = true ∧ jwaitsB p l = true)
 | [] => by simp [framesB, jwaitsB]
 | [x] => by simp [framesB, jwaitsB]
 | x :: y :: r => by
  have ih := framesB_iff p (y :: r)
  have hw : frameB p x = true → (waitB p x 11 y.fn = true ↔ jwaitB p x (11, y.fn) = true) := by
   intro hx
   simp only [frameB, Bool.and_eq_true, ixB_iff, decide_eq_true_eq] at hx
   simp only [waitB, jwaitB, Bool.and_eq_true, Bool.or_eq_true, Bool.not_eq_true', decide_eq_true_eq, decide_eq_false_iff_not, Prod.ext_iff]
   have : (¬ x.at_ = 0) ↔ 0 < x.at_ := by omega
   rw [this]
   simp
  simp only [framesB, jwaitsB, Bool.and_eq_true, ih, List.all_cons]
  constructor
  ·rintro ⟨⟨h1, _, h3⟩, h4, h5⟩
   exact ⟨⟨h1, by simpa using h4⟩, (hw h1).1 h3, h5⟩
  ·rintro ⟨⟨h1, h2⟩, h3, h4⟩
   refine ⟨⟨h1, ?_, (hw h1).2 h3⟩, by simpa using h2, h4⟩
   have := h2.1
   simp only [frameB, Bool.and_eq_true] at this
   exact this.1
def Marks (n : Nat) (B : List Bool) (l : List Int) : Prop := B.length = n ∧ ∀ i : Nat, i < n → B.getD i false = decide ((i : Int) ∈ l)
theorem Marks.set {n : Nat} {B : List Bool} {l : List Int} (h : Marks n B l) {z : Int} (h0 : 0 ≤ z) (_hz : z < n) : Marks n (B.set z.toNat true) (l ++ [z]) := by
 refine ⟨by simp [h.1], fun i hi => ?_⟩
 have := h.2 i hi
 by_cases e : z.toNat = i
 ·subst e
  simp [List.getD, h.1, hi]
  right; omega
 ·have hne : ¬ ((i : Int) = z) := by omega
  simp [List.getD, e, hne] at this ⊢
  rw [this]
theorem line_last (fs : List Fb) : ∀ (k : Nat) (n : Int) (acc acc' : List Int), 0 ≤ n → lineF fs k n acc = some acc' → ∃ z, acc'.getLast? = some z ∧ z ∉ acc
 | 0, _, _, _, _, h => by cases h
 | k + 1, n, acc, acc', h0, h => by
  unfold lineF at h
  rw [if_neg (by omega)] at h
  split at h
  ·cases h
  ·rename_i hna
   by_cases hc : callerOf fs n < 0
   ·cases k with
    | zero => cases h
    | succ k =>
     unfold lineF at h
     rw [if_pos hc] at h
     cases h
     exact ⟨n, by simp, hna⟩
   ·obtain ⟨z, h1, h2⟩ := line_last fs k _ _ _ (by omega) h
    exact ⟨z, h1, fun hm => h2 (List.mem_append_left _ hm)⟩
theorem jline_line {fs : List Fb} (hc : ∀ b, b ∈ fs → -1 ≤ b.caller ∧ b.caller < fs.length) : ∀ (k : Nat) (n : Int) (acc : List Int) (B B' : List Bool), -1 ≤ n → n < fs.length → Marks fs.length B acc → jlineF fs k n B = some B' →
  ∃ acc', lineF fs k n acc = some acc' ∧ Marks fs.length B' acc' ∧ (n = -1 → acc' = acc) ∧ (n ≠ -1 → acc'.getLast? = some 0)
 | 0, _, _, _, _, _, _, _, h => by cases h
 | k + 1, n, acc, B, B', h0, hn, hm, h => by
  unfold jlineF at h
  unfold lineF
  by_cases hz : n = -1
  ·rw [if_pos hz] at h
   cases h
   rw [if_pos (by omega)]
   exact ⟨acc, rfl, hm, fun _ => rfl, fun h => absurd hz h⟩
  ·rw [if_neg hz] at h
   split at h
   ·cases h
   ·rename_i hno
    rw [not_or] at hno
    obtain ⟨hb, hq⟩ := hno
    have hq : decide (callerOf fs n = -1) = decide (n = 0) := by
     rcases Decidable.em (decide (callerOf fs n = -1) = decide (n = 0)) with h | h
     ·exact h
     ·exact absurd h hq
    have hna : n ∉ acc := by
     have := hm.2 n.toNat (by omega)
     rw [show ((n.toNat : Nat) : Int) = n by omega] at this
     intro hin
     rw [this, decide_eq_true hin] at hb
     exact hb rfl
    rw [if_neg (by omega), if_neg hna]
    have hcr : -1 ≤ callerOf fs n ∧ callerOf fs n < fs.length := by
     have hx := getD_of_lt fs n.toNat Fb.zero (by omega)
     exact hc _ (List.mem_of_getElem? hx)
    obtain ⟨acc', h1, h2, h3, h4⟩ := jline_line hc k _ _ _ _ hcr.1 hcr.2 (hm.set (by omega) hn) h
    refine ⟨acc', h1, h2, fun h => absurd h hz, fun _ => ?_⟩
    by_cases hcz : callerOf fs n = -1
    ·rw [h3 hcz]
     simp only [hcz, decide_true] at hq
     have : n = 0 := by simpa using hq.symm
     simp [this]
    ·exact h4 hcz
theorem line_jline {fs : List Fb} (hc : ∀ b, b ∈ fs → -1 ≤ b.caller ∧ b.caller < fs.length) : ∀ (k : Nat) (n : Int) (acc acc' : List Int) (B : List Bool), -1 ≤ n → n < fs.length → Marks fs.length B acc → lineF fs k n acc = some acc' → (n ≠ -1 → acc'.getLast? = some 0) →
  ∃ B', jlineF fs k n B = some B' ∧ Marks fs.length B' acc'
 | 0, _, _, _, _, _, _, _, h, _ => by cases h
 | k + 1, n, acc, acc', B, h0, hn, hm, h, hl => by
  unfold lineF at h
  unfold jlineF
  by_cases hz : n = -1
  ·rw [if_pos (by omega)] at h
   cases h
   exact ⟨B, by rw [if_pos hz], hm⟩
  ·rw [if_neg (by omega)] at h
   split at h
   ·cases h
   ·rename_i hna
    have hcr : -1 ≤ callerOf fs n ∧ callerOf fs n < fs.length := by
     have hx := getD_of_lt fs n.toNat Fb.zero (by omega)
     exact hc _ (List.mem_of_getElem? hx)
    have hb : B.getD n.toNat false = false := by
     have := hm.2 n.toNat (by omega)
     rw [show ((n.toNat : Nat) : Int) = n by omega] at this
     rw [this, decide_eq_false hna]
    have hl0 := hl hz
    have hq : decide (callerOf fs n = -1) = decide (n = 0) := by
     rw [decide_eq_decide]
     by_cases hcz : callerOf fs n = -1
     ·cases k with
      | zero => cases h
      | succ k =>
       unfold lineF at h
       rw [if_pos (by omega)] at h
       cases h
       simp at hl0
       subst hl0
       simp [hcz]
     ·obtain ⟨z, h1, h2⟩ := line_last fs k _ _ _ (by omega) h
      rw [hl0] at h1
      cases h1
      simp only [List.mem_append, List.mem_singleton, not_or] at h2
      constructor
      ·intro h; exact absurd h hcz
      ·intro h; exact absurd h.symm h2.2
    obtain ⟨B', h1, h2⟩ := line_jline hc k _ _ _ _ hcr.1 hcr.2 (hm.set (by omega) hn) h (fun _ => hl0)
    refine ⟨B', ?_, h2⟩
    rw [if_neg hz, if_neg]
    ·exact h1
    ·rw [hb, hq]; simp
theorem line_mem (fs : List Fb) : ∀ (k : Nat) (n : Int) (acc acc' : List Int), lineF fs k n acc = some acc' → (∀ z, z ∈ acc → z ∈ acc') ∧ (0 ≤ n → n ∈ acc') ∧ (n < 0 → acc' = acc)
 | 0, _, _, _, h => by cases h
 | k + 1, n, acc, acc', h => by
  unfold lineF at h
  split at h
  ·cases h; exact ⟨fun _ h => h, fun _ => by omega, fun _ => rfl⟩
  ·split at h
   ·cases h
   ·have ih := line_mem fs k _ _ _ h
    exact ⟨fun z hz => ih.1 z (List.mem_append_left _ hz), fun _ => ih.1 n (by simp), fun _ => by omega⟩
theorem limS_zero {s : St} (h : limS s = 0) : s.fibers.length ≤ 5 ∧ s.out.length ≤ 30 ∧ (∀ b, b ∈ s.fibers → b.frames.length ≤ 6) ∧ 0 < s.fibers.length ∧ (-1 ≤ s.now ∧ s.now < s.fibers.length) ∧ ∀ b, b ∈ s.fibers → -1 ≤ b.caller ∧ b.caller < s.fibers.length := by
 unfold limS at h
 split at h
 ·rename_i h1
  split at h
  ·rename_i h2
   split at h
   ·rename_i h3
    split at h
    ·rename_i h4
     split at h
     ·rename_i h5
      rw [inB_iff] at h4
      simp only [List.all_eq_true, inB_iff, decide_eq_true_eq] at h2 h5
      exact ⟨h1.1, h1.2, h2, h3, ⟨h4.1, by omega⟩, fun b hb => ⟨(h5 b hb).1, by have := (h5 b hb).2; omega⟩⟩
     ·cases h
    ·cases h
   ·cases h
  ·cases h
 ·cases h
def Bare (p : List Fn) : Prop := ∀ (k i : Nat) (x : Int × Int), (codeOf p k)[i]? = some x → x.1 = 14 ∨ x.1 = 15 → x.2 = 0
theorem wait_jwait {p : List Fn} (hb : Bare p) {x : Fr} (hx : frameB p x = true) {kd : Int} (hk : kd = 14 ∨ kd = 15) : waitB p x kd 0 = jwaitB p x (kd, 0) := by
 rw [Bool.eq_iff_iff]
 simp only [frameB, Bool.and_eq_true, ixB_iff, decide_eq_true_eq] at hx
 simp only [waitB, jwaitB, Bool.and_eq_true, Bool.or_eq_true, Bool.not_eq_true', decide_eq_true_eq, decide_eq_false_iff_not, Prod.ext_iff]
 have h1 : (¬ x.at_ = 0) ↔ 0 < x.at_ := by omega
 have h2 : ¬ kd = 11 := by omega
 rw [h1]
 constructor
 ·rintro ⟨h3, h4, _⟩
  refine ⟨h3, h4, ?_⟩
  have hlt : x.at_.toNat - 1 < (codeOf p x.fn.toNat).length := by omega
  have := hb x.fn.toNat (x.at_.toNat - 1) (opAhead p x) (by unfold opAhead; rw [getD_of_lt _ _ (0, 0) hlt]) (by rw [h4]; exact hk)
  exact this
 ·rintro ⟨h3, h4, _⟩
  exact ⟨h3, h4, .inl h2⟩
theorem all_getD {α : Type} {l : List α} {P : α → Bool} {d : α} (h : l.all P = true) {k : Nat} (hk : k < l.length) : P (l.getD k d) = true := by
 rw [List.all_eq_true] at h
 exact h _ (List.mem_of_getElem? (getD_of_lt l k d hk))
theorem all_range {n : Nat} {P : Nat → Bool} : (List.range n).all P = true ↔ ∀ k, k < n → P k = true := by
 simp [List.all_eq_true]
theorem freshB_one {p : List Fn} {b : Fb} (h : freshB p b = true) : jwaitsB p b.frames = true ∧ ∃ x, b.frames = [x] := by
 unfold freshB at h
 split at h
 ·rename_i x e; rw [e]; exact ⟨rfl, x, rfl⟩
 ·cases h
theorem fiber_same {p : List Fn} (hb : Bare p) {s : St} {k : Nat} {on : Bool} (hrun : (k : Int) = s.now → on = true) :
  (fiberB p (s.fibers.getD k Fb.zero) on (decide ((k : Int) = s.now)) = true ∧ ¬ (k = 0 ∧ on = false ∧ (s.fibers.getD 0 Fb.zero).frames.isEmpty = false)) ↔
  ((s.fibers.getD k Fb.zero).frames.all (frameB p) = true ∧ (on || decide ((s.fibers.getD k Fb.zero).caller = -1)) = true ∧ jfiberB p s k on = true) := by
 have h0 : k = 0 → s.fibers.getD 0 Fb.zero = s.fibers.getD k Fb.zero := by rintro rfl; rfl
 by_cases hk0 : k = 0
 ·rw [h0 hk0]
  generalize hbe : s.fibers.getD k Fb.zero = b at *
  unfold fiberB jfiberB
  rw [hbe]
  cases hl : b.frames.getLast? with
  | none =>
   have : b.frames = [] := by simpa using hl
   simp only [this, List.all_nil, List.isEmpty_nil]
   cases on <;> simp
  | some t =>
   have hne : b.frames.isEmpty = false := by
    cases hf : b.frames with
    | nil => rw [hf] at hl; cases hl
    | cons _ _ => rfl
   have ht : t ∈ b.frames := by
    rw [List.getLast?_eq_some_iff] at hl
    obtain ⟨ys, hy⟩ := hl
    rw [hy]; simp
   cases on with
   | false => simp [hk0, hne]
   | true =>
    simp only [Bool.and_eq_true, framesB_iff]
    by_cases hr : (k : Int) = s.now
    ·simp only [hr, decide_true, if_true]
     simp [and_assoc]
    ·simp only [hr, decide_false, if_false]
     simp
     constructor
     ·rintro ⟨⟨h1, h2⟩, h3⟩
      have := wait_jwait hb (h1 t ht) (.inl rfl)
      exact ⟨h1, h2, by rw [← this]; exact h3⟩
     ·rintro ⟨h1, h2, h3⟩
      have := wait_jwait hb (h1 t ht) (.inl rfl)
      exact ⟨⟨h1, h2⟩, by rw [this]; exact h3⟩
 ·generalize hbe : s.fibers.getD k Fb.zero = b at *
  unfold fiberB jfiberB
  rw [hbe]
  cases hl : b.frames.getLast? with
  | none =>
   have : b.frames = [] := by simpa using hl
   simp only [this, List.all_nil]
   cases on <;> simp [hk0]
  | some t =>
   have ht : t ∈ b.frames := by
    rw [List.getLast?_eq_some_iff] at hl
    obtain ⟨ys, hy⟩ := hl
    rw [hy]; simp
   simp only [Bool.and_eq_true, framesB_iff]
   cases on with
   | true =>
    by_cases hr : (k : Int) = s.now
    ·simp only [hr, decide_true, if_true]
     simp [hk0, and_assoc]
    ·simp only [hr, decide_false, if_false]
     simp [hk0]
     constructor
     ·rintro ⟨⟨h1, h2⟩, h3⟩
      have := wait_jwait hb (h1 t ht) (.inl rfl)
      exact ⟨h1, h2, by rw [← this]; exact h3⟩
     ·rintro ⟨h1, h2, h3⟩
      have := wait_jwait hb (h1 t ht) (.inl rfl)
      exact ⟨⟨h1, h2⟩, by rw [this]; exact h3⟩
   | false =>
    have hr : ¬ (k : Int) = s.now := fun h => by have := hrun h; cases this
    simp only [hr, decide_false, if_false]
    simp [hk0]
    constructor
    ·rintro ⟨⟨h1, h2⟩, h3, h4⟩
     have := wait_jwait hb (h1 t ht) (.inr rfl)
     refine ⟨h1, h3, ?_⟩
     rcases h4 with h4 | h4
     ·exact .inl h4
     ·exact .inr ⟨h2, by rw [← this]; exact h4⟩
    ·rintro ⟨h1, h3, h4⟩
     have := wait_jwait hb (h1 t ht) (.inr rfl)
     rcases h4 with h4 | h4
     ·exact ⟨⟨h1, (freshB_one h4).1⟩, h3, .inl h4⟩
     ·exact ⟨⟨h1, h4.1⟩, h3, .inr (by rw [this]; exact h4.2)⟩
theorem form_same {p : List Fn} (hb : Bare p) {s : St} (hlim : limS s = 0) : formJ p s = formR p s := by
 obtain ⟨hf5, ho, hfr, hpos, hnow, hcal⟩ := limS_zero hlim
 have hm0 : Marks s.fibers.length (List.replicate s.fibers.length false) [] := ⟨by simp, fun i hi => by simp [List.getD, hi]⟩
 rw [Bool.eq_iff_iff]
 constructor
 ·intro h
  simp only [formJ, Bool.and_eq_true] at h
  obtain ⟨hall, h⟩ := h
  unfold jlineS at h
  cases hj : jlineF s.fibers (s.fibers.length + 1) s.now (List.replicate s.fibers.length false) with
  | none => rw [hj] at h; cases h
  | some B =>
   rw [hj] at h
   simp only at h
   by_cases hcl : ((List.range s.fibers.length).all fun k => B.getD k false || decide ((s.fibers.getD k Fb.zero).caller = -1)) = true
   ·rw [if_pos hcl] at h
    simp only at h
    obtain ⟨l, h1, h2, h3, h4⟩ := jline_line hcal _ _ _ _ _ hnow.1 hnow.2 hm0 hj
    have hmem := line_mem _ _ _ _ _ h1
    have hls : lineS s = some l := by
     unfold lineS
     rw [h1]
     simp only
     rw [if_pos]
     by_cases hz : s.now = -1
     ·exact .inl (h3 hz)
     ·exact .inr (h4 hz)
    have hk : ∀ k, k < s.fibers.length → (fiberB p (s.fibers.getD k Fb.zero) (decide ((k : Int) ∈ l)) (decide ((k : Int) = s.now)) = true ∧ ¬ (k = 0 ∧ decide ((k : Int) ∈ l) = false ∧ (s.fibers.getD 0 Fb.zero).frames.isEmpty = false)) := by
     intro k hk
     rw [all_range] at h hcl
     have e := h2.2 k hk
     have := h k hk
     have hc := hcl k hk
     rw [e] at this hc
     exact (fiber_same hb (fun hn => decide_eq_true (by rw [hn]; exact hmem.2.1 (by omega)))).2 ⟨all_getD hall hk, hc, this⟩
    unfold formR
    rw [hls]
    simp only [Bool.and_eq_true]
    refine ⟨?_, all_range.2 fun k hk' => ?_⟩
    ·have := (hk 0 hpos).2
     by_cases hz : s.now = -1
     ·have : l = [] := h3 hz
      subst this
      simp at this ⊢
      exact .inr this
     ·simp [hz]
    ·obtain ⟨h5, h6⟩ := hk k hk'
     rw [Bool.and_eq_true]
     refine ⟨h5, ?_⟩
     by_cases hk0 : k = 0
     ·subst hk0
      simp at h6 ⊢
      by_cases h7 : (0 : Int) ∈ l
      ·exact .inl h7
      ·exact .inr (h6 h7)
     ·simp [hk0]
   ·rw [if_neg hcl] at h; cases h
 ·intro h
  unfold formR at h
  cases hls : lineS s with
  | none => rw [hls] at h; cases h
  | some l =>
   rw [hls] at h
   simp only [Bool.and_eq_true] at h
   obtain ⟨_, h⟩ := h
   unfold lineS at hls
   cases hl : lineF s.fibers (s.fibers.length + 1) s.now [] with
   | none => rw [hl] at hls; cases hls
   | some l' =>
    rw [hl] at hls
    simp only at hls
    split at hls
    ·rename_i hlast
     cases hls
     have hmem := line_mem _ _ _ _ _ hl
     obtain ⟨B, h1, h2⟩ := line_jline hcal _ _ _ _ _ hnow.1 hnow.2 hm0 hl (fun hz => by
      rcases hlast with rfl | h
      ·have := hmem.2.1 (by omega); simp at this
      ·exact h)
     have hk : ∀ k, k < s.fibers.length → ((s.fibers.getD k Fb.zero).frames.all (frameB p) = true ∧ (decide ((k : Int) ∈ l) || decide ((s.fibers.getD k Fb.zero).caller = -1)) = true ∧ jfiberB p s k (decide ((k : Int) ∈ l)) = true) := by
      intro k hk
      have := all_range.1 h k hk
      rw [Bool.and_eq_true] at this
      refine (fiber_same hb (fun hn => decide_eq_true (by rw [hn]; exact hmem.2.1 (by omega)))).1 ⟨this.1, ?_⟩
      rintro ⟨rfl, h5, h6⟩
      have h7 := this.2
      have h8 : (0 : Int) ∉ l := by simpa using h5
      rw [h6] at h7
      simp [h8] at h7
     unfold formJ
     rw [Bool.and_eq_true]
     refine ⟨?_, ?_⟩
     ·rw [List.all_eq_true]
      intro b hbm
      obtain ⟨i, hi, rfl⟩ := List.getElem_of_mem hbm
      have := (hk i hi).1
      simpa [List.getD, hi] using this
     ·unfold jlineS
      rw [h1]
      simp only
      rw [if_pos]
      ·simp only
       exact all_range.2 fun k hk' => by rw [h2.2 k hk']; exact (hk k hk').2.2
      ·exact all_range.2 fun k hk' => by rw [h2.2 k hk']; exact (hk k hk').2.1
    ·cases hls
theorem judge_same {p : List Fn} (hb : Bare p) (s : St) : judgeS p s = if limS s = 0 then (if formR p s = true then 0 else 1) else limS s := by
 unfold judgeS
 by_cases h : limS s = 0
 ·rw [if_pos h, if_pos h, form_same hb h]
 ·rw [if_neg h, if_neg h]
end Go.Proofs.YtohlefnljgkdcacDoor
namespace Go.Proofs.YtohlefnljgkdcacDoor
def Alike (p q : List Fn) : Prop := q.length = p.length ∧ ∀ k, (q.getD k Fn.zero).args = (p.getD k Fn.zero).args ∧ (q.getD k Fn.zero).locals = (p.getD k Fn.zero).locals
theorem Alike.eff {p q : List Fn} (h : Alike p q) (kd a : Int) : effS q kd a = effS p kd a := by
  unfold effS
  rw [h.1, (h.2 a.toNat).1]
theorem Alike.beh {p q : List Fn} (h : Alike p q) (x : Int × Int) (z : Int) : beh q x z = beh p x z := by
  unfold Proofs.YtohlefnljgkdcacDoor.beh
  rw [h.eff]
def hgtL (p : List Fn) (k : Nat) : List Int := (heightsS p (codeOf p k)).getD []
theorem progS_heights {p : List Fn} (h : progS p = 0) {k : Nat} (hk : k < p.length) : heightsS p (codeOf p k) = some (hgtL p k) := by
  unfold progS at h
  split at h
  · cases h
  · split at h
    · cases h
    · split at h
      · cases h
      · split at h
        · have := firstS_zero h k (by omega) (by omega)
          unfold hgtE at this
          unfold hgtL
          split at this
          · rename_i H hH; rw [hH]; rfl
          · cases this
        · rename_i h0; exact absurd h h0
end Go.Proofs.YtohlefnljgkdcacDoor
namespace Go.Proofs.YtohlefnljgkdcacDoor
theorem right_code {p : List Fn} (h : progS p = 0) {k : Nat} (hk : k < p.length) : Right p (codeOf p k) := by
  obtain ⟨_, _, hck⟩ := progS_right h
  obtain ⟨_, _, hops⟩ := chkS_ops (hck k hk)
  exact ⟨p.getD k Fn.zero, rfl, fun x hx => opsS_all hops x hx⟩
theorem cons_code {p : List Fn} (h : progS p = 0) {k : Nat} (hk : k < p.length) : Cons p (codeOf p k) (hgt p k) ∧ Sound p (codeOf p k) (hgt p k) :=
  heightsS_ok (right_code h hk) (progS_heights h hk)
theorem hgt_le {p : List Fn} (h : progS p = 0) {k : Nat} (hk : k < p.length) (a : Nat) : -1 ≤ (hgt p k).getD a 0 ∧ (hgt p k).getD a 0 ≤ 8 := by
  by_cases ha : a < (hgt p k).length
  · obtain ⟨hc, hs⟩ := cons_code h hk
    rcases hs a (by rw [← hc.len]; exact ha) with e | ⟨h0, hr⟩
    · omega
    · have := hr (fun _ z => z ≤ 8) (by omega) (fun k' z x m j _ hx hm _ => (beh_nonneg (right_code h hk) (List.mem_of_getElem? hx) hm).2)
      exact ⟨by omega, this⟩
  · simp [List.getD, List.getElem?_eq_none (by omega : (hgt p k).length ≤ a)]
theorem bare_of {p : List Fn} (h : progS p = 0) : Bare p := by
  intro k i x hx hk
  by_cases hkl : k < p.length
  · obtain ⟨_, _, hck⟩ := progS_right h
    obtain ⟨_, _, hops⟩ := chkS_ops (hck k hkl)
    obtain ⟨_, _, hm⟩ := opS_kind (opsS_all hops x (List.mem_of_getElem? hx))
    have ho : opd x.1.toNat = 0 := by rcases hk with e | e <;> rw [e] <;> rfl
    rw [ho] at hm
    simpa [mayB] using hm
  · have : codeOf p k = [] := by
      unfold codeOf
      simp [List.getD, List.getElem?_eq_none (by omega : p.length ≤ k), Fn.zero]
    rw [this] at hx
    simp at hx
end Go.Proofs.YtohlefnljgkdcacDoor
namespace Go.Proofs.YtohlefnljgkdcacDoor
def fibAt (s : St) (i : Nat) : Fb := s.fibers.getD i Fb.zero
def frAt (s : St) (i j : Nat) : Fr := (fibAt s i).frames.getD j Fr.zero
theorem getD_set_self {α : Type} (l : List α) (i : Nat) (x d : α) (h : i < l.length) : (l.set i x).getD i d = x := by simp [List.getD, h]
theorem getD_set_ne {α : Type} (l : List α) (i j : Nat) (x d : α) (h : i ≠ j) : (l.set i x).getD j d = l.getD j d := by simp [List.getD, h]
def setFib (s : St) (i : Nat) (b : Fb) : St := { s with fibers := s.fibers.set i b }
theorem fibAt_same {s : St} {i : Nat} (b : Fb) (h : i < s.fibers.length) : fibAt (setFib s i b) i = b := getD_set_self _ _ _ _ h
theorem fibAt_ne {s : St} {i j : Nat} (b : Fb) (h : i ≠ j) : fibAt (setFib s i b) j = fibAt s j := getD_set_ne _ _ _ _ _ h
theorem setFib_len (s : St) (i : Nat) (b : Fb) : (setFib s i b).fibers.length = s.fibers.length := by simp [setFib]
def setFr (s : St) (i j : Nat) (f : Fr) : St := setFib s i { fibAt s i with frames := (fibAt s i).frames.set j f }
theorem frAt_same {s : St} {i j : Nat} (f : Fr) (hi : i < s.fibers.length) (hj : j < (fibAt s i).frames.length) : frAt (setFr s i j f) i j = f := by
  unfold frAt setFr; rw [fibAt_same _ hi]; exact getD_set_self _ _ _ _ hj
theorem frAt_ne {s : St} {i j i' j' : Nat} (f : Fr) (hi : i < s.fibers.length) (h : ¬ (i = i' ∧ j = j')) : frAt (setFr s i j f) i' j' = frAt s i' j' := by
  unfold frAt setFr
  by_cases e : i = i'
  · subst e
    rw [fibAt_same _ hi]
    exact getD_set_ne _ _ _ _ _ (fun e => h ⟨rfl, e⟩)
  · rw [fibAt_ne _ e]
theorem setFr_frames {s : St} {i j : Nat} (f : Fr) (hi : i < s.fibers.length) (t : Nat) : (fibAt (setFr s i j f) t).frames.length = (fibAt s t).frames.length := by
  unfold setFr
  by_cases e : i = t
  · subst e; rw [fibAt_same _ hi]; simp
  · rw [fibAt_ne _ e]
theorem setFr_caller {s : St} {i j : Nat} (f : Fr) (hi : i < s.fibers.length) (t : Nat) : (fibAt (setFr s i j f) t).caller = (fibAt s t).caller := by
  unfold setFr
  by_cases e : i = t
  · subst e; rw [fibAt_same _ hi]
  · rw [fibAt_ne _ e]
def Small (s : St) : Prop := s.fibers.length ≤ 1000 ∧ s.out.length ≤ 1000 ∧ ∀ b, b ∈ s.fibers → b.frames.length ≤ 1000 ∧ ∀ f, f ∈ b.frames → f.locals.length ≤ 1000 ∧ f.stack.length ≤ 1000
end Go.Proofs.YtohlefnljgkdcacDoor
namespace Go.Proofs.YtohlefnljgkdcacDoor
theorem right_parts {p : List Fn} {s : St} (h : stErrS p s = 0) : progS p = 0 ∧ limS s = 0 ∧ formR p s = true := by
  unfold stErrS at h
  split at h
  · rename_i h1
    split at h
    · rename_i h2
      split at h
      · rename_i h3; exact ⟨h1, h2, h3⟩
      · cases h
    · rename_i h2; exact absurd h h2
  · rename_i h1; exact absurd h h1
theorem right_fiber {p : List Fn} {s : St} (h : stErrS p s = 0) : ∃ l, lineS s = some l ∧ ∀ k, k < s.fibers.length → fiberB p (fibAt s k) (decide ((k : Int) ∈ l)) (decide ((k : Int) = s.now)) = true := by
  obtain ⟨_, _, h3⟩ := right_parts h
  unfold formR at h3
  cases hl : lineS s with
  | none => rw [hl] at h3; cases h3
  | some l =>
    rw [hl] at h3
    simp only [Bool.and_eq_true] at h3
    refine ⟨l, rfl, fun k hk => ?_⟩
    have := all_range.1 h3.2 k hk
    simp only [Bool.and_eq_true] at this
    exact this.1
theorem jwaits_at {p : List Fn} : ∀ (l : List Fr) (j : Nat), jwaitsB p l = true → j + 1 < l.length → ((l.getD j Fr.zero).stack.length : Int) = hAt p (l.getD j Fr.zero) - 1
  | [], j, _, hj => by simp at hj
  | [x], j, _, hj => by simp at hj
  | x :: y :: r, 0, h, _ => by
    simp only [jwaitsB, Bool.and_eq_true] at h
    obtain ⟨h1, _⟩ := h
    unfold jwaitB at h1
    simp only [Bool.and_eq_true, decide_eq_true_eq] at h1
    exact h1.1.2
  | x :: y :: r, j + 1, h, hj => by
    simp only [jwaitsB, Bool.and_eq_true] at h
    exact jwaits_at (y :: r) j h.2 (by simpa using hj)
theorem frame_parts {p : List Fn} {x : Fr} (h : frameB p x = true) : (0 ≤ x.fn ∧ x.fn < p.length) ∧ (x.locals.length : Int) = (p.getD x.fn.toNat Fn.zero).locals ∧ (0 ≤ x.at_ ∧ x.at_ < (codeOf p x.fn.toNat).length) ∧ 0 ≤ hAt p x := by
  unfold frameB at h
  simp only [Bool.and_eq_true, decide_eq_true_eq] at h
  obtain ⟨h1, h2, h3, h4⟩ := h
  exact ⟨ixB_iff.1 h1, h2, ixB_iff.1 h3, h4⟩
theorem right_frame {p : List Fn} {s : St} (h : stErrS p s = 0) {k j : Nat} (hk : k < s.fibers.length) (hj : j < (fibAt s k).frames.length) :
    frameB p (frAt s k j) = true ∧ (frAt s k j).stack.length ≤ 8 := by
  obtain ⟨hp, _, _⟩ := right_parts h
  obtain ⟨l, _, hf⟩ := right_fiber h
  have hfk := hf k hk
  unfold fiberB at hfk
  cases hlast : (fibAt s k).frames.getLast? with
  | none =>
    have := List.getLast?_eq_none_iff.1 hlast
    rw [this] at hj
    simp at hj
  | some t =>
    rw [hlast] at hfk
    simp only [Bool.and_eq_true] at hfk
    obtain ⟨hfr, hcond⟩ := hfk
    obtain ⟨hall, hjw⟩ := (framesB_iff p _).1 hfr
    have hfj : frameB p (frAt s k j) = true := all_getD hall hj
    refine ⟨hfj, ?_⟩
    obtain ⟨⟨q1, q2⟩, _, _, q3⟩ := frame_parts hfj
    have hle := (hgt_le hp (k := (frAt s k j).fn.toNat) (by omega) (frAt s k j).at_.toNat).2
    have hle' : hAt p (frAt s k j) ≤ 8 := hle
    by_cases hjl : j + 1 < (fibAt s k).frames.length
    · have := jwaits_at _ j hjw hjl
      have h2 : ((frAt s k j).stack.length : Int) = hAt p (frAt s k j) - 1 := this
      omega
    · have ht : t = frAt s k j := by
        rw [List.getLast?_eq_getElem?] at hlast
        have hj2 : j = (fibAt s k).frames.length - 1 := by omega
        unfold frAt
        rw [hj2]
        simp [List.getD, hlast]
      subst ht
      split at hcond
      · have := of_decide_eq_true hcond; omega
      · split at hcond
        · unfold waitB at hcond
          simp only [Bool.and_eq_true, decide_eq_true_eq] at hcond
          have := hcond.1.2
          omega
        · simp only [Bool.and_eq_true, Bool.or_eq_true] at hcond
          rcases hcond.2 with h1 | h1
          · unfold freshB at h1
            split at h1
            · rename_i x hx
              simp only [Bool.and_eq_true, decide_eq_true_eq] at h1
              have : frAt s k j = x := by unfold frAt; rw [hx] at hj ⊢; simp at hj; rw [hj]; rfl
              rw [this, h1.1.2.2]
              omega
            · cases h1
          · unfold waitB at h1
            simp only [Bool.and_eq_true, decide_eq_true_eq] at h1
            have := h1.1.2
            omega
theorem right_top {p : List Fn} {s : St} (h : stErrS p s = 0) {k : Nat} (hk : k < s.fibers.length) (hn : (k : Int) = s.now) :
    0 < (fibAt s k).frames.length ∧ ∃ kd a, (codeOf p (frAt s k ((fibAt s k).frames.length - 1)).fn.toNat).getD (frAt s k ((fibAt s k).frames.length - 1)).at_.toNat (0, 0) = (kd, a) ∧ (effS p kd a).2.2 = 0 ∧ (effS p kd a).1 ≤ (frAt s k ((fibAt s k).frames.length - 1)).stack.length := by
  obtain ⟨hp, _, _⟩ := right_parts h
  obtain ⟨l, hl, hf⟩ := right_fiber h
  have hfk := hf k hk
  have hon : (k : Int) ∈ l := by
    unfold lineS at hl
    cases hlf : lineF s.fibers (s.fibers.length + 1) s.now [] with
    | none => rw [hlf] at hl; cases hl
    | some l' =>
      rw [hlf] at hl
      simp only at hl
      split at hl
      · obtain rfl := Option.some.inj hl
        rw [hn]
        exact (line_mem _ _ _ _ _ hlf).2.1 (by omega)
      · cases hl
  unfold fiberB at hfk
  cases hlast : (fibAt s k).frames.getLast? with
  | none => rw [hlast] at hfk; simp [hon] at hfk
  | some t =>
    rw [hlast] at hfk
    simp only [Bool.and_eq_true] at hfk
    obtain ⟨_, hcond⟩ := hfk
    have hpos : 0 < (fibAt s k).frames.length := by
      cases hfr : (fibAt s k).frames with
      | nil => rw [hfr] at hlast; cases hlast
      | cons => simp
    have ht : t = frAt s k ((fibAt s k).frames.length - 1) := by
      rw [List.getLast?_eq_getElem?] at hlast
      unfold frAt
      simp [List.getD, hlast]
    rw [ht] at hcond
    rw [if_pos (decide_eq_true hn)] at hcond
    have hst := of_decide_eq_true hcond
    obtain ⟨hfj, _⟩ := right_frame h hk (j := (fibAt s k).frames.length - 1) (by omega)
    obtain ⟨⟨q1, q2⟩, _, ⟨q4, q5⟩, q3⟩ := frame_parts hfj
    generalize frAt s k ((fibAt s k).frames.length - 1) = x at *
    obtain ⟨y, m, hy, hbeh, _⟩ := (cons_code hp (k := x.fn.toNat) (by omega)).1.done x.at_.toNat (by omega) (by
      have : (hgt p x.fn.toNat).getD x.at_.toNat 0 = hAt p x := rfl
      rw [this]; omega)
    have hg : (codeOf p x.fn.toNat).getD x.at_.toNat (0, 0) = y := by simp [List.getD, hy]
    refine ⟨hpos, y.1, y.2, by rw [hg], ?_⟩
    unfold beh at hbeh
    split at hbeh
    · rename_i hh
      have : (hgt p x.fn.toNat).getD x.at_.toNat 0 = hAt p x := rfl
      rw [this] at hh
      exact ⟨hh.1, by rw [hst]; exact hh.2.1⟩
    · cases hbeh
end Go.Proofs.YtohlefnljgkdcacDoor
namespace Go.Proofs.YtohlefnljgkdcacDoor
open Go.RowKit
abbrev Kept (w w' : World) : Prop := Below w.heap.size w w'
theorem Kept.refl (w : World) : Kept w w := Below.refl _ w
theorem Kept.trans {a b c : World} (h : Kept a b) (k : Kept b c) : Kept a c := Below.trans h (Below.mono k h.size)
theorem Kept.drew {a b : World} (h : Kept a b) : Kept a b.drew := Below.drew h
theorem Kept.alloc {a b : World} (h : Kept a b) (o : Obj) : Kept a (b.alloc o) := Below.alloc h h.size o
theorem Kept.setCell {a b : World} (h : Kept a b) {p : Addr} (hp : a.heap.size ≤ p.block) (u : Value) : Kept a (b.setCell p u) := Below.setCell h hp u
theorem Kept.drewN {a b : World} (h : Kept a b) (n : Nat) : Kept a (b.drewN n) := below_drewN h n
theorem cell_lt {w : World} {p : Addr} {v : Value} (h : w.cell? p = some v) : p.block < w.heap.size := by
  unfold World.cell? at h
  split at h
  · rename_i hb; exact (Array.getElem?_eq_some_iff.1 hb).1
  · cases h
theorem Kept.cell {w w' : World} (h : Kept w w') {p : Addr} {v : Value} (hc : w.cell? p = some v) : w'.cell? p = some v :=
  (Below.cell h (cell_lt hc)).trans hc
theorem hide {p : Prop} (h : p) : Hid p := h
theorem unhide {p : Prop} (h : Hid p) : p := h
theorem lays_new {w : World} {o : Obj} {b : Nat} (h : w.heap.size = b) : (w.alloc o).heap[b]? = some o := by
  subst h
  show (w.heap.push o)[w.heap.size]? = _
  simp
theorem lays_alloc {w : World} {o : Obj} {b : Nat} (h : w.heap[b]? = some o) (o' : Obj) : (w.alloc o').heap[b]? = some o :=
  (Below.heap_alloc w o' b (Array.getElem?_eq_some_iff.1 h).1).trans h
theorem lays_kept {w w' : World} (k : Kept w w') {o : Obj} {b : Nat} (h : w.heap[b]? = some o) : w'.heap[b]? = some o :=
  (k.block b (Array.getElem?_eq_some_iff.1 h).1).trans h
theorem lays_drew {w : World} {o : Obj} {b : Nat} (h : w.heap[b]? = some o) : w.drew.heap[b]? = some o := h
theorem lays_other {w : World} {o : Obj} {b : Nat} (h : w.heap[b]? = some o) {a : Addr} (hn : b ≠ a.block) (u : Value) : (w.setCell a u).heap[b]? = some o :=
  (Below.heap_setCell w a u b hn).trans h
theorem cell_lays {w : World} {b : Nat} {c : Array Value} {t : TypeId} {fr : Nat × Nat} (h : w.heap[b]? = some (.cells c t fr)) (i : Nat) : w.cell? ⟨b, i, none⟩ = c[i]? := by
  simp [World.cell?, h]
theorem lays_set {w : World} {b : Nat} {c : Array Value} {t : TypeId} {fr : Nat × Nat} (h : w.heap[b]? = some (.cells c t fr)) (i : Nat) (u : Value) : (w.setCell ⟨b, i, none⟩ u).heap[b]? = some (.cells (c.setIfInBounds i u) t fr) := by
  simp [World.setCell, Array.getElem?_modify, h]
theorem frozen_lays {w : World} {b : Nat} {c : Array Value} {t : TypeId} (h : w.heap[b]? = some (.cells c t (0, 0))) (i : Nat) : w.frozen? ⟨b, i, none⟩ = false := by
  simp [World.frozen?, h]
structure KeptX (B : Nat) (w w' : World) : Prop where
  os : w'.os = w.os
  tape : w'.tape = w.tape
  output : w'.output = w.output
  size : w.heap.size ≤ w'.heap.size
  block : ∀ k, k < w.heap.size → k ≠ B → w'.heap[k]? = w.heap[k]?
theorem KeptX.of {B : Nat} {w w' : World} (h : Kept w w') : KeptX B w w' := ⟨h.os, h.tape, h.output, h.size, fun k hk _ => h.block k hk⟩
theorem KeptX.refl (B : Nat) (w : World) : KeptX B w w := .of (Kept.refl w)
theorem KeptX.trans {B : Nat} {a b c : World} (h : KeptX B a b) (k : KeptX B b c) : KeptX B a c :=
  ⟨k.os.trans h.os, k.tape.trans h.tape, k.output.trans h.output, Nat.le_trans h.size k.size, fun i hi hn => (k.block i (Nat.lt_of_lt_of_le hi h.size) hn).trans (h.block i hi hn)⟩
theorem KeptX.alloc {B : Nat} {a b : World} (h : KeptX B a b) (o : Obj) : KeptX B a (b.alloc o) := h.trans (.of ((Kept.refl _).alloc _))
theorem KeptX.drew {B : Nat} {a b : World} (h : KeptX B a b) : KeptX B a b.drew := h.trans (.of (Kept.refl _).drew)
theorem KeptX.setCell {B : Nat} {a b : World} (h : KeptX B a b) {p : Addr} (hp : p.block = B ∨ a.heap.size ≤ p.block) (u : Value) : KeptX B a (b.setCell p u) :=
  ⟨h.os, h.tape, h.output, by simpa [World.setCell] using h.size, fun k hk hn => (Below.heap_setCell _ _ _ _ (by omega)).trans (h.block k hk hn)⟩
theorem KeptX.kept {B : Nat} {w0 w w' : World} (h0 : Kept w0 w) (hB : w0.heap.size ≤ B) (h : KeptX B w w') : Kept w0 w' :=
  ⟨h.os.trans h0.os, h.tape.trans h0.tape, h.output.trans h0.output, Nat.le_trans h0.size h.size, fun k hk => (h.block k (Nat.lt_of_lt_of_le hk h0.size) (by omega)).trans (h0.block k hk)⟩
theorem KeptX.cell {B : Nat} {w w' : World} (h : KeptX B w w') {p : Addr} {v : Value} (hn : p.block ≠ B) (hc : w.cell? p = some v) : w'.cell? p = some v :=
  (World.cell?_of_block (w := w) (h.block p.block (cell_lt hc) hn)).trans hc
theorem KeptX.frozen {B : Nat} {w w' : World} (h : KeptX B w w') {p : Addr} (hp : p.block < w.heap.size) (hn : p.block ≠ B) : w'.frozen? p = w.frozen? p :=
  World.frozen?_of_block (w := w) (h.block p.block hp hn)
theorem KeptX.lays {B : Nat} {w w' : World} (h : KeptX B w w') {b : Nat} {o : Obj} (hn : b ≠ B) (hb : w.heap[b]? = some o) : w'.heap[b]? = some o :=
  (h.block b (Array.getElem?_eq_some_iff.1 hb).1 hn).trans hb
def IntsW (w : World) (v : Value) (l : List Int) : Prop :=
  ∃ oa cap, v = .slice oa l.length cap ∧ l.length ≤ 17592186043904 ∧ ∀ i z, l[i]? = some z → ∃ b o, oa = some ⟨b, o, none⟩ ∧ w.cell? ⟨b, o + i, none⟩ = some (.int .i64 z)
theorem IntsW.kept {w w' : World} (h : Kept w w') {v : Value} {l : List Int} (hl : IntsW w v l) : IntsW w' v l := by
  obtain ⟨oa, cap, e, hn, hi⟩ := hl
  refine ⟨oa, cap, e, hn, fun i z hz => ?_⟩
  obtain ⟨b, o, e1, h1⟩ := hi i z hz
  exact ⟨b, o, e1, h.cell h1⟩
theorem IntsW.nil (w : World) : IntsW w (.slice none 0 0) [] := ⟨none, 0, rfl, by simp, fun i z h => by simp at h⟩
end Go.Proofs.YtohlefnljgkdcacDoor
namespace Go.Proofs.YtohlefnljgkdcacDoor
open Go.RowKit
def CodeAt (w : World) (v : Value) (c : List (Int × Int)) : Prop :=
  ∃ oa cap, v = .slice oa c.length cap ∧ c.length ≤ 8796093022208 ∧ ∀ i x, c[i]? = some x → ∃ b o, oa = some ⟨b, o, none⟩ ∧
    w.cell? ⟨b, o + i * 2, none⟩ = some (.int .i64 x.1) ∧ w.cell? ⟨b, o + i * 2 + 1, none⟩ = some (.int .i64 x.2)
def ProgAt (w : World) (v : Value) (p : List Fn) : Prop :=
  ∃ oa cap, v = .slice oa p.length cap ∧ p.length ≤ 8796093022208 ∧ ∀ i f, p[i]? = some f → ∃ b o cv, oa = some ⟨b, o, none⟩ ∧
    w.cell? ⟨b, o + i * 3, none⟩ = some (.int .i64 f.args) ∧ w.cell? ⟨b, o + i * 3 + 1, none⟩ = some (.int .i64 f.locals) ∧
    w.cell? ⟨b, o + i * 3 + 2, none⟩ = some cv ∧ CodeAt w cv f.code
def KindsAt (w : World) : Prop := ∀ k, k < 51 → w.cell? ⟨0, k, none⟩ = some (.int .i64 (ktab.getD k 0))
theorem CodeAt.kept {w w' : World} (h : Kept w w') {v : Value} {c : List (Int × Int)} (hc : CodeAt w v c) : CodeAt w' v c := by
  obtain ⟨oa, cap, e, hl, hi⟩ := hc
  refine ⟨oa, cap, e, hl, fun i x hx => ?_⟩
  obtain ⟨b, o, e1, h1, h2⟩ := hi i x hx
  exact ⟨b, o, e1, h.cell h1, h.cell h2⟩
theorem ProgAt.kept {w w' : World} (h : Kept w w') {v : Value} {p : List Fn} (hp : ProgAt w v p) : ProgAt w' v p := by
  obtain ⟨oa, cap, e, hl, hi⟩ := hp
  refine ⟨oa, cap, e, hl, fun i f hf => ?_⟩
  obtain ⟨b, o, cv, e1, h1, h2, h3, h4⟩ := hi i f hf
  exact ⟨b, o, cv, e1, h.cell h1, h.cell h2, h.cell h3, h4.kept h⟩
theorem KindsAt.kept {w w' : World} (h : Kept w w') (hk : KindsAt w) : KindsAt w' := fun k hk' => h.cell (hk k hk')
theorem ProgAt.lt {w : World} {v : Value} {p : List Fn} (hp : ProgAt w v p) : p.length ≤ 8796093022208 := by
  obtain ⟨_, _, _, h, _⟩ := hp; exact h
theorem cell_set_ne {w : World} {b i B j : Nat} {v : Value} (h : w.cell? ⟨b, i, none⟩ = some v) (hne : b ≠ B) (u : Value) : (w.setCell ⟨B, j, none⟩ u).cell? ⟨b, i, none⟩ = some v := by
  rw [World.cell?_of_block (w := w)]
  · exact h
  · exact Below.heap_setCell w _ _ _ hne
end Go.Proofs.YtohlefnljgkdcacDoor
namespace Go.Proofs.YtohlefnljgkdcacDoor
open Go.RowKit
end Go.Proofs.YtohlefnljgkdcacDoor
