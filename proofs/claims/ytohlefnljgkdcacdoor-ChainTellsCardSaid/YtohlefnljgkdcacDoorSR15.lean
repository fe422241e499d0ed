/- OkP, DoAt, OwnT, StepA, StepB -/
import Derived.Test.YtohlefnljgkdcacDoorSR14
import Derived.Test.YtohlefnljgkdcacDoorSR02
import Derived.StillTailTactics
namespace Go.Proofs.YtohlefnljgkdcacDoor
theorem top_frAt (s : St) (i : Nat) : (fibAt s i).top = frAt s i ((fibAt s i).frames.length - 1) := by
  unfold Fb.top frAt
  rw [List.getLast?_eq_getElem?]
  simp [List.getD]
theorem turnTop_setFr (s : St) (i : Nat) (g : Fr → Fr) : s.turnTop (i : Int) g = setFr s i ((fibAt s i).frames.length - 1) (g (frAt s i ((fibAt s i).frames.length - 1))) := by
  unfold St.turnTop St.turn Fb.turnTop setFr setFib St.fib
  rw [Int.toNat_natCast]
  show _ = { s with fibers := _ }
  rw [← top_frAt s i]
  rfl
structure Runs (s : St) (i : Nat) : Prop where
  lt : i < s.fibers.length
  fr : 0 < (fibAt s i).frames.length
  frs : (fibAt s i).frames.length ≤ 1000
  st : (frAt s i ((fibAt s i).frames.length - 1)).stack.length ≤ 1000
theorem fib_fibAt (s : St) (i : Nat) : s.fib (i : Int) = fibAt s i := by unfold St.fib fibAt; rw [Int.toNat_natCast]
theorem turn_setFib (s : St) (i : Nat) (g : Fb → Fb) : s.turn (i : Int) g = setFib s i (g (fibAt s i)) := by
  unfold St.turn; rw [fib_fibAt, Int.toNat_natCast]; rfl
theorem pullV_setFr {s : St} {i : Nat} (hn : s.now = i) : pullV s = setFr s i ((fibAt s i).frames.length - 1) { frAt s i ((fibAt s i).frames.length - 1) with stack := (frAt s i ((fibAt s i).frames.length - 1)).stack.dropLast } := by
  unfold pullV
  rw [hn, turnTop_setFr]
theorem setFr_other {s : St} {i j k : Nat} (f : Fr) (h : i ≠ k) : fibAt (setFr s i j f) k = fibAt s k := fibAt_ne _ h
theorem Runs.other {s s' : St} {k : Nat} (h : Runs s k) (hl : s'.fibers.length = s.fibers.length) (hf : fibAt s' k = fibAt s k) : Runs s' k := by
  have hfr : ∀ j, frAt s' k j = frAt s k j := fun j => by unfold frAt; rw [hf]
  exact ⟨by rw [hl]; exact h.lt, by rw [hf]; exact h.fr, by rw [hf]; exact h.frs, by rw [hfr, hf]; exact h.st⟩
def nextS (s : St) (i ai : Nat) : St := setFr s i ((fibAt s i).frames.length - 1) { frAt s i ((fibAt s i).frames.length - 1) with at_ := (ai : Int) + 1 }
theorem setAt_setFr {s : St} {i : Nat} (hn : s.now = i) (a : Int) : setAt s a = setFr s i ((fibAt s i).frames.length - 1) { frAt s i ((fibAt s i).frames.length - 1) with at_ := a } := by
  unfold setAt
  rw [hn, turnTop_setFr]
theorem top_at {s : St} {i : Nat} (hn : s.now = i) : s.top = frAt s i ((fibAt s i).frames.length - 1) := by
  unfold St.top St.fib
  rw [hn, Int.toNat_natCast, show s.fibers.getD i Fb.zero = fibAt s i from rfl, top_frAt]
theorem next_facts {s : St} {i : Nat} (hn : s.now = i) (hr : Runs s i) (ai : Nat) :
    (nextS s i ai).now = i ∧ (nextS s i ai).fibers.length = s.fibers.length ∧ (nextS s i ai).out = s.out ∧ (∀ k, (fibAt (nextS s i ai) k).caller = (fibAt s k).caller) ∧ (∀ k, (fibAt (nextS s i ai) k).frames.length = (fibAt s k).frames.length) ∧
    frAt (nextS s i ai) i ((fibAt s i).frames.length - 1) = { frAt s i ((fibAt s i).frames.length - 1) with at_ := (ai : Int) + 1 } ∧ (∀ k, k ≠ i → fibAt (nextS s i ai) k = fibAt s k) ∧ Runs (nextS s i ai) i := by
  have hj : (fibAt s i).frames.length - 1 < (fibAt s i).frames.length := by have := hr.fr; omega
  have h6 : frAt (nextS s i ai) i ((fibAt s i).frames.length - 1) = { frAt s i ((fibAt s i).frames.length - 1) with at_ := (ai : Int) + 1 } := frAt_same _ hr.lt hj
  have h5 : ∀ k, (fibAt (nextS s i ai) k).frames.length = (fibAt s k).frames.length := fun k => setFr_frames _ hr.lt k
  have h2 : (nextS s i ai).fibers.length = s.fibers.length := setFib_len _ _ _
  refine ⟨hn, h2, rfl, fun k => setFr_caller _ hr.lt k, h5, h6, fun k hk => setFr_other _ (fun e => hk e.symm), ⟨by rw [h2]; exact hr.lt, by rw [h5]; exact hr.fr, by rw [h5]; exact hr.frs, ?_⟩⟩
  rw [h5, h6]
  exact hr.st
theorem next_other {s : St} {i : Nat} (ai k : Nat) (hk : k ≠ i) (h : Runs s k) : Runs (nextS s i ai) k :=
  h.other (setFib_len _ _ _) (setFr_other _ (fun e => hk e.symm))
theorem next_fr {s : St} {i : Nat} (hr : Runs s i) (ai t q : Nat) : (frAt (nextS s i ai) t q).stack = (frAt s t q).stack ∧ (frAt (nextS s i ai) t q).locals = (frAt s t q).locals ∧ (frAt (nextS s i ai) t q).fn = (frAt s t q).fn := by
  have hj : (fibAt s i).frames.length - 1 < (fibAt s i).frames.length := by have := hr.fr; omega
  unfold nextS
  by_cases e : i = t ∧ (fibAt s i).frames.length - 1 = q
  · obtain ⟨rfl, rfl⟩ := e
    rw [frAt_same _ hr.lt hj]
    exact ⟨rfl, rfl, rfl⟩
  · rw [frAt_ne _ hr.lt e]
    exact ⟨rfl, rfl, rfl⟩
theorem doneS_at {p : List Fn} {s : St} {i fi ai : Nat} {kd a : Int} (hn : s.now = i) (hf : (frAt s i ((fibAt s i).frames.length - 1)).fn = fi) (ha : (frAt s i ((fibAt s i).frames.length - 1)).at_ = ai) (hx : (codeOf p fi).getD ai (0, 0) = (kd, a)) :
    doneS p s = (if kd = 0 then (pushV (nextS s i ai) i a, 0)
      else if kd = 1 then (pullV (nextS s i ai), 0)
      else if kd = 2 then (pushV (nextS s i ai) i ((nextS s i ai).top.locals.getD a.toNat 0), 0)
      else if kd = 3 then ((pullV (nextS s i ai)).turnTop i fun f => { f with locals := f.locals.set a.toNat (lastV (nextS s i ai)) }, 0)
      else if kd = 9 then (setAt (nextS s i ai) a, 0)
      else if kd = 10 then (if lastV (nextS s i ai) = 0 then setAt (pullV (nextS s i ai)) a else pullV (nextS s i ai), 0)
      else if kd = 11 then calledS p (nextS s i ai) a
      else if kd = 12 then givenS (nextS s i ai)
      else if kd = 13 then madeS p (nextS s i ai) a
      else if kd = 14 then resumedS (nextS s i ai)
      else if kd = 15 then yieldedS (nextS s i ai)
      else if kd = 16 then putS (pullV (nextS s i ai)) (lastV (nextS s i ai))
      else (pushV (pullV (pullV (nextS s i ai))) i (reckonS kd (lastV (pullV (nextS s i ai))) (lastV (nextS s i ai))), 0)) := by
  unfold doneS
  have ht := top_at hn
  have hs : setAt s (s.top.at_ + 1) = nextS s i ai := by rw [setAt_setFr hn, ht, ha]; rfl
  have hnow : (nextS s i ai).now = i := hn
  simp only []
  rw [hs, ht, hf, ha, Int.toNat_natCast, Int.toNat_natCast, hx, hnow]
def needN (kd : Int) : Nat := if kd = 0 ∨ kd = 2 ∨ kd = 9 ∨ kd = 11 ∨ kd = 13 then 0 else if kd = 1 ∨ kd = 3 ∨ kd = 10 ∨ kd = 12 ∨ kd = 15 ∨ kd = 16 then 1 else 2
def opAt (p : List Fn) (f : Fr) : Int × Int := (codeOf p f.fn.toNat).getD f.at_.toNat (0, 0)
def needS (p : List Fn) (f : Fr) : Prop :=
  needN (opAt p f).1 ≤ f.stack.length ∧
  ((opAt p f).1 = 2 ∨ (opAt p f).1 = 3 → 0 ≤ (opAt p f).2 ∧ (opAt p f).2.toNat < f.locals.length) ∧
  ((opAt p f).1 = 11 → 0 ≤ (opAt p f).2 ∧ (opAt p f).2.toNat < p.length ∧ 0 ≤ (p.getD (opAt p f).2.toNat Fn.zero).args ∧ (p.getD (opAt p f).2.toNat Fn.zero).args ≤ (p.getD (opAt p f).2.toNat Fn.zero).locals ∧ (p.getD (opAt p f).2.toNat Fn.zero).locals ≤ 1000 ∧ (p.getD (opAt p f).2.toNat Fn.zero).args.toNat ≤ f.stack.length) ∧
  ((opAt p f).1 = 13 → 0 ≤ (opAt p f).2 ∧ (opAt p f).2.toNat < p.length ∧ 0 ≤ (p.getD (opAt p f).2.toNat Fn.zero).locals ∧ (p.getD (opAt p f).2.toNat Fn.zero).locals ≤ 1000)
def OkS (p : List Fn) (s : St) : Prop :=
  (0 ≤ s.now ∧ s.now.toNat < s.fibers.length ∧ s.fibers.length ≤ 5 ∧ s.out.length ≤ 30) ∧
  (∀ b ∈ s.fibers, (b.frames.length ≤ 6 ∧ -1 ≤ b.caller ∧ b.caller < s.fibers.length) ∧ ∀ f ∈ b.frames, f.locals.length ≤ 1000 ∧ f.stack.length ≤ 1000) ∧
  0 < (fibAt s s.now.toNat).frames.length ∧
  (0 ≤ (fibAt s s.now.toNat).caller → (fibAt s s.now.toNat).caller ≠ s.now ∧ 0 < (fibAt s (fibAt s s.now.toNat).caller.toNat).frames.length) ∧
  ((lineS s).isSome = true ∧ s.now ∈ (lineS s).getD []) ∧
  (∀ k, k < s.fibers.length → (k : Int) ∉ (lineS s).getD [] → 0 < (fibAt s k).frames.length → (frAt s k ((fibAt s k).frames.length - 1)).at_ = 0 → 0 < (frAt s k ((fibAt s k).frames.length - 1)).locals.length) ∧
  (0 ≤ s.top.fn ∧ s.top.fn.toNat < p.length ∧ 0 ≤ s.top.at_ ∧ s.top.at_.toNat < (codeOf p s.top.fn.toNat).length ∧ (codeOf p s.top.fn.toNat).length ≤ 1000) ∧ needS p s.top
theorem top_mem {s : St} (i : Nat) (hi : i < s.fibers.length) : fibAt s i ∈ s.fibers := by
  have : fibAt s i = s.fibers[i] := by simp [fibAt, List.getD, hi]
  rw [this]; exact List.getElem_mem hi
theorem fr_mem {s : St} (i j : Nat) (hj : j < (fibAt s i).frames.length) : frAt s i j ∈ (fibAt s i).frames := by
  have : frAt s i j = (fibAt s i).frames[j] := by simp [frAt, List.getD, hj]
  rw [this]; exact List.getElem_mem hj
theorem put_err (s : St) (v : Int) (h : (putS s v).2 ≠ 0) : (putS s v).1 = St.zero := by
  unfold putS at h ⊢
  split
  · rfl
  · rename_i hh; rw [if_neg hh] at h; exact absurd rfl h
theorem given_err (s : St) (h : (givenS s).2 ≠ 0) : (givenS s).1 = St.zero := by
  unfold givenS at h ⊢
  simp only at h ⊢
  split
  · rename_i h1
    rw [if_pos h1] at h
    split
    · rename_i h2
      rw [if_pos h2] at h
      exact put_err _ _ h
    · rename_i h2
      rw [if_neg h2] at h
      exact absurd rfl h
  · rename_i h1
    rw [if_neg h1] at h
    exact absurd rfl h
theorem resumed_err (s : St) (h : (resumedS s).2 ≠ 0) : (resumedS s).1 = St.zero := by
  unfold resumedS at h ⊢
  simp only at h ⊢
  split
  · rename_i h1
    rw [if_pos h1] at h
    split
    · rfl
    · rename_i h2
      rw [if_neg h2] at h
      split
      · rename_i h3; rw [if_pos h3] at h; exact absurd rfl h
      · rename_i h3; rw [if_neg h3] at h; exact absurd rfl h
  · rfl
theorem called_err (p : List Fn) (s : St) (f : Int) (h : (calledS p s f).2 ≠ 0) : (calledS p s f).1 = St.zero := by
  unfold calledS at h ⊢
  simp only at h ⊢
  split
  · rfl
  · rename_i hh; rw [if_neg hh] at h; exact absurd rfl h
theorem yielded_err (s : St) (h : (yieldedS s).2 ≠ 0) : (yieldedS s).1 = St.zero := by
  unfold yieldedS at h ⊢
  simp only at h ⊢
  split
  · rfl
  · rename_i hh; rw [if_neg hh] at h; exact absurd rfl h
theorem made_err (p : List Fn) (s : St) (f : Int) (h : (madeS p s f).2 ≠ 0) : (madeS p s f).1 = St.zero := by
  unfold madeS at h ⊢
  split
  · rfl
  · rename_i hh; rw [if_neg hh] at h; exact absurd rfl h
theorem done_err {p : List Fn} {s : St} (h : (doneS p s).2 ≠ 0) : (doneS p s).1 = St.zero := by
  unfold doneS at h ⊢
  simp only at h ⊢
  generalize (codeOf p s.top.fn.toNat).getD s.top.at_.toNat (0, 0) = x at h ⊢
  generalize setAt s (s.top.at_ + 1) = t at h ⊢
  by_cases k0 : x.1 = 0
  · rw [if_pos k0] at h; exact absurd rfl h
  rw [if_neg k0] at h ⊢
  by_cases k1 : x.1 = 1
  · rw [if_pos k1] at h; exact absurd rfl h
  rw [if_neg k1] at h ⊢
  by_cases k2 : x.1 = 2
  · rw [if_pos k2] at h; exact absurd rfl h
  rw [if_neg k2] at h ⊢
  by_cases k3 : x.1 = 3
  · rw [if_pos k3] at h; exact absurd rfl h
  rw [if_neg k3] at h ⊢
  by_cases k9 : x.1 = 9
  · rw [if_pos k9] at h; exact absurd rfl h
  rw [if_neg k9] at h ⊢
  by_cases k10 : x.1 = 10
  · rw [if_pos k10] at h; exact absurd rfl h
  rw [if_neg k10] at h ⊢
  by_cases k11 : x.1 = 11
  · rw [if_pos k11] at h ⊢; exact called_err _ _ _ h
  rw [if_neg k11] at h ⊢
  by_cases k12 : x.1 = 12
  · rw [if_pos k12] at h ⊢; exact given_err _ h
  rw [if_neg k12] at h ⊢
  by_cases k13 : x.1 = 13
  · rw [if_pos k13] at h ⊢; exact made_err _ _ _ h
  rw [if_neg k13] at h ⊢
  by_cases k14 : x.1 = 14
  · rw [if_pos k14] at h ⊢; exact resumed_err _ h
  rw [if_neg k14] at h ⊢
  by_cases k15 : x.1 = 15
  · rw [if_pos k15] at h ⊢; exact yielded_err _ h
  rw [if_neg k15] at h ⊢
  by_cases k16 : x.1 = 16
  · rw [if_pos k16] at h ⊢; exact put_err _ _ h
  rw [if_neg k16] at h
  exact absurd rfl h
def runOk (p : List Fn) : Nat → St → Prop
  | 0, _ => True
  | k + 1, s => s.now < 0 ∨ (OkS p s ∧ Small (doneS p s).1 ∧ ((doneS p s).2 = 0 → runOk p k (doneS p s).1))
theorem runS_stop (p : List Fn) (k : Nat) (s : St) (h : k = 0 ∨ s.now < 0) : runS p k s = (s, 0, 0) := by
  cases k with
  | zero => rfl
  | succ k =>
    rcases h with h | h
    · cases h
    · unfold runS; rw [if_pos h]
theorem runS_err (p : List Fn) (k : Nat) (s : St) (h : ¬ s.now < 0) (he : (doneS p s).2 ≠ 0) : runS p (k + 1) s = (s, 0, (doneS p s).2) := by
  unfold runS
  have : oneS p s = doneS p s := by unfold oneS; rw [if_neg h]
  rw [if_neg h, this, if_neg he]
theorem runS_go (p : List Fn) (k : Nat) (s : St) (h : ¬ s.now < 0) (he : (doneS p s).2 = 0) : runS p (k + 1) s = ((runS p k (doneS p s).1).1, (runS p k (doneS p s).1).2.1 + 1, (runS p k (doneS p s).1).2.2) := by
  conv => lhs; unfold runS
  have : oneS p s = doneS p s := by unfold oneS; rw [if_neg h]
  rw [if_neg h, this, if_pos he]
theorem lineF_congr {fs fs' : List Fb} (h : ∀ n, callerOf fs n = callerOf fs' n) : ∀ (k : Nat) (n : Int) (acc : List Int), lineF fs k n acc = lineF fs' k n acc
  | 0, _, _ => rfl
  | k + 1, n, acc => by
    unfold lineF
    rw [h n, lineF_congr h k]
def takeTop (s : St) (i t : Nat) : St := setFr s i ((fibAt s i).frames.length - 1) { frAt s i ((fibAt s i).frames.length - 1) with stack := (frAt s i ((fibAt s i).frames.length - 1)).stack.take ((frAt s i ((fibAt s i).frames.length - 1)).stack.length - t) }
theorem set_getD_self {α : Type} (l : List α) (i : Nat) (d : α) (h : i < l.length) : l.set i (l.getD i d) = l := by
  apply List.ext_getElem
  · simp
  · intro k h1 h2
    rw [List.getElem_set]
    split
    · rename_i e; subst e; simp [List.getD, h]
    · rfl
theorem takeTop_zero {s : St} {i : Nat} (hr : Runs s i) : takeTop s i 0 = s := by
  unfold takeTop setFr setFib
  rw [Nat.sub_zero, List.take_length]
  have h1 : (fibAt s i).frames.set ((fibAt s i).frames.length - 1) (frAt s i ((fibAt s i).frames.length - 1)) = (fibAt s i).frames := set_getD_self _ _ _ (by have := hr.fr; omega)
  have h2 : ({ fibAt s i with frames := (fibAt s i).frames.set ((fibAt s i).frames.length - 1) { frAt s i ((fibAt s i).frames.length - 1) with stack := (frAt s i ((fibAt s i).frames.length - 1)).stack } } : Fb) = fibAt s i := by
    show ({ fibAt s i with frames := (fibAt s i).frames.set ((fibAt s i).frames.length - 1) (frAt s i ((fibAt s i).frames.length - 1)) } : Fb) = fibAt s i
    rw [h1]
  rw [h2]
  have h3 : s.fibers.set i (fibAt s i) = s.fibers := set_getD_self _ _ _ hr.lt
  rw [h3]
theorem takeTop_facts {s : St} {i : Nat} (hr : Runs s i) (t : Nat) : (takeTop s i t).fibers.length = s.fibers.length ∧ (takeTop s i t).now = s.now ∧ (takeTop s i t).out = s.out ∧ (fibAt (takeTop s i t) i).frames.length = (fibAt s i).frames.length ∧
    (frAt (takeTop s i t) i ((fibAt s i).frames.length - 1)).stack = (frAt s i ((fibAt s i).frames.length - 1)).stack.take ((frAt s i ((fibAt s i).frames.length - 1)).stack.length - t) ∧ Runs (takeTop s i t) i := by
  have hj : (fibAt s i).frames.length - 1 < (fibAt s i).frames.length := by have := hr.fr; omega
  have h5 : (frAt (takeTop s i t) i ((fibAt s i).frames.length - 1)).stack = (frAt s i ((fibAt s i).frames.length - 1)).stack.take ((frAt s i ((fibAt s i).frames.length - 1)).stack.length - t) := by
    unfold takeTop; rw [frAt_same _ hr.lt hj]
  have h1 : (takeTop s i t).fibers.length = s.fibers.length := setFib_len _ _ _
  have h4 : (fibAt (takeTop s i t) i).frames.length = (fibAt s i).frames.length := setFr_frames _ hr.lt i
  refine ⟨h1, rfl, rfl, h4, h5, ⟨by rw [h1]; exact hr.lt, by rw [h4]; exact hr.fr, by rw [h4]; exact hr.frs, ?_⟩⟩
  rw [h4, h5, List.length_take]
  have := hr.st
  omega
theorem pull_take {s : St} {i : Nat} (hn : s.now = i) (hr : Runs s i) {t : Nat} (ht : t < (frAt s i ((fibAt s i).frames.length - 1)).stack.length) :
    pullV (takeTop s i t) = takeTop s i (t + 1) ∧ lastV (takeTop s i t) = (frAt s i ((fibAt s i).frames.length - 1)).stack.getD ((frAt s i ((fibAt s i).frames.length - 1)).stack.length - t - 1) 0 := by
  obtain ⟨f1, f2, f3, f4, f5, f6⟩ := takeTop_facts hr t
  have hj : (fibAt s i).frames.length - 1 < (fibAt s i).frames.length := by have := hr.fr; omega
  have hn' : (takeTop s i t).now = i := by rw [f2]; exact hn
  constructor
  · rw [pullV_setFr hn', f4]
    have hfr : frAt (takeTop s i t) i ((fibAt s i).frames.length - 1) = { frAt s i ((fibAt s i).frames.length - 1) with stack := (frAt s i ((fibAt s i).frames.length - 1)).stack.take ((frAt s i ((fibAt s i).frames.length - 1)).stack.length - t) } := by
      unfold takeTop; rw [frAt_same _ hr.lt hj]
    rw [hfr]
    generalize hl : (frAt s i ((fibAt s i).frames.length - 1)).stack = l at *
    have hdl : (l.take (l.length - t)).dropLast = l.take (l.length - (t + 1)) := by
      rw [List.dropLast_eq_take, List.length_take, List.take_take]
      congr 1
      omega
    simp only [hdl]
    unfold takeTop
    rw [hl]
    unfold setFr setFib
    simp only
    have hset : fibAt { s with fibers := s.fibers.set i { fibAt s i with frames := (fibAt s i).frames.set ((fibAt s i).frames.length - 1) { frAt s i ((fibAt s i).frames.length - 1) with stack := l.take (l.length - t) } } } i = { fibAt s i with frames := (fibAt s i).frames.set ((fibAt s i).frames.length - 1) { frAt s i ((fibAt s i).frames.length - 1) with stack := l.take (l.length - t) } } := fibAt_same (s := s) _ hr.lt
    rw [hset]
    simp only [List.set_set]
  · unfold lastV St.top
    rw [hn', fib_fibAt, top_frAt, f4, f5, List.getLast?_eq_getElem?, List.length_take]
    generalize (frAt s i ((fibAt s i).frames.length - 1)).stack = l at *
    rw [Nat.min_eq_left (by omega), List.getElem?_take, if_pos (by omega)]
    rfl
theorem calledS_eq {p : List Fn} {s : St} {i f2 a2 lo2 : Nat} (hn : s.now = i) (hr : Runs s i) (ha : (p.getD f2 Fn.zero).args = a2) (hl : (p.getD f2 Fn.zero).locals = lo2) :
    calledS p s f2 = if (fibAt s i).frames.length = 6 then (St.zero, (2 : Int)) else (setFib (takeTop s i a2) i { fibAt (takeTop s i a2) i with frames := (fibAt (takeTop s i a2) i).frames ++ [⟨f2, 0, (frAt s i ((fibAt s i).frames.length - 1)).stack.drop ((frAt s i ((fibAt s i).frames.length - 1)).stack.length - a2) ++ List.replicate (lo2 - ((frAt s i ((fibAt s i).frames.length - 1)).stack.drop ((frAt s i ((fibAt s i).frames.length - 1)).stack.length - a2)).length) 0, []⟩] }, 0) := by
  have ht := top_at hn
  have hs1 : (s.turnTop s.now fun x => { x with stack := x.stack.take (x.stack.length - a2) }) = takeTop s i a2 := by rw [hn, turnTop_setFr]; rfl
  obtain ⟨f1, f2', f3, f4, f5, f6⟩ := takeTop_facts hr a2
  unfold calledS
  simp only [Int.toNat_natCast, ha]
  rw [hs1, hn, fib_fibAt, turn_setFib, f4, ht]
  unfold begunS
  rw [Int.toNat_natCast, hl, Int.toNat_natCast]
end Go.Proofs.YtohlefnljgkdcacDoor
namespace Go.Proofs.YtohlefnljgkdcacDoor
open Go.RowKit
theorem OwnVar.kept {base bs : Nat} {w w' : World} {V : Key → Value} {s : St} (h : OwnVar base w bs V s) (hk : Kept w w') : OwnVar base w' bs V s :=
  ⟨(hk.block bs (lt_of_block h.var)).trans h.var, h.own.same (fun k g hlk hg => hk.block g ((h.own.piece k hlk).block g hg).2), h.off, h.low⟩
theorem OwnVar.below {base bs : Nat} {w w' : World} {V : Key → Value} {s : St} (h : OwnVar base w bs V s) (hk : Kept w w') : Below base w w' :=
  Below.mono hk (by have := h.low; have := lt_of_block h.var; omega)
structure DoAt (base : Nat) (w : World) (s : St) (i bp op n fi ai cb co cl cc : Nat) (kd a : Int) : Prop where
  now : s.now = i
  runs : Runs s i
  fn : (frAt s i ((fibAt s i).frames.length - 1)).fn = fi
  at_ : (frAt s i ((fibAt s i).frames.length - 1)).at_ = ai
  fin : fi < n
  ain : ai < cl
  most : cl ≤ 1000
  cells : ∀ u, Below base w u → u.cell? ⟨bp, op + fi * 3 + 2, none⟩ = some (.slice (some ⟨cb, co, none⟩) cl cc) ∧ u.cell? ⟨cb, co + ai * 2, none⟩ = some (.int .i64 kd) ∧ u.cell? ⟨cb, co + ai * 2 + 1, none⟩ = some (.int .i64 a)
theorem wrap64_S (z : Int) : wrap64 z = wrapS z := by
  unfold wrap64 wrapS
  rw [Int.bmod_def]
  omega
end Go.Proofs.YtohlefnljgkdcacDoor
namespace Go.Proofs.YtohlefnljgkdcacDoor
open Go.RowKit
theorem OwnVar.turnStack {base bs : Nat} {w w2 : World} {V : Key → Value} {s : St} (h : OwnVar base w bs V s) {i j g cap : Nat} (hi : i < s.fibers.length) (hj : j < (fibAt s i).frames.length)
    (hV : V (.frames i) = .slice (some ⟨g, 0, none⟩) (fibAt s i).frames.length cap) (vs : Value) (l : List Int) (hgrow : w.grownBy w2 (V (.stack i j)).ownBlock) (hown : w2.ownsRow base 3 1 vs l.length (ints l))
    (hat : vs.ownBlock = (V (.stack i j)).ownBlock ∨ vs.ownBlock = some w.heap.size) :
    OwnVar base (w2.setCell ⟨g, j * 4 + 3, none⟩ vs) bs (upd V (.stack i j) vs) (setFr s i j { frAt s i j with stack := l }) ∧ Below base w (w2.setCell ⟨g, j * 4 + 3, none⟩ vs) := by
  have hlS : live s (.stack i j) := ⟨hi, hj⟩
  have hlF : live s (.frames i) := hi
  have hgb : (V (.frames i)).ownBlock = some g := by rw [hV]; rfl
  have hbsw := lt_of_block h.var
  have hbsg : bs ≠ g := fun e => h.off _ hlF (by rw [hgb, e])
  have hgblk := (h.own.piece _ hlF).block g hgb
  have hown' := h.own.turnFrame (w1 := w2) hi hj hV vs { frAt s i j with stack := l } 3 vs (by omega) (fun b hb hne => hgrow.block b hb (fun e => hne e.symm)) hown hat rfl rfl rfl rfl rfl
  refine ⟨h.turn hown' ?_ (upd_ne V vs (by simp)) (upd_ne V vs (by simp)) rfl ?_, ?_⟩
  · rw [Below.heap_setCell _ _ _ _ hbsg]
    exact hgrow.block bs hbsw (fun e => h.off _ hlS e.symm)
  · intro k hk e
    by_cases hkS : k = .stack i j
    · subst hkS
      rw [upd_same] at e
      rcases hat with e' | e'
      · exact h.off _ hlS (by rw [← e', e])
      · rw [e] at e'; cases e'; omega
    · rw [upd_ne V vs hkS] at e
      exact h.off k ((setFr_live _ hi k).1 hk) e
  · refine Below.setCell (Below.grown (Below.refl _ w) hgrow (by omega) (fun r hr => ?_)) hgblk.1 _
    exact ((h.own.piece _ hlS).block r hr).1
theorem ints_at {l : List Int} {i : Nat} {z : Int} (h : l[i]? = some z) : (ints l)[i]? = some (.int .i64 z) := by simp [ints, h]
theorem row_cut {w : World} {base : Nat} {g cap n : Nat} {l : List Int} (h : w.ownsRow base 3 1 (.slice (some ⟨g, 0, none⟩) n cap) n (ints l)) (hn : n = l.length) (m : Nat) (hm : m ≤ n) : w.ownsRow base 3 1 (.slice (some ⟨g, 0, none⟩) m cap) m (ints (l.take m)) := by
  subst hn
  refine ⟨by rw [ints_len, List.length_take]; omega, ?_⟩
  rcases h.2 with ⟨h', _⟩ | ⟨g', cap', cur, h', hb, hgh, hnc, hcm, hcs, htake⟩
  · simp at h'
  · simp only [Value.slice.injEq, Option.some.injEq, Addr.mk.injEq, and_true, true_and] at h'
    obtain ⟨rfl, rfl⟩ := h'
    refine .inr ⟨g, cap, cur, rfl, hb, hgh, by omega, hcm, hcs, ?_⟩
    have : ints (l.take m) = (ints l).take m := by simp [ints, List.map_take]
    rw [this, ← htake, List.take_take]
    congr 1
    omega
theorem grown_refl (w : World) (row : Option Nat) : w.grownBy w row := ⟨rfl, rfl, rfl, Nat.le_refl _, fun _ _ _ => rfl⟩
theorem OwnVar.turnOut {base bs : Nat} {w w2 : World} {V : Key → Value} {s : St} (h : OwnVar base w bs V s) (l : List Int) (vo : Value) (hgrow : w.grownBy w2 (V .out).ownBlock) (hown : w2.ownsRow base 3 1 vo l.length (ints l)) (hat : vo.ownBlock = (V .out).ownBlock ∨ vo.ownBlock = some w.heap.size) :
    OwnVar base (w2.setCell ⟨bs, 2, none⟩ vo) bs (upd V .out vo) { s with out := l } ∧ Below base w (w2.setCell ⟨bs, 2, none⟩ vo) := by
  have hbsw := lt_of_block h.var
  have hown' := h.own.turnOut l vo hown (fun b hb hne => hgrow.block b hb (fun e => hne e.symm)) hat
  have hoff' : Own.off (upd V .out vo) { s with out := l } bs := by
    intro k hk e
    by_cases hko : k = .out
    · subst hko
      rw [upd_same] at e
      rcases hat with e' | e'
      · exact h.off .out trivial (by rw [← e', e])
      · rw [e] at e'; cases e'; omega
    · rw [upd_ne V vo hko] at e
      exact h.off k (by cases k using Key.by <;> exact hk) e
  refine ⟨⟨?_, hown'.setOff (a := ⟨bs, 2, none⟩) hoff' _, hoff', h.low⟩, ?_⟩
  · have hb2 : w2.heap[bs]? = some (.cells #[V .fibers, .int .i64 s.now, V .out] 26) := (hgrow.block bs hbsw (fun e => h.off .out trivial e.symm)).trans h.var
    rw [upd_same, upd_ne V vo (by simp)]
    simp [World.setCell, Array.getElem?_modify, hb2]
  · refine Below.setCell (Below.grown (Below.refl _ w) hgrow ?_ (fun r hr => ((h.own.piece .out trivial).block r hr).1)) h.low _
    have := h.low
    omega
end Go.Proofs.YtohlefnljgkdcacDoor
namespace Go.Proofs.YtohlefnljgkdcacDoor
open Go.RowKit
def Turned (base bs : Nat) (s' : St) (r : Value) (w : World) (e : Ending) (w' : World) : Prop := e = .returned r ∧ ∃ V', OwnVar base w' bs V' s' ∧ Below base w w'
set_option maxHeartbeats 1000000 in
theorem top_any (bs N capF gF i q cap g : Nat) (w : World) (hi : i < N) (hq : 0 < q) (hqs : q ≤ 1000)
    (c0 : w.cell? ⟨bs, 0, none⟩ = some (.slice (some ⟨gF, 0, none⟩) N capF)) (c1 : w.cell? ⟨gF, i * 2, none⟩ = some (.slice (some ⟨g, 0, none⟩) q cap)) :
    Calls Tryd.prog 73 #[.pointer (some ⟨bs, 0, none⟩), .int .i64 i] w fun e w' => e = .returned (.pointer (some ⟨g, (q - 1) * 4, none⟩)) ∧ ∃ m, w' = w.drewN m := by
  obtain ⟨t, rfl⟩ : ∃ t, q = t + 1 := ⟨q - 1, by omega⟩
  have hi1 : (i : Int) < (N : Int) := by omega
  have hi0 : (0 : Int) ≤ (i : Int) := by omega
  have hw : IntKind.i64.wrap (((t + 1 : Nat) : Int) - 1) = (t : Int) := by rw [IntKind.wrap_i64]; omega
  have hw2 : IntKind.i64.wrap ((t : Int) + 1 - 1) = (t : Int) := by rw [IntKind.wrap_i64]; omega
  have ht : (t : Int) + 1 - 1 = (t : Int) := by omega
  have ht1 : (t : Int) < (t : Int) + 1 := by omega
  have ht0 : (0 : Int) ≤ (t : Int) := by omega
  go_enter Tryd.func73, Tryd.ntmps73
  go_wp2
  go_quiet (fail)
  go_wp2
  go_ret
  exact ⟨rfl, _, rfl⟩
theorem top_own {base bs : Nat} {w : World} {V : Key → Value} {s : St} (h : OwnVar base w bs V s) {i : Nat} (hi : i < s.fibers.length) (hq : 0 < (fibAt s i).frames.length) (hqs : (fibAt s i).frames.length ≤ 1000) :
    ∃ g cap, V (.frames i) = .slice (some ⟨g, 0, none⟩) (fibAt s i).frames.length cap ∧ Calls Tryd.prog 73 #[.pointer (some ⟨bs, 0, none⟩), .int .i64 i] w fun e w' => e = .returned (.pointer (some ⟨g, ((fibAt s i).frames.length - 1) * 4, none⟩)) ∧ ∃ m, w' = w.drewN m := by
  obtain ⟨gF, capF, eF, _, k0, _⟩ := h.own.fib hi
  obtain ⟨g, cap, eg, _, _⟩ := h.own.fr hi (j := 0) hq
  obtain ⟨c0, _⟩ := h.cells
  rw [eF] at c0
  rw [eg] at k0
  exact ⟨g, cap, eg, top_any bs _ capF gF i _ cap g w hi hq hqs c0 k0⟩
set_option maxHeartbeats 2000000 in
set_option maxRecDepth 100000 in
theorem push_any (base bs : Nat) (V : Key → Value) (s : St) (i : Nat) (z : Int) (w : World) (h : OwnVar base w bs V s) (hi : i < s.fibers.length) (hq : 0 < (fibAt s i).frames.length) (hqs : (fibAt s i).frames.length ≤ 1000) (hst : (frAt s i ((fibAt s i).frames.length - 1)).stack.length ≤ 1000) :
    Calls Tryd.prog 74 #[.pointer (some ⟨bs, 0, none⟩), .int .i64 i, .int .i64 z] w fun e w' => Turned base bs (pushV s i z) (.tuple #[]) w e w' := by
  obtain ⟨i0, hi0, hz0, hz1, hz2⟩ := info_parts infoInt
  obtain ⟨g, cap, eg, htop⟩ := top_own h hi hq hqs
  unfold pushV
  rw [turnTop_setFr]
  generalize hj : (fibAt s i).frames.length - 1 = j at *
  have hjl : j < (fibAt s i).frames.length := by omega
  have HT := hide htop
  have HO := hide h
  have HEG := hide eg
  clear htop h
  go_enter Tryd.func74, Tryd.ntmps74
  go_wp2_with fail
  refine (unhide HT).mono ?_
  rintro e w1 ⟨rfl, m, rfl⟩
  generalize hw1 : w.drewN m = w1
  have ho1 : OwnVar base w1 bs V s := (unhide HO).same (by rw [← hw1]; rfl)
  have hb1 : Below base w w1 := by rw [← hw1]; exact below_drewN (Below.refl _ w) m
  obtain ⟨g', cap', eg', _, f0, f1, f2, f3, ffz, hbg⟩ := ho1.own.fr hi hjl
  rw [unhide HEG] at eg'
  obtain ⟨⟨rfl⟩, -, rfl⟩ := (by simpa using eg' : (g = g') ∧ True ∧ cap = cap')
  have hs := ho1.own.stk hi hjl
  have hlg := cell_lt f0
  simp only at hlg
  have hbw : base ≤ w1.heap.size := by omega
  have hgs : (V (.stack i j)).ownBlock ≠ some g := fun e => by
    have := ho1.own.apart (.stack i j) (.frames i) g ⟨hi, hjl⟩ hi e (by rw [unhide HEG]; rfl)
    cases this
  have HO1 := hide ho1
  have HB1 := hide hb1
  have HS := hide hs
  have hfz := ffz (j * 4 + 3)
  generalize hvs : V (.stack i j) = vs0 at *
  have HVS := hide hvs
  generalize hl : (frAt s i j).stack = l at *
  have HL := hide hl
  clear hw1 hb1 ho1 hvs hl hs f0 f1 f2 ffz eg'
  go_wp2_with (at_builtin; refine wpList_append_own_at _ rfl _ _ 24 rfl base 3 i0 (.int .i64 0) 1 8 Tryd.underlying24 hi0 hz0 hz1 hz2 rfl (by decide) _ _ _ rfl ((unhide HS).alloc _) ⟨w1.heap.size, 0, none⟩ 1 1 [.int .i64 z] rfl rfl (new_one _ _ _) (int_one _) (by unfold maxLen; omega) (by omega) (by simp; omega) ?_; intro v' w2 hown' hgrow _ hat; obtain ⟨o2, c2, rfl, -⟩ := row_slice hown'; have g3 : w2.cell? ⟨g, j * 4 + 3, none⟩ = some vs0 := hgrow.cell (((Kept.refl w1).alloc _).cell f3) (fun e => hgs e.symm); have gz : w2.frozen? ⟨g, j * 4 + 3, none⟩ = false := (World.frozen?_of_block (hgrow.block g (by simp; omega) (fun e => hgs e.symm))).trans ((World.frozen?_of_block (Below.heap_alloc w1 _ g hlg)).trans hfz); have HOW := hide hown'; have HGR := hide hgrow; have HAT := hide hat; clear hown' hgrow hat)
  go_end0
  have hfin := ((unhide HO1).alloc (.cells #[.int .i64 z] 3)).turnStack (w2 := w2) hi hjl (unhide HEG) (.slice o2 (l.length + 1) c2) (l ++ [z]) (by rw [unhide HVS]; exact unhide HGR) (by rw [ints_append, List.length_append]; exact unhide HOW) (by rw [unhide HVS]; exact unhide HAT)
  unfold Turned
  refine ⟨rfl, upd V (.stack i j) (.slice o2 (l.length + 1) c2), ?_, ?_⟩
  · rw [unhide HL]
    exact hfin.1
  · exact Below.trans (unhide HB1) (Below.trans (Below.alloc (Below.refl _ w1) hbw _) hfin.2)
end Go.Proofs.YtohlefnljgkdcacDoor
namespace Go.Proofs.YtohlefnljgkdcacDoor
open Go.RowKit
def Pulled (base bs : Nat) (s' : St) (r : Value) (V : Key → Value) (i : Nat) (w : World) (e : Ending) (w' : World) : Prop :=
  e = .returned r ∧ ∃ V', OwnVar base w' bs V' s' ∧ Below base w w' ∧ V' (.frames i) = V (.frames i) ∧ (∀ k, (V' k).ownBlock = (V k).ownBlock) ∧ ∀ b, (V (.frames i)).ownBlock ≠ some b → w'.heap[b]? = w.heap[b]?
set_option maxHeartbeats 2000000 in
set_option maxRecDepth 100000 in
theorem pull_sharp (base bs : Nat) (V : Key → Value) (s : St) (i : Nat) (w : World) (h : OwnVar base w bs V s) (hn : s.now = i) (hi : i < s.fibers.length) (hq : 0 < (fibAt s i).frames.length) (hqs : (fibAt s i).frames.length ≤ 1000) (hst : (frAt s i ((fibAt s i).frames.length - 1)).stack.length ≤ 1000) (hst0 : 0 < (frAt s i ((fibAt s i).frames.length - 1)).stack.length) :
    Calls Tryd.prog 75 #[.pointer (some ⟨bs, 0, none⟩)] w fun e w' => Pulled base bs (pullV s) (.int .i64 (lastV s)) V i w e w' := by
  obtain ⟨g, cap, eg, htop⟩ := top_own h hi hq hqs
  have hlast : lastV s = (frAt s i ((fibAt s i).frames.length - 1)).stack.getD ((frAt s i ((fibAt s i).frames.length - 1)).stack.length - 1) 0 := by
    unfold lastV St.top St.fib
    rw [hn, Int.toNat_natCast, show s.fibers.getD i Fb.zero = fibAt s i from rfl, top_frAt, List.getLast?_eq_getElem?]
    rfl
  have hpull : pullV s = setFr s i ((fibAt s i).frames.length - 1) { frAt s i ((fibAt s i).frames.length - 1) with stack := (frAt s i ((fibAt s i).frames.length - 1)).stack.dropLast } := by
    unfold pullV
    rw [hn, turnTop_setFr]
  rw [hpull]
  generalize hzz : lastV s = z at *
  clear hpull hzz
  generalize hj : (fibAt s i).frames.length - 1 = j at *
  have hjl : j < (fibAt s i).frames.length := by omega
  obtain ⟨_, c1, _, _⟩ := h.cells
  rw [hn] at c1
  have HT := hide htop
  have HO := hide h
  have HEG := hide eg
  clear htop h
  go_enter Tryd.func75, Tryd.ntmps75
  go_wp2_with fail
  refine (unhide HT).mono ?_
  rintro e w1 ⟨rfl, m, rfl⟩
  generalize hw1 : w.drewN m = w1
  have ho1 : OwnVar base w1 bs V s := (unhide HO).same (by rw [← hw1]; rfl)
  have hb1 : Below base w w1 := by rw [← hw1]; exact below_drewN (Below.refl _ w) m
  have HSM : Hid (w1.heap = w.heap) := by rw [← hw1]; exact hide rfl
  obtain ⟨g', cap', eg', _, f0, f1, f2, f3, ffz, hbg⟩ := ho1.own.fr hi hjl
  rw [unhide HEG] at eg'
  obtain ⟨⟨rfl⟩, -, rfl⟩ := (by simpa using eg' : (g = g') ∧ True ∧ cap = cap')
  have hs := ho1.own.stk hi hjl
  obtain ⟨gs, cs, es, hcs, hcell, _, _⟩ := row_some hs hst0
  have hfz := ffz (j * 4 + 3)
  have HO1 := hide ho1
  have HB1 := hide hb1
  rw [es] at f3 hs
  have HS := hide hs
  have HES := hide es
  have hlt : (frAt s i j).stack.length - 1 < (frAt s i j).stack.length := by omega
  have hcl := hcell ((frAt s i j).stack.length - 1) (.int .i64 ((frAt s i j).stack.getD ((frAt s i j).stack.length - 1) 0)) (ints_at (getD_of_lt _ _ 0 hlt))
  generalize hl : (frAt s i j).stack = l at *
  have HL := hide hl
  obtain ⟨t, ht⟩ : ∃ t, l.length = t + 1 := ⟨l.length - 1, by omega⟩
  rw [← hlast] at hcl
  rw [ht] at f3 hcl
  simp only [Nat.add_sub_cancel] at hcl
  have hw : IntKind.i64.wrap ((t : Int) + 1 - 1) = (t : Int) := by rw [IntKind.wrap_i64]; omega
  have hts : (t : Int) + 1 - 1 = (t : Int) := by omega
  have ht1 : (t : Int) < (t : Int) + 1 := by omega
  have ht0 : (0 : Int) ≤ (t : Int) := by omega
  have htc : (t : Int) ≤ (cs : Int) := by omega
  have HTL := hide ht
  clear hw1 hb1 ho1 es hl hs f0 f1 f2 ffz eg' hcell hlast
  go_wp2
  go_quiet (fail)
  go_wp2
  generalize hw3 : w1.drewN nq = w3
  have ho3 : OwnVar base w3 bs V s := (unhide HO1).same (by rw [← hw3]; rfl)
  have k3 : w3.cell? ⟨g, j * 4 + 3, none⟩ = some (.slice (some ⟨gs, 0, none⟩) (t + 1) cs) := by rw [← hw3]; exact f3
  have kz : w3.frozen? ⟨g, j * 4 + 3, none⟩ = false := by rw [← hw3]; exact hfz
  have HB3 : Hid (Below base w w3) := by rw [← hw3]; exact hide (below_drewN (unhide HB1) nq)
  have HSM3 : Hid (w3.heap = w.heap) := by rw [← hw3]; exact hide (unhide HSM)
  have HO3 := hide ho3
  clear hw3 ho3 f3 hfz hcl HB1 HO1
  go_region
  all_goals go_wp2_with fail
  go_ret
  have hdl : l.dropLast = l.take t := by rw [List.dropLast_eq_take, unhide HTL, Nat.add_sub_cancel]
  have hrow : w3.ownsRow base 3 1 (.slice (some ⟨gs, 0, none⟩) t cs) (l.take t).length (ints (l.take t)) := by
    have h3 := (unhide HO3).own.stk hi hjl
    rw [unhide HES, unhide HL] at h3
    have hlt' : (l.take t).length = t := by rw [List.length_take]; have := unhide HTL; omega
    rw [hlt']
    exact row_cut h3 rfl t (by have := unhide HTL; omega)
  have hfin := (unhide HO3).turnStack (w2 := w3) hi hjl (unhide HEG) (.slice (some ⟨gs, 0, none⟩) t cs) (l.take t) (grown_refl _ _) hrow (.inl (by rw [unhide HES]; rfl))
  unfold Pulled
  refine ⟨rfl, upd V (.stack i j) (.slice (some ⟨gs, 0, none⟩) t cs), ?_, ?_, upd_ne V _ (by simp), fun k => ?_, fun b hb => ?_⟩
  · rw [unhide HL, hdl]
    exact OwnVar.same hfin.1 rfl
  · exact Below.drew (Below.trans (unhide HB3) hfin.2)
  · by_cases e : k = .stack i j
    · subst e; rw [upd_same, unhide HES]; rfl
    · rw [upd_ne V _ e]
  · show (w3.setCell _ _).heap[b]? = _
    rw [Below.heap_setCell _ _ _ _ (fun e => hb (by rw [unhide HEG]; exact congrArg some e.symm)), unhide HSM3]
theorem pull_any (base bs : Nat) (V : Key → Value) (s : St) (i : Nat) (w : World) (h : OwnVar base w bs V s) (hn : s.now = i) (hi : i < s.fibers.length) (hq : 0 < (fibAt s i).frames.length) (hqs : (fibAt s i).frames.length ≤ 1000) (hst : (frAt s i ((fibAt s i).frames.length - 1)).stack.length ≤ 1000) (hst0 : 0 < (frAt s i ((fibAt s i).frames.length - 1)).stack.length) :
    Calls Tryd.prog 75 #[.pointer (some ⟨bs, 0, none⟩)] w fun e w' => Turned base bs (pullV s) (.int .i64 (lastV s)) w e w' :=
  (pull_sharp base bs V s i w h hn hi hq hqs hst hst0).mono fun _ _ ⟨h1, V', h2, h3, _⟩ => ⟨h1, V', h2, h3⟩
def PutPost (base bs : Nat) (s : St) (v : Int) (w : World) (e : Ending) (w' : World) : Prop :=
  e = .returned (.int .i64 (putS s v).2) ∧ Below base w w' ∧ ((putS s v).2 = 0 → ∃ V', OwnVar base w' bs V' (putS s v).1)
set_option maxHeartbeats 2000000 in
set_option maxRecDepth 100000 in
theorem put_any (base bs : Nat) (V : Key → Value) (s : St) (z : Int) (w : World) (h : OwnVar base w bs V s) (ho : s.out.length ≤ 30) :
    Calls Tryd.prog 80 #[.pointer (some ⟨bs, 0, none⟩), .int .i64 z] w fun e w' => PutPost base bs s z w e w' := by
  obtain ⟨i0, hi0, hz0, hz1, hz2⟩ := info_parts infoInt
  obtain ⟨_, _, c2, fz⟩ := h.cells
  have hs : w.ownsRow base 3 1 (V .out) s.out.length (ints s.out) := h.own.piece .out trivial
  have hbsw := lt_of_block h.var
  have hlow := h.low
  have hbs : (V .out).ownBlock ≠ some bs := h.off .out trivial
  have f2 := fz 2
  obtain ⟨oo, co, eo, hrow⟩ := row_slice hs
  have HO := hide h
  have HS := hide hs
  have HEO := hide eo
  rw [eo] at c2
  clear h fz hrow
  by_cases h30 : s.out.length = 30
  · have hp : putS s z = (St.zero, 2) := by unfold putS; rw [if_pos h30]
    have HP := hide hp
    rw [h30] at c2
    clear hp h30
    go_enter Tryd.func80, Tryd.ntmps80
    go_wp2
    go_ret
    exact ⟨by rw [unhide HP]; rfl, Below.refl _ _, fun e => by rw [unhide HP] at e; cases e⟩
  · have hp : putS s z = ({ s with out := s.out ++ [z] }, 0) := by unfold putS; rw [if_neg h30]
    have HP := hide hp
    have hb : ((s.out.length : Int) == 30) = false := by rw [beq_eq_false_iff_ne]; omega
    rw [eo] at hs hbs
    have HS2 := hide hs
    have hlw : base ≤ w.heap.size := by omega
    clear hp hs
    generalize hl : s.out = l at *
    have HL := hide hl
    clear hl
    go_enter Tryd.func80, Tryd.ntmps80
    go_wp2_with (at_builtin; refine wpList_append_own_at _ rfl _ _ 24 rfl base 3 i0 (.int .i64 0) 1 8 Tryd.underlying24 hi0 hz0 hz1 hz2 rfl (by decide) _ _ _ rfl ((unhide HS2).alloc _) ⟨w.heap.size, 0, none⟩ 1 1 [.int .i64 z] rfl rfl (new_one _ _ _) (int_one _) (by unfold maxLen; omega) (by omega) (by simp; omega) ?_; intro v' w2 hown' hgrow _ hat; obtain ⟨o2, q2, rfl, -⟩ := row_slice hown'; have g2 : w2.cell? ⟨bs, 2, none⟩ = some (.slice oo l.length co) := hgrow.cell (((Kept.refl w).alloc _).cell c2) (fun e => hbs e.symm); have gz : w2.frozen? ⟨bs, 2, none⟩ = false := (World.frozen?_of_block (hgrow.block bs (by simp; omega) (fun e => hbs e.symm))).trans ((World.frozen?_of_block (Below.heap_alloc w _ bs hbsw)).trans f2); have HOW := hide hown'; have HGR := hide hgrow; have HAT := hide hat; clear hown' hgrow hat)
    go_ret
    have hfin := ((unhide HO).alloc (.cells #[.int .i64 z] 3)).turnOut (w2 := w2) (l ++ [z]) (.slice o2 (l.length + 1) q2) (by rw [unhide HEO]; exact unhide HGR) (by rw [ints_append, List.length_append]; exact unhide HOW) (by rw [unhide HEO]; exact unhide HAT)
    refine ⟨by rw [unhide HP]; rfl, Below.trans (Below.alloc (Below.refl _ w) hlw _) hfin.2, fun _ => ⟨upd V .out (.slice o2 (l.length + 1) q2), ?_⟩⟩
    rw [unhide HP]
    exact hfin.1
end Go.Proofs.YtohlefnljgkdcacDoor
