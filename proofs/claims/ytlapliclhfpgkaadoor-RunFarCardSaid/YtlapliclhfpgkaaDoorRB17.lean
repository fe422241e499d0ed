/- OkP, DoAt -/
import Derived.Test.YtlapliclhfpgkaaDoorRB16
import Derived.Test.YtlapliclhfpgkaaDoorRB12
import Derived.Test.YtlapliclhfpgkaaDoorRB14
namespace Go.Proofs.YtlapliclhfpgkaaDoor
theorem top_frAt (s : St) (i : Nat) : (fibAt s i).top = frAt s i ((fibAt s i).frames.length - 1) := by
  unfold Fb.top frAt
  rw [List.getLast?_eq_getElem?]
  simp [List.getD]
theorem turnTop_setFr (s : St) (i : Nat) (g : Fr → Fr) : s.turnTop (i : Int) g = setFr s i ((fibAt s i).frames.length - 1) (g (frAt s i ((fibAt s i).frames.length - 1))) := by
  unfold St.turnTop St.turn Fb.turnTop setFr setFib St.fib
  rw [Int.toNat_natCast]
  show _ = { s with fibers := _ }
  rw [← top_frAt s i]
  rfl
structure Runs (s : St) (i : Nat) : Prop where
  lt : i < s.fibers.length
  fr : 0 < (fibAt s i).frames.length
  frs : (fibAt s i).frames.length ≤ 1000
  st : (frAt s i ((fibAt s i).frames.length - 1)).stack.length ≤ 1000
theorem fib_fibAt (s : St) (i : Nat) : s.fib (i : Int) = fibAt s i := by unfold St.fib fibAt; rw [Int.toNat_natCast]
theorem turn_setFib (s : St) (i : Nat) (g : Fb → Fb) : s.turn (i : Int) g = setFib s i (g (fibAt s i)) := by
  unfold St.turn; rw [fib_fibAt, Int.toNat_natCast]; rfl
theorem pullV_setFr {s : St} {i : Nat} (hn : s.now = i) : pullV s = setFr s i ((fibAt s i).frames.length - 1) { frAt s i ((fibAt s i).frames.length - 1) with stack := (frAt s i ((fibAt s i).frames.length - 1)).stack.dropLast } := by
  unfold pullV
  rw [hn, turnTop_setFr]
theorem setFr_other {s : St} {i j k : Nat} (f : Fr) (h : i ≠ k) : fibAt (setFr s i j f) k = fibAt s k := fibAt_ne _ h
theorem Runs.other {s s' : St} {k : Nat} (h : Runs s k) (hl : s'.fibers.length = s.fibers.length) (hf : fibAt s' k = fibAt s k) : Runs s' k := by
  have hfr : ∀ j, frAt s' k j = frAt s k j := fun j => by unfold frAt; rw [hf]
  exact ⟨by rw [hl]; exact h.lt, by rw [hf]; exact h.fr, by rw [hf]; exact h.frs, by rw [hfr, hf]; exact h.st⟩
def nextS (s : St) (i ai : Nat) : St := setFr s i ((fibAt s i).frames.length - 1) { frAt s i ((fibAt s i).frames.length - 1) with at_ := (ai : Int) + 1 }
theorem setAt_setFr {s : St} {i : Nat} (hn : s.now = i) (a : Int) : setAt s a = setFr s i ((fibAt s i).frames.length - 1) { frAt s i ((fibAt s i).frames.length - 1) with at_ := a } := by
  unfold setAt
  rw [hn, turnTop_setFr]
theorem top_at {s : St} {i : Nat} (hn : s.now = i) : s.top = frAt s i ((fibAt s i).frames.length - 1) := by
  unfold St.top St.fib
  rw [hn, Int.toNat_natCast, show s.fibers.getD i Fb.zero = fibAt s i from rfl, top_frAt]
theorem next_facts {s : St} {i : Nat} (hn : s.now = i) (hr : Runs s i) (ai : Nat) :
    (nextS s i ai).now = i ∧ (nextS s i ai).fibers.length = s.fibers.length ∧ (nextS s i ai).out = s.out ∧ (∀ k, (fibAt (nextS s i ai) k).caller = (fibAt s k).caller) ∧ (∀ k, (fibAt (nextS s i ai) k).frames.length = (fibAt s k).frames.length) ∧
    frAt (nextS s i ai) i ((fibAt s i).frames.length - 1) = { frAt s i ((fibAt s i).frames.length - 1) with at_ := (ai : Int) + 1 } ∧ (∀ k, k ≠ i → fibAt (nextS s i ai) k = fibAt s k) ∧ Runs (nextS s i ai) i := by
  have hj : (fibAt s i).frames.length - 1 < (fibAt s i).frames.length := by have := hr.fr; omega
  have h6 : frAt (nextS s i ai) i ((fibAt s i).frames.length - 1) = { frAt s i ((fibAt s i).frames.length - 1) with at_ := (ai : Int) + 1 } := frAt_same _ hr.lt hj
  have h5 : ∀ k, (fibAt (nextS s i ai) k).frames.length = (fibAt s k).frames.length := fun k => setFr_frames _ hr.lt k
  have h2 : (nextS s i ai).fibers.length = s.fibers.length := setFib_len _ _ _
  refine ⟨hn, h2, rfl, fun k => setFr_caller _ hr.lt k, h5, h6, fun k hk => setFr_other _ (fun e => hk e.symm), ⟨by rw [h2]; exact hr.lt, by rw [h5]; exact hr.fr, by rw [h5]; exact hr.frs, ?_⟩⟩
  rw [h5, h6]
  exact hr.st
theorem next_other {s : St} {i : Nat} (ai k : Nat) (hk : k ≠ i) (h : Runs s k) : Runs (nextS s i ai) k :=
  h.other (setFib_len _ _ _) (setFr_other _ (fun e => hk e.symm))
theorem next_fr {s : St} {i : Nat} (hr : Runs s i) (ai t q : Nat) : (frAt (nextS s i ai) t q).stack = (frAt s t q).stack ∧ (frAt (nextS s i ai) t q).locals = (frAt s t q).locals ∧ (frAt (nextS s i ai) t q).fn = (frAt s t q).fn := by
  have hj : (fibAt s i).frames.length - 1 < (fibAt s i).frames.length := by have := hr.fr; omega
  unfold nextS
  by_cases e : i = t ∧ (fibAt s i).frames.length - 1 = q
  · obtain ⟨rfl, rfl⟩ := e
    rw [frAt_same _ hr.lt hj]
    exact ⟨rfl, rfl, rfl⟩
  · rw [frAt_ne _ hr.lt e]
    exact ⟨rfl, rfl, rfl⟩
theorem doneS_at {p : List Fn} {s : St} {i fi ai : Nat} {kd a : Int} (hn : s.now = i) (hf : (frAt s i ((fibAt s i).frames.length - 1)).fn = fi) (ha : (frAt s i ((fibAt s i).frames.length - 1)).at_ = ai) (hx : (codeOf p fi).getD ai (0, 0) = (kd, a)) :
    doneS p s = (if kd = 0 then (pushV (nextS s i ai) i a, 0)
      else if kd = 1 then (pullV (nextS s i ai), 0)
      else if kd = 2 then (pushV (nextS s i ai) i ((nextS s i ai).top.locals.getD a.toNat 0), 0)
      else if kd = 3 then ((pullV (nextS s i ai)).turnTop i fun f => { f with locals := f.locals.set a.toNat (lastV (nextS s i ai)) }, 0)
      else if kd = 9 then (setAt (nextS s i ai) a, 0)
      else if kd = 10 then (if lastV (nextS s i ai) = 0 then setAt (pullV (nextS s i ai)) a else pullV (nextS s i ai), 0)
      else if kd = 11 then calledS p (nextS s i ai) a
      else if kd = 12 then givenS (nextS s i ai)
      else if kd = 13 then madeS p (nextS s i ai) a
      else if kd = 14 then resumedS (nextS s i ai)
      else if kd = 15 then yieldedS (nextS s i ai)
      else if kd = 16 then putS (pullV (nextS s i ai)) (lastV (nextS s i ai))
      else (pushV (pullV (pullV (nextS s i ai))) i (reckonS kd (lastV (pullV (nextS s i ai))) (lastV (nextS s i ai))), 0)) := by
  unfold doneS
  have ht := top_at hn
  have hs : setAt s (s.top.at_ + 1) = nextS s i ai := by rw [setAt_setFr hn, ht, ha]; rfl
  have hnow : (nextS s i ai).now = i := hn
  simp only []
  rw [hs, ht, hf, ha, Int.toNat_natCast, Int.toNat_natCast, hx, hnow]
def needN (kd : Int) : Nat := if kd = 0 ∨ kd = 2 ∨ kd = 9 ∨ kd = 11 ∨ kd = 13 then 0 else if kd = 1 ∨ kd = 3 ∨ kd = 10 ∨ kd = 12 ∨ kd = 15 ∨ kd = 16 then 1 else 2
def opAt (p : List Fn) (f : Fr) : Int × Int := (codeOf p f.fn.toNat).getD f.at_.toNat (0, 0)
def needS (p : List Fn) (f : Fr) : Prop :=
  needN (opAt p f).1 ≤ f.stack.length ∧
  ((opAt p f).1 = 2 ∨ (opAt p f).1 = 3 → 0 ≤ (opAt p f).2 ∧ (opAt p f).2.toNat < f.locals.length) ∧
  ((opAt p f).1 = 11 → 0 ≤ (opAt p f).2 ∧ (opAt p f).2.toNat < p.length ∧ 0 ≤ (p.getD (opAt p f).2.toNat Fn.zero).args ∧ (p.getD (opAt p f).2.toNat Fn.zero).args ≤ (p.getD (opAt p f).2.toNat Fn.zero).locals ∧ (p.getD (opAt p f).2.toNat Fn.zero).locals ≤ 1000 ∧ (p.getD (opAt p f).2.toNat Fn.zero).args.toNat ≤ f.stack.length) ∧
  ((opAt p f).1 = 13 → 0 ≤ (opAt p f).2 ∧ (opAt p f).2.toNat < p.length ∧ 0 ≤ (p.getD (opAt p f).2.toNat Fn.zero).locals ∧ (p.getD (opAt p f).2.toNat Fn.zero).locals ≤ 1000)
def OkS (p : List Fn) (s : St) : Prop :=
  (0 ≤ s.now ∧ s.now.toNat < s.fibers.length ∧ s.fibers.length ≤ 5 ∧ s.out.length ≤ 30) ∧
  (∀ b ∈ s.fibers, (b.frames.length ≤ 6 ∧ -1 ≤ b.caller ∧ b.caller < s.fibers.length) ∧ ∀ f ∈ b.frames, f.locals.length ≤ 1000 ∧ f.stack.length ≤ 1000) ∧
  0 < (fibAt s s.now.toNat).frames.length ∧
  (0 ≤ (fibAt s s.now.toNat).caller → (fibAt s s.now.toNat).caller ≠ s.now ∧ 0 < (fibAt s (fibAt s s.now.toNat).caller.toNat).frames.length) ∧
  ((lineS s).isSome = true ∧ s.now ∈ (lineS s).getD []) ∧
  (∀ k, k < s.fibers.length → (k : Int) ∉ (lineS s).getD [] → 0 < (fibAt s k).frames.length → (frAt s k ((fibAt s k).frames.length - 1)).at_ = 0 → 0 < (frAt s k ((fibAt s k).frames.length - 1)).locals.length) ∧
  (0 ≤ s.top.fn ∧ s.top.fn.toNat < p.length ∧ 0 ≤ s.top.at_ ∧ s.top.at_.toNat < (codeOf p s.top.fn.toNat).length ∧ (codeOf p s.top.fn.toNat).length ≤ 1000) ∧ needS p s.top
theorem top_mem {s : St} (i : Nat) (hi : i < s.fibers.length) : fibAt s i ∈ s.fibers := by
  have : fibAt s i = s.fibers[i] := by simp [fibAt, List.getD, hi]
  rw [this]; exact List.getElem_mem hi
theorem fr_mem {s : St} (i j : Nat) (hj : j < (fibAt s i).frames.length) : frAt s i j ∈ (fibAt s i).frames := by
  have : frAt s i j = (fibAt s i).frames[j] := by simp [frAt, List.getD, hj]
  rw [this]; exact List.getElem_mem hj
theorem put_err (s : St) (v : Int) (h : (putS s v).2 ≠ 0) : (putS s v).1 = St.zero := by
  unfold putS at h ⊢
  split
  · rfl
  · rename_i hh; rw [if_neg hh] at h; exact absurd rfl h
theorem given_err (s : St) (h : (givenS s).2 ≠ 0) : (givenS s).1 = St.zero := by
  unfold givenS at h ⊢
  simp only at h ⊢
  split
  · rename_i h1
    rw [if_pos h1] at h
    split
    · rename_i h2
      rw [if_pos h2] at h
      exact put_err _ _ h
    · rename_i h2
      rw [if_neg h2] at h
      exact absurd rfl h
  · rename_i h1
    rw [if_neg h1] at h
    exact absurd rfl h
theorem resumed_err (s : St) (h : (resumedS s).2 ≠ 0) : (resumedS s).1 = St.zero := by
  unfold resumedS at h ⊢
  simp only at h ⊢
  split
  · rename_i h1
    rw [if_pos h1] at h
    split
    · rfl
    · rename_i h2
      rw [if_neg h2] at h
      split
      · rename_i h3; rw [if_pos h3] at h; exact absurd rfl h
      · rename_i h3; rw [if_neg h3] at h; exact absurd rfl h
  · rfl
theorem called_err (p : List Fn) (s : St) (f : Int) (h : (calledS p s f).2 ≠ 0) : (calledS p s f).1 = St.zero := by
  unfold calledS at h ⊢
  simp only at h ⊢
  split
  · rfl
  · rename_i hh; rw [if_neg hh] at h; exact absurd rfl h
theorem yielded_err (s : St) (h : (yieldedS s).2 ≠ 0) : (yieldedS s).1 = St.zero := by
  unfold yieldedS at h ⊢
  simp only at h ⊢
  split
  · rfl
  · rename_i hh; rw [if_neg hh] at h; exact absurd rfl h
theorem made_err (p : List Fn) (s : St) (f : Int) (h : (madeS p s f).2 ≠ 0) : (madeS p s f).1 = St.zero := by
  unfold madeS at h ⊢
  split
  · rfl
  · rename_i hh; rw [if_neg hh] at h; exact absurd rfl h
theorem done_err {p : List Fn} {s : St} (h : (doneS p s).2 ≠ 0) : (doneS p s).1 = St.zero := by
  unfold doneS at h ⊢
  simp only at h ⊢
  generalize (codeOf p s.top.fn.toNat).getD s.top.at_.toNat (0, 0) = x at h ⊢
  generalize setAt s (s.top.at_ + 1) = t at h ⊢
  by_cases k0 : x.1 = 0
  · rw [if_pos k0] at h; exact absurd rfl h
  rw [if_neg k0] at h ⊢
  by_cases k1 : x.1 = 1
  · rw [if_pos k1] at h; exact absurd rfl h
  rw [if_neg k1] at h ⊢
  by_cases k2 : x.1 = 2
  · rw [if_pos k2] at h; exact absurd rfl h
  rw [if_neg k2] at h ⊢
  by_cases k3 : x.1 = 3
  · rw [if_pos k3] at h; exact absurd rfl h
  rw [if_neg k3] at h ⊢
  by_cases k9 : x.1 = 9
  · rw [if_pos k9] at h; exact absurd rfl h
  rw [if_neg k9] at h ⊢
  by_cases k10 : x.1 = 10
  · rw [if_pos k10] at h; exact absurd rfl h
  rw [if_neg k10] at h ⊢
  by_cases k11 : x.1 = 11
  · rw [if_pos k11] at h ⊢; exact called_err _ _ _ h
  rw [if_neg k11] at h ⊢
  by_cases k12 : x.1 = 12
  · rw [if_pos k12] at h ⊢; exact given_err _ h
  rw [if_neg k12] at h ⊢
  by_cases k13 : x.1 = 13
  · rw [if_pos k13] at h ⊢; exact made_err _ _ _ h
  rw [if_neg k13] at h ⊢
  by_cases k14 : x.1 = 14
  · rw [if_pos k14] at h ⊢; exact resumed_err _ h
  rw [if_neg k14] at h ⊢
  by_cases k15 : x.1 = 15
  · rw [if_pos k15] at h ⊢; exact yielded_err _ h
  rw [if_neg k15] at h ⊢
  by_cases k16 : x.1 = 16
  · rw [if_pos k16] at h ⊢; exact put_err _ _ h
  rw [if_neg k16] at h
  exact absurd rfl h
def runOk (p : List Fn) : Nat → St → Prop
  | 0, _ => True
  | k + 1, s => s.now < 0 ∨ (OkS p s ∧ Small (doneS p s).1 ∧ ((doneS p s).2 = 0 → runOk p k (doneS p s).1))
theorem runS_stop (p : List Fn) (k : Nat) (s : St) (h : k = 0 ∨ s.now < 0) : runS p k s = (s, 0, 0) := by
  cases k with
  | zero => rfl
  | succ k =>
    rcases h with h | h
    · cases h
    · unfold runS; rw [if_pos h]
theorem runS_err (p : List Fn) (k : Nat) (s : St) (h : ¬ s.now < 0) (he : (doneS p s).2 ≠ 0) : runS p (k + 1) s = (s, 0, (doneS p s).2) := by
  unfold runS
  have : oneS p s = doneS p s := by unfold oneS; rw [if_neg h]
  rw [if_neg h, this, if_neg he]
theorem runS_go (p : List Fn) (k : Nat) (s : St) (h : ¬ s.now < 0) (he : (doneS p s).2 = 0) : runS p (k + 1) s = ((runS p k (doneS p s).1).1, (runS p k (doneS p s).1).2.1 + 1, (runS p k (doneS p s).1).2.2) := by
  conv => lhs; unfold runS
  have : oneS p s = doneS p s := by unfold oneS; rw [if_neg h]
  rw [if_neg h, this, if_pos he]
theorem lineF_congr {fs fs' : List Fb} (h : ∀ n, callerOf fs n = callerOf fs' n) : ∀ (k : Nat) (n : Int) (acc : List Int), lineF fs k n acc = lineF fs' k n acc
  | 0, _, _ => rfl
  | k + 1, n, acc => by
    unfold lineF
    rw [h n, lineF_congr h k]
def takeTop (s : St) (i t : Nat) : St := setFr s i ((fibAt s i).frames.length - 1) { frAt s i ((fibAt s i).frames.length - 1) with stack := (frAt s i ((fibAt s i).frames.length - 1)).stack.take ((frAt s i ((fibAt s i).frames.length - 1)).stack.length - t) }
theorem set_getD_self {α : Type} (l : List α) (i : Nat) (d : α) (h : i < l.length) : l.set i (l.getD i d) = l := by
  apply List.ext_getElem
  · simp
  · intro k h1 h2
    rw [List.getElem_set]
    split
    · rename_i e; subst e; simp [List.getD, h]
    · rfl
theorem takeTop_zero {s : St} {i : Nat} (hr : Runs s i) : takeTop s i 0 = s := by
  unfold takeTop setFr setFib
  rw [Nat.sub_zero, List.take_length]
  have h1 : (fibAt s i).frames.set ((fibAt s i).frames.length - 1) (frAt s i ((fibAt s i).frames.length - 1)) = (fibAt s i).frames := set_getD_self _ _ _ (by have := hr.fr; omega)
  have h2 : ({ fibAt s i with frames := (fibAt s i).frames.set ((fibAt s i).frames.length - 1) { frAt s i ((fibAt s i).frames.length - 1) with stack := (frAt s i ((fibAt s i).frames.length - 1)).stack } } : Fb) = fibAt s i := by
    show ({ fibAt s i with frames := (fibAt s i).frames.set ((fibAt s i).frames.length - 1) (frAt s i ((fibAt s i).frames.length - 1)) } : Fb) = fibAt s i
    rw [h1]
  rw [h2]
  have h3 : s.fibers.set i (fibAt s i) = s.fibers := set_getD_self _ _ _ hr.lt
  rw [h3]
theorem takeTop_facts {s : St} {i : Nat} (hr : Runs s i) (t : Nat) : (takeTop s i t).fibers.length = s.fibers.length ∧ (takeTop s i t).now = s.now ∧ (takeTop s i t).out = s.out ∧ (fibAt (takeTop s i t) i).frames.length = (fibAt s i).frames.length ∧
    (frAt (takeTop s i t) i ((fibAt s i).frames.length - 1)).stack = (frAt s i ((fibAt s i).frames.length - 1)).stack.take ((frAt s i ((fibAt s i).frames.length - 1)).stack.length - t) ∧ Runs (takeTop s i t) i := by
  have hj : (fibAt s i).frames.length - 1 < (fibAt s i).frames.length := by have := hr.fr; omega
  have h5 : (frAt (takeTop s i t) i ((fibAt s i).frames.length - 1)).stack = (frAt s i ((fibAt s i).frames.length - 1)).stack.take ((frAt s i ((fibAt s i).frames.length - 1)).stack.length - t) := by
    unfold takeTop; rw [frAt_same _ hr.lt hj]
  have h1 : (takeTop s i t).fibers.length = s.fibers.length := setFib_len _ _ _
  have h4 : (fibAt (takeTop s i t) i).frames.length = (fibAt s i).frames.length := setFr_frames _ hr.lt i
  refine ⟨h1, rfl, rfl, h4, h5, ⟨by rw [h1]; exact hr.lt, by rw [h4]; exact hr.fr, by rw [h4]; exact hr.frs, ?_⟩⟩
  rw [h4, h5, List.length_take]
  have := hr.st
  omega
theorem pull_take {s : St} {i : Nat} (hn : s.now = i) (hr : Runs s i) {t : Nat} (ht : t < (frAt s i ((fibAt s i).frames.length - 1)).stack.length) :
    pullV (takeTop s i t) = takeTop s i (t + 1) ∧ lastV (takeTop s i t) = (frAt s i ((fibAt s i).frames.length - 1)).stack.getD ((frAt s i ((fibAt s i).frames.length - 1)).stack.length - t - 1) 0 := by
  obtain ⟨f1, f2, f3, f4, f5, f6⟩ := takeTop_facts hr t
  have hj : (fibAt s i).frames.length - 1 < (fibAt s i).frames.length := by have := hr.fr; omega
  have hn' : (takeTop s i t).now = i := by rw [f2]; exact hn
  constructor
  · rw [pullV_setFr hn', f4]
    have hfr : frAt (takeTop s i t) i ((fibAt s i).frames.length - 1) = { frAt s i ((fibAt s i).frames.length - 1) with stack := (frAt s i ((fibAt s i).frames.length - 1)).stack.take ((frAt s i ((fibAt s i).frames.length - 1)).stack.length - t) } := by
      unfold takeTop; rw [frAt_same _ hr.lt hj]
    rw [hfr]
    generalize hl : (frAt s i ((fibAt s i).frames.length - 1)).stack = l at *
    have hdl : (l.take (l.length - t)).dropLast = l.take (l.length - (t + 1)) := by
      rw [List.dropLast_eq_take, List.length_take, List.take_take]
      congr 1
      omega
    simp only [hdl]
    unfold takeTop
    rw [hl]
    unfold setFr setFib
    simp only
    have hset : fibAt { s with fibers := s.fibers.set i { fibAt s i with frames := (fibAt s i).frames.set ((fibAt s i).frames.length - 1) { frAt s i ((fibAt s i).frames.length - 1) with stack := l.take (l.length - t) } } } i = { fibAt s i with frames := (fibAt s i).frames.set ((fibAt s i).frames.length - 1) { frAt s i ((fibAt s i).frames.length - 1) with stack := l.take (l.length - t) } } := fibAt_same (s := s) _ hr.lt
    rw [hset]
    simp only [List.set_set]
  · unfold lastV St.top
    rw [hn', fib_fibAt, top_frAt, f4, f5, List.getLast?_eq_getElem?, List.length_take]
    generalize (frAt s i ((fibAt s i).frames.length - 1)).stack = l at *
    rw [Nat.min_eq_left (by omega), List.getElem?_take, if_pos (by omega)]
    rfl
theorem calledS_eq {p : List Fn} {s : St} {i f2 a2 lo2 : Nat} (hn : s.now = i) (hr : Runs s i) (ha : (p.getD f2 Fn.zero).args = a2) (hl : (p.getD f2 Fn.zero).locals = lo2) :
    calledS p s f2 = if (fibAt s i).frames.length = 6 then (St.zero, (2 : Int)) else (setFib (takeTop s i a2) i { fibAt (takeTop s i a2) i with frames := (fibAt (takeTop s i a2) i).frames ++ [⟨f2, 0, (frAt s i ((fibAt s i).frames.length - 1)).stack.drop ((frAt s i ((fibAt s i).frames.length - 1)).stack.length - a2) ++ List.replicate (lo2 - ((frAt s i ((fibAt s i).frames.length - 1)).stack.drop ((frAt s i ((fibAt s i).frames.length - 1)).stack.length - a2)).length) 0, []⟩] }, 0) := by
  have ht := top_at hn
  have hs1 : (s.turnTop s.now fun x => { x with stack := x.stack.take (x.stack.length - a2) }) = takeTop s i a2 := by rw [hn, turnTop_setFr]; rfl
  obtain ⟨f1, f2', f3, f4, f5, f6⟩ := takeTop_facts hr a2
  unfold calledS
  simp only [Int.toNat_natCast, ha]
  rw [hs1, hn, fib_fibAt, turn_setFib, f4, ht]
  unfold begunS
  rw [Int.toNat_natCast, hl, Int.toNat_natCast]
end Go.Proofs.YtlapliclhfpgkaaDoor
namespace Go.Proofs.YtlapliclhfpgkaaDoor
open Go.RowKit
theorem OwnVar.kept {base bs : Nat} {w w' : World} {V : Key → Value} {s : St} (h : OwnVar base w bs V s) (hk : Kept w w') : OwnVar base w' bs V s :=
  ⟨(hk.block bs (lt_of_block h.var)).trans h.var, h.own.same (fun k g hlk hg => hk.block g ((h.own.piece k hlk).block g hg).2), h.off, h.low⟩
theorem OwnVar.below {base bs : Nat} {w w' : World} {V : Key → Value} {s : St} (h : OwnVar base w bs V s) (hk : Kept w w') : Below base w w' :=
  Below.mono hk (by have := h.low; have := lt_of_block h.var; omega)
structure DoAt (base : Nat) (w : World) (s : St) (i bp op n fi ai cb co cl cc : Nat) (kd a : Int) : Prop where
  now : s.now = i
  runs : Runs s i
  fn : (frAt s i ((fibAt s i).frames.length - 1)).fn = fi
  at_ : (frAt s i ((fibAt s i).frames.length - 1)).at_ = ai
  fin : fi < n
  ain : ai < cl
  most : cl ≤ 1000
  cells : ∀ u, Below base w u → u.cell? ⟨bp, op + fi * 3 + 2, none⟩ = some (.slice (some ⟨cb, co, none⟩) cl cc) ∧ u.cell? ⟨cb, co + ai * 2, none⟩ = some (.int .i64 kd) ∧ u.cell? ⟨cb, co + ai * 2 + 1, none⟩ = some (.int .i64 a)
theorem wrap64_S (z : Int) : wrap64 z = wrapS z := by
  unfold wrap64 wrapS
  rw [Int.bmod_def]
  omega
end Go.Proofs.YtlapliclhfpgkaaDoor
