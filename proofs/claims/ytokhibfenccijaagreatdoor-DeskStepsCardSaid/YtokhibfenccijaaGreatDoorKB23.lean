/- GoodB, GoodC -/
import Derived.Test.YtokhibfenccijaaGreatDoorKB22
set_option maxRecDepth 100000
set_option maxHeartbeats 8000000
namespace Go.Proofs.YtokhibfenccijaaGreatDoor
theorem setFib_setFib (s : St) (n : Nat) (a b : Fb) : setFib (setFib s n a) n b = setFib s n b := by simp [setFib]
structure Tops (s : St) (n : Nat) (fs : List Fr) (t : Fr) (c : Int) : Prop where
  lt : n < s.fibers.length
  eq : fibAt s n = ⟨fs ++ [t], c⟩
theorem Tops.set {s : St} {n : Nat} {fs : List Fr} {t : Fr} {c : Int} (h : Tops s n fs t c) (gs : List Fr) (u : Fr) (d : Int) : Tops (setFib s n ⟨gs ++ [u], d⟩) n gs u d :=
  ⟨by rw [setFib_len]; exact h.lt, fibAt_same _ h.lt⟩
theorem turnTop_form {s : St} {n : Nat} {fs : List Fr} {t : Fr} {c : Int} (h : Tops s n fs t c) (g : Fr → Fr) : s.turnTop (n : Int) g = setFib s n ⟨fs ++ [g t], c⟩ := by
  unfold St.turnTop
  rw [turn_setFib, h.eq]
  unfold Fb.turnTop Fb.top
  simp
theorem top_form {s : St} {n : Nat} {fs : List Fr} {t : Fr} {c : Int} (h : Tops s n fs t c) (hn : s.now = n) : s.top = t := by
  unfold St.top
  rw [hn, fib_fibAt, h.eq]
  simp [Fb.top]
def Fr.stk (t : Fr) (l : List Int) : Fr := ⟨t.fn, t.at_, t.locals, l⟩
theorem push_form {s : St} {n : Nat} {fs : List Fr} {t : Fr} {c : Int} (h : Tops s n fs t c) (v : Int) : pushV s n v = setFib s n ⟨fs ++ [t.stk (t.stack ++ [v])], c⟩ := turnTop_form h _
theorem pull_form {s : St} {n : Nat} {fs : List Fr} {t : Fr} {c : Int} (h : Tops s n fs t c) (hn : s.now = n) : pullV s = setFib s n ⟨fs ++ [t.stk t.stack.dropLast], c⟩ := by
  unfold pullV; rw [hn, turnTop_form h]; rfl
theorem setAt_form {s : St} {n : Nat} {fs : List Fr} {t : Fr} {c : Int} (h : Tops s n fs t c) (hn : s.now = n) (a : Int) : setAt s a = setFib s n ⟨fs ++ [{ t with at_ := a }], c⟩ := by
  unfold setAt; rw [hn, turnTop_form h]
theorem last_form {s : St} {n : Nat} {fs : List Fr} {t : Fr} {c : Int} (h : Tops s n fs t c) (hn : s.now = n) : lastV s = t.stack.getLast?.getD 0 := by
  unfold lastV; rw [top_form h hn]
structure Op (p : List Fn) (s : St) (n : Nat) (fs : List Fr) (t : Fr) (c : Int) (kd a : Int) : Prop where
  tops : Tops s n fs t c
  now : s.now = n
  op : (codeOf p t.fn.toNat).getD t.at_.toNat (0, 0) = (kd, a)
def Fr.on (t : Fr) : Fr := ⟨t.fn, t.at_ + 1, t.locals, t.stack⟩
section
variable {p : List Fn} {s : St} {n : Nat} {fs : List Fr} {t : Fr} {c : Int} {kd a : Int}
theorem Op.next (h : Op p s n fs t c kd a) : setAt s (s.top.at_ + 1) = setFib s n ⟨fs ++ [t.on], c⟩ := by
  rw [setAt_form h.tops h.now, top_form h.tops h.now]; rfl
theorem done_form (h : Op p s n fs t c kd a) {s1 : St} (h1 : setFib s n ⟨fs ++ [t.on], c⟩ = s1) : doneS p s =
    (if kd = 0 then (pushV s1 n a, 0)
      else if kd = 1 then (pullV s1, 0)
      else if kd = 2 then (pushV s1 n (t.locals.getD a.toNat 0), 0)
      else if kd = 3 then ((pullV s1).turnTop n fun f => { f with locals := f.locals.set a.toNat (lastV s1) }, 0)
      else if kd = 9 then (setAt s1 a, 0)
      else if kd = 10 then (if lastV s1 = 0 then setAt (pullV s1) a else pullV s1, 0)
      else if kd = 11 then calledS p s1 a
      else if kd = 12 then givenS s1
      else if kd = 13 then madeS p s1 a
      else if kd = 14 then resumedS s1
      else if kd = 15 then yieldedS s1
      else if kd = 16 then putS (pullV s1) (lastV s1)
      else (pushV (pullV (pullV s1)) n (reckonS kd (lastV (pullV s1)) (lastV s1)), 0)) := by
  have ht : s.top = t := top_form h.tops h.now
  have hnow : s1.now = n := by rw [← h1]; exact h.now
  have htop : s1.top = t.on := by rw [← h1]; exact top_form (h.tops.set fs t.on c) h.now
  unfold doneS
  simp only
  rw [h.next, ht, h.op, h1]
  simp only [hnow, htop]
  rfl
theorem done_stay (h : Op p s n fs t c kd a) (h0 : 0 ≤ kd) (h10 : kd ≤ 10) {ta lb : Int} (he : effS p kd a = (ta, lb, 0)) (hst : ta ≤ t.stack.length) (hat : 0 ≤ t.at_) (ha : kd = 9 ∨ kd = 10 → 0 ≤ a) :
    ∃ t' j, doneS p s = (setFib s n ⟨fs ++ [t'], c⟩, 0) ∧ t'.fn = t.fn ∧ t'.locals.length = t.locals.length ∧ (t'.stack.length : Int) = t.stack.length - ta + lb ∧ j ∈ nexts (kd, a) t.at_.toNat ∧ t'.at_ = (j : Int) := by
  have hT := h.tops.set fs t.on c
  have hN : (setFib s n ⟨fs ++ [t.on], c⟩).now = n := h.now
  have hat' : t.on.at_ = ((t.at_.toNat + 1 : Nat) : Int) := by show t.at_ + 1 = _; omega
  have hP := pull_form hT hN
  have hT2 := hT.set fs (t.on.stk (t.on.stack.dropLast)) c
  rw [← hP] at hT2
  have hN2 : (pullV (setFib s n ⟨fs ++ [t.on], c⟩)).now = n := by rw [hP]; exact h.now
  rw [done_form h rfl]
  have hstk : t.on.stack = t.stack := rfl
  have hloc : t.on.locals = t.locals := rfl
  have heff : kd ≠ 11 → ta = tk kd.toNat ∧ lb = lv kd.toNat := fun hk => by
    unfold effS at he
    rw [if_pos (by omega), if_neg hk] at he
    simp only [Prod.mk.injEq] at he
    exact ⟨he.1.symm, he.2.1.symm⟩
  obtain ⟨hta, hlb⟩ := heff (by omega)
  have hnext : kd ≠ 9 → kd ≠ 10 → nexts (kd, a) t.at_.toNat = [t.at_.toNat + 1] := fun h1 h2 => by
    unfold nexts; simp only; rw [if_neg (by omega), if_neg h1, if_neg h2]
  by_cases k0 : kd = 0
  · subst k0
    rw [if_pos rfl, push_form hT, setFib_setFib]
    refine ⟨_, _, rfl, rfl, rfl, ?_, by rw [hnext (by omega) (by omega)]; exact List.mem_singleton.2 rfl, hat'⟩
    have h1 : ta = 0 := hta
    have h2 : lb = 1 := hlb
    simp only [Fr.stk, List.length_append, List.length_singleton, hstk]; omega
  rw [if_neg k0]
  by_cases k1 : kd = 1
  · subst k1
    rw [if_pos rfl, hP, setFib_setFib]
    refine ⟨_, _, rfl, rfl, rfl, ?_, by rw [hnext (by omega) (by omega)]; exact List.mem_singleton.2 rfl, hat'⟩
    have h1 : ta = 1 := hta
    have h2 : lb = 0 := hlb
    simp only [Fr.stk, List.length_dropLast, hstk]; omega
  rw [if_neg k1]
  by_cases k2 : kd = 2
  · subst k2
    rw [if_pos rfl, push_form hT, setFib_setFib]
    refine ⟨_, _, rfl, rfl, rfl, ?_, by rw [hnext (by omega) (by omega)]; exact List.mem_singleton.2 rfl, hat'⟩
    have h1 : ta = 0 := hta
    have h2 : lb = 1 := hlb
    simp only [Fr.stk, List.length_append, List.length_singleton, hstk]; omega
  rw [if_neg k2]
  by_cases k3 : kd = 3
  · subst k3
    rw [if_pos rfl, turnTop_form hT2, hP, setFib_setFib, setFib_setFib]
    refine ⟨_, _, rfl, rfl, by simp [Fr.stk, hloc], ?_, by rw [hnext (by omega) (by omega)]; exact List.mem_singleton.2 rfl, hat'⟩
    have h1 : ta = 1 := hta
    have h2 : lb = 0 := hlb
    simp only [Fr.stk, List.length_dropLast, hstk]; omega
  rw [if_neg k3]
  by_cases k9 : kd = 9
  · subst k9
    rw [if_pos rfl, setAt_form hT hN, setFib_setFib]
    have h1 : ta = 0 := hta
    have h2 : lb = 0 := hlb
    have := ha (.inl rfl)
    refine ⟨_, a.toNat, rfl, rfl, rfl, ?_, by simp [nexts], by show a = _; omega⟩
    simp only [hstk]; omega
  rw [if_neg k9]
  by_cases k10 : kd = 10
  · subst k10
    have h1 : ta = 1 := hta
    have h2 : lb = 0 := hlb
    have := ha (.inr rfl)
    rw [if_pos rfl]
    split
    · rw [setAt_form hT2 hN2, hP, setFib_setFib, setFib_setFib]
      refine ⟨_, a.toNat, rfl, rfl, rfl, ?_, by simp [nexts], by show a = _; omega⟩
      simp only [Fr.stk, List.length_dropLast, hstk]; omega
    · rw [hP, setFib_setFib]
      refine ⟨_, t.at_.toNat + 1, rfl, rfl, rfl, ?_, by simp [nexts], hat'⟩
      simp only [Fr.stk, List.length_dropLast, hstk]; omega
  rw [if_neg k10, if_neg (by omega), if_neg (by omega), if_neg (by omega), if_neg (by omega), if_neg (by omega), if_neg (by omega)]
  have hP2 := pull_form hT2 hN2
  have hT3 := hT2.set fs ((t.on.stk t.on.stack.dropLast).stk (t.on.stk t.on.stack.dropLast).stack.dropLast) c
  rw [← hP2] at hT3
  rw [push_form hT3, hP2, hP]
  simp only [setFib_setFib]
  refine ⟨_, _, rfl, rfl, rfl, ?_, by rw [hnext k9 k10]; exact List.mem_singleton.2 rfl, hat'⟩
  have h3 : ta = 2 ∧ lb = 1 := by
    have : kd = 4 ∨ kd = 5 ∨ kd = 6 ∨ kd = 7 ∨ kd = 8 := by omega
    rcases this with rfl | rfl | rfl | rfl | rfl <;> exact ⟨hta, hlb⟩
  simp only [Fr.stk, List.length_append, List.length_singleton, List.length_dropLast, hstk]; omega
theorem goes_call (h : Op p s n fs t c 11 a) : doneS p s = if fs.length + 1 = 6 then (St.zero, 2) else
    (setFib s n ⟨fs ++ [(t.on.stk (t.stack.take (t.stack.length - (p.getD a.toNat Fn.zero).args.toNat)))] ++ [begunS p a (t.stack.drop (t.stack.length - (p.getD a.toNat Fn.zero).args.toNat))], c⟩, 0) := by
  have hT := h.tops.set fs t.on c
  have hN : (setFib s n ⟨fs ++ [t.on], c⟩).now = n := h.now
  rw [done_form h rfl]
  simp only [show ¬ ((11 : Int) = 0) by omega, show ¬ ((11 : Int) = 1) by omega, show ¬ ((11 : Int) = 2) by omega, show ¬ ((11 : Int) = 3) by omega, show ¬ ((11 : Int) = 9) by omega, show ¬ ((11 : Int) = 10) by omega, if_false, if_true]
  unfold calledS
  simp only [hN, top_form hT hN, turnTop_form hT, fib_fibAt, turn_setFib]
  rw [setFib_setFib, fibAt_same _ h.tops.lt]
  simp only [List.length_append, List.length_singleton]
  split
  · rfl
  · rw [setFib_setFib]; rfl
theorem stack_one {l : List Int} (h : 0 < l.length) : ∃ st v, l = st ++ [v] := by
  rcases List.eq_nil_or_concat l with rfl | ⟨st, v, e⟩
  · simp at h
  · exact ⟨st, v, by rw [e, List.concat_eq_append]⟩
theorem stack_two {l : List Int} (h : 2 ≤ l.length) : ∃ st x v, l = st ++ [x, v] := by
  obtain ⟨st, v, rfl⟩ := stack_one (l := l) (by omega)
  simp only [List.length_append, List.length_singleton] at h
  obtain ⟨st', x, rfl⟩ := stack_one (l := st) (by omega)
  exact ⟨st', x, v, by simp⟩
theorem done_return_in {gs : List Fr} {u : Fr} (h : Op p s n (gs ++ [u]) t c 12 a) {st : List Int} {v : Int} (hst : t.stack = st ++ [v]) : doneS p s = (setFib s n ⟨gs ++ [(u.stk (u.stack ++ [v]))], c⟩, 0) := by
  have hT := h.tops.set (gs ++ [u]) t.on c
  have hN : (setFib s n ⟨gs ++ [u] ++ [t.on], c⟩).now = n := h.now
  have hv : t.on.stack = st ++ [v] := hst
  rw [done_form h rfl]
  simp only [show ¬ ((12 : Int) = 0) by omega, show ¬ ((12 : Int) = 1) by omega, show ¬ ((12 : Int) = 2) by omega, show ¬ ((12 : Int) = 3) by omega, show ¬ ((12 : Int) = 9) by omega, show ¬ ((12 : Int) = 10) by omega, show ¬ ((12 : Int) = 11) by omega, if_false, if_true]
  unfold givenS
  simp only [hN, last_form hT hN, pull_form hT hN, fib_fibAt, turn_setFib, hv, List.getLast?_append, List.getLast?_singleton, Option.some_or, Option.getD_some]
  simp only [setFib_setFib, fibAt_same _ h.tops.lt]
  simp only [List.dropLast_concat]
  rw [if_neg (by simp)]
  have hT2 := h.tops.set gs u c
  rw [push_form hT2, setFib_setFib]
theorem done_return_end (h : Op p s n [] t c 12 a) {st : List Int} {v : Int} (hst : t.stack = st ++ [v]) (hc : c < 0) : doneS p s = putS { setFib s n ⟨[], c⟩ with now := -1 } v := by
  have hT := h.tops.set [] t.on c
  have hN : (setFib s n ⟨[] ++ [t.on], c⟩).now = n := h.now
  have hv : t.on.stack = st ++ [v] := hst
  rw [done_form h rfl]
  simp only [show ¬ ((12 : Int) = 0) by omega, show ¬ ((12 : Int) = 1) by omega, show ¬ ((12 : Int) = 2) by omega, show ¬ ((12 : Int) = 3) by omega, show ¬ ((12 : Int) = 9) by omega, show ¬ ((12 : Int) = 10) by omega, show ¬ ((12 : Int) = 11) by omega, if_false, if_true]
  unfold givenS
  simp only [hN, last_form hT hN, pull_form hT hN, fib_fibAt, turn_setFib, hv, List.getLast?_append, List.getLast?_singleton, Option.some_or, Option.getD_some]
  simp only [setFib_setFib, fibAt_same _ h.tops.lt]
  simp [hc]
theorem fibAt_set2 {s : St} {n m : Nat} (hne : n ≠ m) (b : Fb) : fibAt (setFib s n b) m = fibAt s m := fibAt_ne b hne
theorem done_return_on (h : Op p s n [] t c 12 a) {st : List Int} {v : Int} (hst : t.stack = st ++ [v]) {m : Nat} (hc : c = m) (hne : n ≠ m) {gs : List Fr} {u : Fr} {d : Int} (hm : Tops s m gs u d) :
    doneS p s = ({ setFib (setFib s n ⟨[], -1⟩) m ⟨gs ++ [(u.stk (u.stack ++ [v]))], d⟩ with now := m }, 0) := by
  have hT := h.tops.set [] t.on c
  have hN : (setFib s n ⟨[] ++ [t.on], c⟩).now = n := h.now
  have hv : t.on.stack = st ++ [v] := hst
  rw [done_form h rfl]
  simp only [show ¬ ((12 : Int) = 0) by omega, show ¬ ((12 : Int) = 1) by omega, show ¬ ((12 : Int) = 2) by omega, show ¬ ((12 : Int) = 3) by omega, show ¬ ((12 : Int) = 9) by omega, show ¬ ((12 : Int) = 10) by omega, show ¬ ((12 : Int) = 11) by omega, if_false, if_true]
  unfold givenS
  simp only [hN, last_form hT hN, pull_form hT hN, fib_fibAt, turn_setFib, hv, List.getLast?_append, List.getLast?_singleton, Option.some_or, Option.getD_some]
  simp only [setFib_setFib, fibAt_same _ h.tops.lt]
  rw [if_pos (by simp), if_neg (by omega)]
  simp only [hc]
  have hT2 : Tops { setFib s n ⟨[], -1⟩ with now := (m : Int) } m gs u d := ⟨by show m < (setFib s n ⟨[], -1⟩).fibers.length; rw [setFib_len]; exact hm.lt, (fibAt_set2 hne _).trans hm.eq⟩
  have := push_form hT2 v
  simp only [List.nil_append, List.dropLast_singleton] at this ⊢
  rw [this]
  rfl
theorem goes_make (h : Op p s n fs t c 13 a) : doneS p s = if s.fibers.length = 5 then (St.zero, 2) else
    ({ s with fibers := (setFib s n ⟨fs ++ [(t.on.stk (t.stack ++ [(s.fibers.length : Int)]))], c⟩).fibers ++ [⟨[begunS p a []], -1⟩] }, 0) := by
  have hT := h.tops.set fs t.on c
  have hN : (setFib s n ⟨fs ++ [t.on], c⟩).now = n := h.now
  rw [done_form h rfl]
  simp only [show ¬ ((13 : Int) = 0) by omega, show ¬ ((13 : Int) = 1) by omega, show ¬ ((13 : Int) = 2) by omega, show ¬ ((13 : Int) = 3) by omega, show ¬ ((13 : Int) = 9) by omega, show ¬ ((13 : Int) = 10) by omega, show ¬ ((13 : Int) = 11) by omega, show ¬ ((13 : Int) = 12) by omega, if_false, if_true]
  unfold madeS
  rw [hN, setFib_len, push_form hT, setFib_setFib]
  rfl
theorem goes_yield (h : Op p s n fs t c 15 a) (hc : c < 0) : doneS p s = (St.zero, 7) := by
  have hT := h.tops.set fs t.on c
  have hN : (setFib s n ⟨fs ++ [t.on], c⟩).now = n := h.now
  rw [done_form h rfl]
  simp only [show ¬ ((15 : Int) = 0) by omega, show ¬ ((15 : Int) = 1) by omega, show ¬ ((15 : Int) = 2) by omega, show ¬ ((15 : Int) = 3) by omega, show ¬ ((15 : Int) = 9) by omega, show ¬ ((15 : Int) = 10) by omega, show ¬ ((15 : Int) = 11) by omega, show ¬ ((15 : Int) = 12) by omega, show ¬ ((15 : Int) = 13) by omega, show ¬ ((15 : Int) = 14) by omega, if_false, if_true]
  unfold yieldedS
  simp only [hN, pull_form hT hN, fib_fibAt]
  rw [setFib_setFib, fibAt_same _ h.tops.lt, if_pos hc]
theorem done_yield_on (h : Op p s n fs t c 15 a) {st : List Int} {v : Int} (hst : t.stack = st ++ [v]) {m : Nat} (hc : c = m) (hne : n ≠ m) {gs : List Fr} {u : Fr} {d : Int} (hm : Tops s m gs u d) :
    doneS p s = ({ setFib (setFib s n ⟨fs ++ [(t.on.stk (st))], -1⟩) m ⟨gs ++ [(u.stk (u.stack ++ [v]))], d⟩ with now := m }, 0) := by
  have hT := h.tops.set fs t.on c
  have hN : (setFib s n ⟨fs ++ [t.on], c⟩).now = n := h.now
  have hv : t.on.stack = st ++ [v] := hst
  rw [done_form h rfl]
  simp only [show ¬ ((15 : Int) = 0) by omega, show ¬ ((15 : Int) = 1) by omega, show ¬ ((15 : Int) = 2) by omega, show ¬ ((15 : Int) = 3) by omega, show ¬ ((15 : Int) = 9) by omega, show ¬ ((15 : Int) = 10) by omega, show ¬ ((15 : Int) = 11) by omega, show ¬ ((15 : Int) = 12) by omega, show ¬ ((15 : Int) = 13) by omega, show ¬ ((15 : Int) = 14) by omega, if_false, if_true]
  unfold yieldedS
  simp only [hN, last_form hT hN, pull_form hT hN, fib_fibAt, turn_setFib, hv, List.getLast?_append, List.getLast?_singleton, Option.some_or, Option.getD_some, List.dropLast_concat]
  simp only [setFib_setFib, fibAt_same _ h.tops.lt]
  rw [if_neg (by omega)]
  simp only [hc]
  have hT2 : Tops { setFib s n ⟨fs ++ [(t.on.stk (st))], -1⟩ with now := (m : Int) } m gs u d := ⟨by show m < (setFib s n _).fibers.length; rw [setFib_len]; exact hm.lt, (fibAt_set2 hne _).trans hm.eq⟩
  have := push_form hT2 v
  rw [this]
  rfl
theorem goes_put (h : Op p s n fs t c 16 a) {st : List Int} {v : Int} (hst : t.stack = st ++ [v]) : doneS p s = putS (setFib s n ⟨fs ++ [(t.on.stk (st))], c⟩) v := by
  have hT := h.tops.set fs t.on c
  have hN : (setFib s n ⟨fs ++ [t.on], c⟩).now = n := h.now
  have hv : t.on.stack = st ++ [v] := hst
  rw [done_form h rfl]
  simp only [show ¬ ((16 : Int) = 0) by omega, show ¬ ((16 : Int) = 1) by omega, show ¬ ((16 : Int) = 2) by omega, show ¬ ((16 : Int) = 3) by omega, show ¬ ((16 : Int) = 9) by omega, show ¬ ((16 : Int) = 10) by omega, show ¬ ((16 : Int) = 11) by omega, show ¬ ((16 : Int) = 12) by omega, show ¬ ((16 : Int) = 13) by omega, show ¬ ((16 : Int) = 14) by omega, show ¬ ((16 : Int) = 15) by omega, if_false, if_true]
  rw [last_form hT hN, pull_form hT hN, setFib_setFib, hv]
  simp
def Fr.got (u : Fr) (v : Int) : Fr := if u.at_ = 0 then ⟨u.fn, u.at_, u.locals.set 0 v, u.stack⟩ else u.stk (u.stack ++ [v])
theorem goes_resume (h : Op p s n fs t c 14 a) {st : List Int} {x v : Int} (hst : t.stack = st ++ [x, v]) :
    doneS p s = if ixB x s.fibers.length = true then (if x ∈ (lineF s.fibers (s.fibers.length + 1) s.now []).getD [] ∨ (fibAt (setFib s n ⟨fs ++ [(t.on.stk (st))], c⟩) x.toNat).frames = [] then (St.zero, 6) else
      ({ (setFib (setFib s n ⟨fs ++ [(t.on.stk (st))], c⟩) x.toNat ((⟨(fibAt (setFib s n ⟨fs ++ [(t.on.stk (st))], c⟩) x.toNat).frames, n⟩ : Fb).turnTop fun u => u.got v)) with now := x }, 0)) else (St.zero, 5) := by
  have hT := h.tops.set fs t.on c
  have hN : (setFib s n ⟨fs ++ [t.on], c⟩).now = n := h.now
  have hv : t.on.stack = st ++ [x, v] := hst
  have hd : (st ++ [x, v]).dropLast = st ++ [x] := by
    have : st ++ [x, v] = (st ++ [x]) ++ [v] := by simp
    rw [this, List.dropLast_concat]
  have hP := pull_form hT hN
  rw [setFib_setFib, hv, hd] at hP
  have hT2 : Tops (pullV (setFib s n ⟨fs ++ [t.on], c⟩)) n fs (t.on.stk (st ++ [x])) c := by rw [hP]; exact h.tops.set _ _ _
  have hN2 : (pullV (setFib s n ⟨fs ++ [t.on], c⟩)).now = n := by rw [hP]; exact h.now
  have hP2 := pull_form hT2 hN2
  rw [hP, setFib_setFib, show (t.on.stk (st ++ [x])).stack.dropLast = st from List.dropLast_concat, show (t.on.stk (st ++ [x])).stk st = t.on.stk st from rfl] at hP2
  rw [done_form h rfl]
  simp only [show ¬ ((14 : Int) = 0) by omega, show ¬ ((14 : Int) = 1) by omega, show ¬ ((14 : Int) = 2) by omega, show ¬ ((14 : Int) = 3) by omega, show ¬ ((14 : Int) = 9) by omega, show ¬ ((14 : Int) = 10) by omega, show ¬ ((14 : Int) = 11) by omega, show ¬ ((14 : Int) = 12) by omega, show ¬ ((14 : Int) = 13) by omega, if_false, if_true]
  unfold resumedS
  have hl1 : lastV (setFib s n ⟨fs ++ [t.on], c⟩) = v := by rw [last_form hT hN, hv]; simp
  have hl2 : lastV (pullV (setFib s n ⟨fs ++ [t.on], c⟩)) = x := by rw [last_form hT2 hN2, show (t.on.stk (st ++ [x])).stack = st ++ [x] from rfl]; simp
  simp only [hl1, hl2]
  rw [hP, hP2]
  have hline : ∀ k z acc, lineF (setFib s n ⟨fs ++ [(t.on.stk (st))], c⟩).fibers k z acc = lineF s.fibers k z acc := fun k z acc => lineF_congr (fun y => by
    show (fibAt (setFib s n _) y.toNat).caller = (fibAt s y.toNat).caller
    by_cases e : n = y.toNat
    · rw [← e, fibAt_same _ h.tops.lt, h.tops.eq]
    · rw [fibAt_ne _ e]) k z acc
  have hnow : (setFib s n ⟨fs ++ [(t.on.stk (st))], c⟩).now = s.now := rfl
  rw [hline, hnow, setFib_len]
  generalize hs1 : setFib s n ⟨fs ++ [(t.on.stk (st))], c⟩ = s1
  have hs1n : s1.now = n := by rw [← hs1]; exact h.now
  split
  · rename_i hix
    obtain ⟨hx0, hx1⟩ := ixB_iff.1 hix
    obtain ⟨m, rfl⟩ : ∃ m : Nat, x = m := ⟨x.toNat, by omega⟩
    simp only [fib_fibAt, Int.toNat_natCast]
    split
    · rfl
    · rename_i hne
      simp only [turn_setFib]
      have hfr : (fibAt s1 m).frames ≠ [] := fun e => hne (.inr e)
      obtain ⟨gs, u, hgu⟩ : ∃ gs u, (fibAt s1 m).frames = gs ++ [u] := by
        rcases List.eq_nil_or_concat (fibAt s1 m).frames with e | ⟨gs, u, e⟩
        · exact absurd e hfr
        · exact ⟨gs, u, by rw [e, List.concat_eq_append]⟩
      have hml : m < s1.fibers.length := by rw [← hs1, setFib_len]; omega
      have hT3 : Tops { setFib s1 m { fibAt s1 m with caller := s.now } with now := (m : Int) } m gs u s.now := ⟨by show m < (setFib s1 m _).fibers.length; rw [setFib_len]; exact hml, by
        show fibAt (setFib s1 m _) m = _
        rw [fibAt_same _ hml, ← hgu]⟩
      rw [top_form hT3 rfl, turnTop_form hT3, push_form hT3, hgu]
      unfold Fb.turnTop Fb.top Fr.got
      rw [h.now]
      simp only [List.getLast?_append, List.getLast?_singleton, Option.some_or, Option.getD_some, List.length_append, List.length_singleton]
      split <;> simp [setFib, Fr.stk]
  · rfl
end
end Go.Proofs.YtokhibfenccijaaGreatDoor
namespace Go.Proofs.YtokhibfenccijaaGreatDoor
theorem Good.of {p : List Fn} {s s' : St} {l l' : List Int} (h : Good p s l) (hlen : s'.fibers.length = s.fibers.length) (ho : s'.out.length ≤ 30) (hpath : Path s'.fibers s'.now l') (hnd : l'.Nodup) (hlast : l' = [] ∨ l'.getLast? = some 0)
    (hmain : (0 : Int) ∉ l' → (fibAt s' 0).frames = [])
    (heach : ∀ k, k < s.fibers.length → (fibAt s' k = fibAt s k ∧ ((k : Int) ∈ l' ↔ (k : Int) ∈ l) ∧ ((k : Int) = s'.now ↔ (k : Int) = s.now)) ∨ (fiberB p (fibAt s' k) (decide ((k : Int) ∈ l')) (decide ((k : Int) = s'.now)) = true ∧ (fibAt s' k).frames.length ≤ 6)) : Good p s' l' := by
  refine ⟨h.prog, by rw [hlen]; exact h.n5, ho, fun k hk => ?_, hpath, hnd, hlast, by rw [hlen]; exact h.pos, hmain, fun k hk => ?_⟩
  · rw [hlen] at hk
    rcases heach k hk with ⟨e, _⟩ | ⟨_, e⟩
    · rw [e]; exact h.f6 k hk
    · exact e
  · rw [hlen] at hk
    rcases heach k hk with ⟨e, e1, e2⟩ | ⟨e, _⟩
    · rw [e, decide_eq_decide.2 e1, decide_eq_decide.2 e2]; exact h.each k hk
    · exact e
theorem callerOf_set {s : St} {n : Nat} {b : Fb} (hn : n < s.fibers.length) (z : Int) : callerOf (setFib s n b).fibers z = if z.toNat = n then b.caller else callerOf s.fibers z := by
  show (fibAt (setFib s n b) z.toNat).caller = _
  by_cases e : z.toNat = n
  · rw [if_pos e, e, fibAt_same _ hn]
  · rw [if_neg e, fibAt_ne _ (fun h => e h.symm)]; rfl
section
variable {p : List Fn} {s : St} {l : List Int}
theorem Good.stay (h : Good p s l) {n : Nat} (hn : s.now = n) {fs : List Fr} {t : Fr} {c : Int} (hl : n < s.fibers.length) (hc : (fibAt s n).caller = c) (hf : FrsG p fs t) (hs : (t.stack.length : Int) = hAt p t) (h6 : fs.length + 1 ≤ 6) (o : List Int) (ho : o.length ≤ 30) :
    Good p { setFib s n ⟨fs ++ [t], c⟩ with out := o } l := by
  have hin : (n : Int) ∈ l := by rw [← hn]; exact h.now_mem (by omega)
  refine h.of (setFib_len _ _ _) ho ?_ h.nodup h.last (fun h0 => ?_) (fun k hk => ?_)
  · refine h.path.congr (by show s.fibers.length ≤ (setFib s n _).fibers.length; rw [setFib_len]; omega) (fun z hz => ?_)
    have := callerOf_set (s := s) (b := ⟨fs ++ [t], c⟩) hl z
    have hz0 := h.path.inside z hz
    show callerOf (setFib s n ⟨fs ++ [t], c⟩).fibers z = _
    rw [this]
    split
    · rename_i e
      have : callerOf s.fibers z = (fibAt s n).caller := by show (fibAt s z.toNat).caller = _; rw [e]
      rw [this, hc]
    · rfl
  · have hne : n ≠ 0 := by rintro rfl; exact h0 hin
    show (fibAt (setFib s n _) 0).frames = []
    rw [fibAt_ne _ hne]
    exact h.main h0
  · by_cases e : n = k
    · subst e
      right
      have e1 : fibAt { setFib s n ⟨fs ++ [t], c⟩ with out := o } n = ⟨fs ++ [t], c⟩ := fibAt_same _ hl
      rw [e1]
      refine ⟨fiber_parts.2 ⟨hf, ?_⟩, by simpa using h6⟩
      exact (if_pos (decide_eq_true hn.symm)).mpr hs
    · exact .inl ⟨fibAt_ne _ e, Iff.rfl, Iff.rfl⟩
theorem Good.back (h : Good p s l) {n m : Nat} (hn : s.now = n) (hl : n < s.fibers.length) (hc : (fibAt s n).caller = m) {b : Fb} (hbf : fiberB p b false false = true) (hb6 : b.frames.length ≤ 6)
    {gs : List Fr} {u : Fr} {d : Int} (hd : (fibAt s m).caller = d) (hu : FrsG p gs u) (hs : (u.stack.length : Int) = hAt p u) (h6 : gs.length + 1 ≤ 6) :
    ∃ r, l = (n : Int) :: (m : Int) :: r ∧ Good p { setFib (setFib s n b) m ⟨gs ++ [u], d⟩ with now := m } ((m : Int) :: r) := by
  obtain ⟨r0, rfl⟩ := h.head (by omega)
  have hp := h.path
  obtain ⟨_, _, _, hp'⟩ := hp
  have hcn : callerOf s.fibers s.now = m := by rw [hn]; exact hc
  rw [hcn] at hp'
  cases r0 with
  | nil => have : (m : Int) = -1 := hp'; omega
  | cons x r =>
    obtain ⟨hx, hx0, hx1, hp2⟩ := hp'
    subst hx
    have hnd := h.nodup
    rw [hn] at hnd
    have hn1 := (List.nodup_cons.1 hnd)
    have hne : n ≠ m := by rintro rfl; exact hn1.1 (by simp)
    have hml : m < s.fibers.length := by omega
    have hml' : m < (setFib s n b).fibers.length := by rw [setFib_len]; exact hml
    refine ⟨r, by rw [hn], ?_⟩
    have hfib : ∀ k, fibAt { setFib (setFib s n b) m ⟨gs ++ [u], d⟩ with now := (m : Int) } k = if k = m then ⟨gs ++ [u], d⟩ else if k = n then b else fibAt s k := fun k => by
      show fibAt (setFib (setFib s n b) m _) k = _
      by_cases e : k = m
      · rw [if_pos e, e, fibAt_same _ hml']
      · rw [if_neg e, fibAt_ne _ (fun h => e h.symm)]
        by_cases e' : k = n
        · rw [if_pos e', e', fibAt_same _ hl]
        · rw [if_neg e', fibAt_ne _ (fun h => e' h.symm)]
    have hlast : (m :: r : List Int).getLast? = some 0 := by
      rcases h.last with e | e
      · cases e
      · rw [List.getLast?_cons_cons] at e; exact e
    refine h.of (by show (setFib (setFib s n b) m _).fibers.length = _; rw [setFib_len, setFib_len]) h.o30 ?_ hn1.2 (.inr hlast) (fun h0 => absurd (List.mem_of_getLast? hlast) h0) (fun k hk => ?_)
    · refine ⟨rfl, hx0, by show (m : Int) < (setFib (setFib s n b) m _).fibers.length; rw [setFib_len, setFib_len]; exact hx1, ?_⟩
      have e1 : callerOf (setFib (setFib s n b) m ⟨gs ++ [u], d⟩).fibers m = callerOf s.fibers m := by
        rw [callerOf_set hml', if_pos (by omega)]; exact hd.symm
      show Path (setFib (setFib s n b) m ⟨gs ++ [u], d⟩).fibers _ _
      rw [e1]
      refine hp2.congr (by rw [setFib_len, setFib_len]; omega) (fun z hz => ?_)
      have hzm : z ≠ m := by rintro rfl; exact (List.nodup_cons.1 hn1.2).1 hz
      have hzn : z ≠ n := by rintro rfl; exact hn1.1 (List.mem_cons_of_mem _ hz)
      have hz0 := hp2.inside z hz
      rw [callerOf_set hml', if_neg (by omega), callerOf_set hl, if_neg (by omega)]
    · rw [hfib k]
      by_cases e : k = m
      · subst e
        rw [if_pos rfl]
        right
        refine ⟨fiber_parts.2 ⟨hu, ?_⟩, by simpa using h6⟩
        rw [if_pos (decide_eq_true rfl)]
        exact hs
      · rw [if_neg e]
        by_cases e' : k = n
        · subst e'
          rw [if_pos rfl]
          right
          rw [decide_eq_false hn1.1, decide_eq_false (show ¬ ((k : Int) = (m : Int)) by omega)]
          exact ⟨hbf, hb6⟩
        · rw [if_neg e']
          left
          refine ⟨rfl, ?_, ?_⟩
          · have : ¬ (k : Int) = s.now := by omega
            simp [this]
          · constructor
            · intro h1; have h1 : (k : Int) = (m : Int) := h1; omega
            · intro h1; omega
theorem Good.forth (h : Good p s l) {n m : Nat} (hn : s.now = n) (hl : n < s.fibers.length) (hml : m < s.fibers.length) (hm : (m : Int) ∉ l) {fs : List Fr} {t : Fr} {c : Int} (hc : (fibAt s n).caller = c) (hf : FrsG p fs t) (hw : waitB p t 14 0 = true) (h6 : fs.length + 1 ≤ 6)
    {gs : List Fr} {u : Fr} (hu : FrsG p gs u) (hs : (u.stack.length : Int) = hAt p u) (h6' : gs.length + 1 ≤ 6) :
    Good p { setFib (setFib s n ⟨fs ++ [t], c⟩) m ⟨gs ++ [u], n⟩ with now := m } ((m : Int) :: l) := by
  have hin : (n : Int) ∈ l := by rw [← hn]; exact h.now_mem (by omega)
  have hne : n ≠ m := by rintro rfl; exact hm hin
  have hml' : m < (setFib s n ⟨fs ++ [t], c⟩).fibers.length := by rw [setFib_len]; exact hml
  have hfib : ∀ k, fibAt { setFib (setFib s n ⟨fs ++ [t], c⟩) m ⟨gs ++ [u], n⟩ with now := (m : Int) } k = if k = m then ⟨gs ++ [u], n⟩ else if k = n then ⟨fs ++ [t], c⟩ else fibAt s k := fun k => by
    show fibAt (setFib (setFib s n _) m _) k = _
    by_cases e : k = m
    · rw [if_pos e, e, fibAt_same _ hml']
    · rw [if_neg e, fibAt_ne _ (fun h => e h.symm)]
      by_cases e' : k = n
      · rw [if_pos e', e', fibAt_same _ hl]
      · rw [if_neg e', fibAt_ne _ (fun h => e' h.symm)]
  have hlast : ((m : Int) :: l).getLast? = some 0 := by
    obtain ⟨r, rfl⟩ := h.head (by omega)
    rcases h.last with e | e
    · cases e
    · rw [List.getLast?_cons_cons]; exact e
  refine h.of (by show (setFib (setFib s n _) m _).fibers.length = _; rw [setFib_len, setFib_len]) h.o30 ?_ (List.nodup_cons.2 ⟨hm, h.nodup⟩) (.inr hlast) (fun h0 => absurd (List.mem_of_getLast? hlast) h0) (fun k hk => ?_)
  · refine ⟨rfl, by omega, by show (m : Int) < (setFib (setFib s n _) m _).fibers.length; rw [setFib_len, setFib_len]; omega, ?_⟩
    show Path (setFib (setFib s n ⟨fs ++ [t], c⟩) m ⟨gs ++ [u], n⟩).fibers _ _
    rw [callerOf_set hml', if_pos (by omega), show ((⟨gs ++ [u], n⟩ : Fb).caller) = s.now from hn.symm]
    refine h.path.congr (by rw [setFib_len, setFib_len]; omega) (fun z hz => ?_)
    have hzm : z ≠ m := by rintro rfl; exact hm hz
    have hz0 := h.path.inside z hz
    rw [callerOf_set hml', if_neg (by omega), callerOf_set hl]
    split
    · rename_i e
      have : callerOf s.fibers z = (fibAt s n).caller := by show (fibAt s z.toNat).caller = _; rw [e]
      rw [this, hc]
    · rfl
  · rw [hfib k]
    by_cases e : k = m
    · subst e
      rw [if_pos rfl]
      right
      refine ⟨fiber_parts.2 ⟨hu, ?_⟩, by simpa using h6'⟩
      rw [if_pos (decide_eq_true rfl)]
      exact hs
    · rw [if_neg e]
      by_cases e' : k = n
      · subst e'
        rw [if_pos rfl]
        right
        refine ⟨fiber_parts.2 ⟨hf, ?_⟩, by simpa using h6⟩
        rw [decide_eq_false (show ¬ ((k : Int) = (m : Int)) by omega), if_neg (by simp), if_pos (decide_eq_true (List.mem_cons_of_mem _ hin))]
        exact hw
      · rw [if_neg e']
        left
        refine ⟨rfl, ?_, ?_⟩
        · have : ¬ (k : Int) = (m : Int) := by omega
          simp [this]
        · constructor
          · intro h1; have h1 : (k : Int) = (m : Int) := h1; omega
          · intro h1; omega
theorem Good.over (h : Good p s l) {n : Nat} (hn : s.now = n) (hl : n < s.fibers.length) {c : Int} (hc : (fibAt s n).caller = c) (hc0 : c < 0) (o : List Int) (ho : o.length ≤ 30) :
    Good p { setFib s n ⟨[], c⟩ with now := -1, out := o } [] := by
  have hcr := h.caller hl
  obtain rfl : c = -1 := by omega
  obtain ⟨r, rfl⟩ := h.head (by omega)
  have hp := h.path
  obtain ⟨_, _, _, hp'⟩ := hp
  have hcn : callerOf s.fibers s.now = -1 := by rw [hn]; exact hc
  rw [hcn] at hp'
  cases r with
  | cons x r' => obtain ⟨hx, hx0, _⟩ := hp'; omega
  | nil =>
    have hn0 : n = 0 := by
      rcases h.last with e | e
      · cases e
      · rw [hn] at e; simp at e; omega
    subst hn0
    refine h.of (setFib_len _ _ _) ho rfl List.nodup_nil (.inl rfl) (fun _ => ?_) (fun k hk => ?_)
    · show (fibAt (setFib s 0 _) 0).frames = []
      rw [fibAt_same _ hl]
    · by_cases e : 0 = k
      · subst e
        right
        have e1 : fibAt { setFib s 0 ⟨[], -1⟩ with now := -1, out := o } 0 = ⟨[], -1⟩ := fibAt_same _ hl
        rw [e1]
        exact ⟨fiber_none.2 ⟨decide_eq_false (by simp), rfl⟩, by simp⟩
      · left
        refine ⟨fibAt_ne _ e, ?_, ?_⟩
        · rw [hn]; simp; omega
        · rw [hn]
          constructor
          · intro h1; have h1 : (k : Int) = -1 := h1; omega
          · intro h1; omega
theorem Good.more (h : Good p s l) {b : Fb} (hb : fiberB p b false false = true) (hb6 : b.frames.length ≤ 6) (h5 : s.fibers.length < 5) : Good p { s with fibers := s.fibers ++ [b] } l := by
  have hlen : ({ s with fibers := s.fibers ++ [b] } : St).fibers.length = s.fibers.length + 1 := by simp
  have hold : ∀ k, k < s.fibers.length → fibAt { s with fibers := s.fibers ++ [b] } k = fibAt s k := fun k hk => by simp [fibAt, List.getD, List.getElem?_append_left hk]
  have hnew : fibAt { s with fibers := s.fibers ++ [b] } s.fibers.length = b := by simp [fibAt, List.getD]
  have hoff : ((s.fibers.length : Nat) : Int) ∉ l := fun hm => by have := h.path.inside _ hm; omega
  refine ⟨h.prog, by rw [hlen]; omega, h.o30, fun k hk => ?_, ?_, h.nodup, h.last, by rw [hlen]; omega, fun h0 => by rw [hold 0 h.pos]; exact h.main h0, fun k hk => ?_⟩
  · by_cases e : k < s.fibers.length
    · rw [hold k e]; exact h.f6 k e
    · obtain rfl : k = s.fibers.length := by omega
      rw [hnew]; exact hb6
  · refine h.path.congr (by rw [hlen]; omega) (fun z hz => ?_)
    have := h.path.inside z hz
    show (fibAt { s with fibers := s.fibers ++ [b] } z.toNat).caller = (fibAt s z.toNat).caller
    rw [hold _ (by omega)]
  · by_cases e : k < s.fibers.length
    · rw [hold k e]; exact h.each k e
    · obtain rfl : k = s.fibers.length := by omega
      rw [hnew, decide_eq_false hoff]
      have hr := h.path.range
      have : decide (((s.fibers.length : Nat) : Int) = ({ s with fibers := s.fibers ++ [b] } : St).now) = false := decide_eq_false (by show ¬ ((s.fibers.length : Nat) : Int) = s.now; omega)
      rw [this]
      exact hb
end
end Go.Proofs.YtokhibfenccijaaGreatDoor
