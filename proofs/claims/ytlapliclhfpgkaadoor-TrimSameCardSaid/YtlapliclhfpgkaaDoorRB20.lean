/- GoodC -/
import Derived.Test.YtlapliclhfpgkaaDoorRB19
namespace Go.Proofs.YtlapliclhfpgkaaDoor
theorem Good.of {p : List Fn} {s s' : St} {l l' : List Int} (h : Good p s l) (hlen : s'.fibers.length = s.fibers.length) (ho : s'.out.length ≤ 30) (hpath : Path s'.fibers s'.now l') (hnd : l'.Nodup) (hlast : l' = [] ∨ l'.getLast? = some 0)
    (hmain : (0 : Int) ∉ l' → (fibAt s' 0).frames = [])
    (heach : ∀ k, k < s.fibers.length → (fibAt s' k = fibAt s k ∧ ((k : Int) ∈ l' ↔ (k : Int) ∈ l) ∧ ((k : Int) = s'.now ↔ (k : Int) = s.now)) ∨ (fiberB p (fibAt s' k) (decide ((k : Int) ∈ l')) (decide ((k : Int) = s'.now)) = true ∧ (fibAt s' k).frames.length ≤ 6)) : Good p s' l' := by
  refine ⟨h.prog, by rw [hlen]; exact h.n5, ho, fun k hk => ?_, hpath, hnd, hlast, by rw [hlen]; exact h.pos, hmain, fun k hk => ?_⟩
  · rw [hlen] at hk
    rcases heach k hk with ⟨e, _⟩ | ⟨_, e⟩
    · rw [e]; exact h.f6 k hk
    · exact e
  · rw [hlen] at hk
    rcases heach k hk with ⟨e, e1, e2⟩ | ⟨e, _⟩
    · rw [e, decide_eq_decide.2 e1, decide_eq_decide.2 e2]; exact h.each k hk
    · exact e
theorem callerOf_set {s : St} {n : Nat} {b : Fb} (hn : n < s.fibers.length) (z : Int) : callerOf (setFib s n b).fibers z = if z.toNat = n then b.caller else callerOf s.fibers z := by
  show (fibAt (setFib s n b) z.toNat).caller = _
  by_cases e : z.toNat = n
  · rw [if_pos e, e, fibAt_same _ hn]
  · rw [if_neg e, fibAt_ne _ (fun h => e h.symm)]; rfl
section
variable {p : List Fn} {s : St} {l : List Int}
theorem Good.stay (h : Good p s l) {n : Nat} (hn : s.now = n) {fs : List Fr} {t : Fr} {c : Int} (hl : n < s.fibers.length) (hc : (fibAt s n).caller = c) (hf : FrsG p fs t) (hs : (t.stack.length : Int) = hAt p t) (h6 : fs.length + 1 ≤ 6) (o : List Int) (ho : o.length ≤ 30) :
    Good p { setFib s n ⟨fs ++ [t], c⟩ with out := o } l := by
  have hin : (n : Int) ∈ l := by rw [← hn]; exact h.now_mem (by omega)
  refine h.of (setFib_len _ _ _) ho ?_ h.nodup h.last (fun h0 => ?_) (fun k hk => ?_)
  · refine h.path.congr (by show s.fibers.length ≤ (setFib s n _).fibers.length; rw [setFib_len]; omega) (fun z hz => ?_)
    have := callerOf_set (s := s) (b := ⟨fs ++ [t], c⟩) hl z
    have hz0 := h.path.inside z hz
    show callerOf (setFib s n ⟨fs ++ [t], c⟩).fibers z = _
    rw [this]
    split
    · rename_i e
      have : callerOf s.fibers z = (fibAt s n).caller := by show (fibAt s z.toNat).caller = _; rw [e]
      rw [this, hc]
    · rfl
  · have hne : n ≠ 0 := by rintro rfl; exact h0 hin
    show (fibAt (setFib s n _) 0).frames = []
    rw [fibAt_ne _ hne]
    exact h.main h0
  · by_cases e : n = k
    · subst e
      right
      have e1 : fibAt { setFib s n ⟨fs ++ [t], c⟩ with out := o } n = ⟨fs ++ [t], c⟩ := fibAt_same _ hl
      rw [e1]
      refine ⟨fiber_parts.2 ⟨hf, ?_⟩, by simpa using h6⟩
      exact (if_pos (decide_eq_true hn.symm)).mpr hs
    · exact .inl ⟨fibAt_ne _ e, Iff.rfl, Iff.rfl⟩
theorem Good.back (h : Good p s l) {n m : Nat} (hn : s.now = n) (hl : n < s.fibers.length) (hc : (fibAt s n).caller = m) {b : Fb} (hbf : fiberB p b false false = true) (hb6 : b.frames.length ≤ 6)
    {gs : List Fr} {u : Fr} {d : Int} (hd : (fibAt s m).caller = d) (hu : FrsG p gs u) (hs : (u.stack.length : Int) = hAt p u) (h6 : gs.length + 1 ≤ 6) :
    ∃ r, l = (n : Int) :: (m : Int) :: r ∧ Good p { setFib (setFib s n b) m ⟨gs ++ [u], d⟩ with now := m } ((m : Int) :: r) := by
  obtain ⟨r0, rfl⟩ := h.head (by omega)
  have hp := h.path
  obtain ⟨_, _, _, hp'⟩ := hp
  have hcn : callerOf s.fibers s.now = m := by rw [hn]; exact hc
  rw [hcn] at hp'
  cases r0 with
  | nil => have : (m : Int) = -1 := hp'; omega
  | cons x r =>
    obtain ⟨hx, hx0, hx1, hp2⟩ := hp'
    subst hx
    have hnd := h.nodup
    rw [hn] at hnd
    have hn1 := (List.nodup_cons.1 hnd)
    have hne : n ≠ m := by rintro rfl; exact hn1.1 (by simp)
    have hml : m < s.fibers.length := by omega
    have hml' : m < (setFib s n b).fibers.length := by rw [setFib_len]; exact hml
    refine ⟨r, by rw [hn], ?_⟩
    have hfib : ∀ k, fibAt { setFib (setFib s n b) m ⟨gs ++ [u], d⟩ with now := (m : Int) } k = if k = m then ⟨gs ++ [u], d⟩ else if k = n then b else fibAt s k := fun k => by
      show fibAt (setFib (setFib s n b) m _) k = _
      by_cases e : k = m
      · rw [if_pos e, e, fibAt_same _ hml']
      · rw [if_neg e, fibAt_ne _ (fun h => e h.symm)]
        by_cases e' : k = n
        · rw [if_pos e', e', fibAt_same _ hl]
        · rw [if_neg e', fibAt_ne _ (fun h => e' h.symm)]
    have hlast : (m :: r : List Int).getLast? = some 0 := by
      rcases h.last with e | e
      · cases e
      · rw [List.getLast?_cons_cons] at e; exact e
    refine h.of (by show (setFib (setFib s n b) m _).fibers.length = _; rw [setFib_len, setFib_len]) h.o30 ?_ hn1.2 (.inr hlast) (fun h0 => absurd (List.mem_of_getLast? hlast) h0) (fun k hk => ?_)
    · refine ⟨rfl, hx0, by show (m : Int) < (setFib (setFib s n b) m _).fibers.length; rw [setFib_len, setFib_len]; exact hx1, ?_⟩
      have e1 : callerOf (setFib (setFib s n b) m ⟨gs ++ [u], d⟩).fibers m = callerOf s.fibers m := by
        rw [callerOf_set hml', if_pos (by omega)]; exact hd.symm
      show Path (setFib (setFib s n b) m ⟨gs ++ [u], d⟩).fibers _ _
      rw [e1]
      refine hp2.congr (by rw [setFib_len, setFib_len]; omega) (fun z hz => ?_)
      have hzm : z ≠ m := by rintro rfl; exact (List.nodup_cons.1 hn1.2).1 hz
      have hzn : z ≠ n := by rintro rfl; exact hn1.1 (List.mem_cons_of_mem _ hz)
      have hz0 := hp2.inside z hz
      rw [callerOf_set hml', if_neg (by omega), callerOf_set hl, if_neg (by omega)]
    · rw [hfib k]
      by_cases e : k = m
      · subst e
        rw [if_pos rfl]
        right
        refine ⟨fiber_parts.2 ⟨hu, ?_⟩, by simpa using h6⟩
        rw [if_pos (decide_eq_true rfl)]
        exact hs
      · rw [if_neg e]
        by_cases e' : k = n
        · subst e'
          rw [if_pos rfl]
          right
          rw [decide_eq_false hn1.1, decide_eq_false (show ¬ ((k : Int) = (m : Int)) by omega)]
          exact ⟨hbf, hb6⟩
        · rw [if_neg e']
          left
          refine ⟨rfl, ?_, ?_⟩
          · have : ¬ (k : Int) = s.now := by omega
            simp [this]
          · constructor
            · intro h1; have h1 : (k : Int) = (m : Int) := h1; omega
            · intro h1; omega
theorem Good.forth (h : Good p s l) {n m : Nat} (hn : s.now = n) (hl : n < s.fibers.length) (hml : m < s.fibers.length) (hm : (m : Int) ∉ l) {fs : List Fr} {t : Fr} {c : Int} (hc : (fibAt s n).caller = c) (hf : FrsG p fs t) (hw : waitB p t 14 0 = true) (h6 : fs.length + 1 ≤ 6)
    {gs : List Fr} {u : Fr} (hu : FrsG p gs u) (hs : (u.stack.length : Int) = hAt p u) (h6' : gs.length + 1 ≤ 6) :
    Good p { setFib (setFib s n ⟨fs ++ [t], c⟩) m ⟨gs ++ [u], n⟩ with now := m } ((m : Int) :: l) := by
  have hin : (n : Int) ∈ l := by rw [← hn]; exact h.now_mem (by omega)
  have hne : n ≠ m := by rintro rfl; exact hm hin
  have hml' : m < (setFib s n ⟨fs ++ [t], c⟩).fibers.length := by rw [setFib_len]; exact hml
  have hfib : ∀ k, fibAt { setFib (setFib s n ⟨fs ++ [t], c⟩) m ⟨gs ++ [u], n⟩ with now := (m : Int) } k = if k = m then ⟨gs ++ [u], n⟩ else if k = n then ⟨fs ++ [t], c⟩ else fibAt s k := fun k => by
    show fibAt (setFib (setFib s n _) m _) k = _
    by_cases e : k = m
    · rw [if_pos e, e, fibAt_same _ hml']
    · rw [if_neg e, fibAt_ne _ (fun h => e h.symm)]
      by_cases e' : k = n
      · rw [if_pos e', e', fibAt_same _ hl]
      · rw [if_neg e', fibAt_ne _ (fun h => e' h.symm)]
  have hlast : ((m : Int) :: l).getLast? = some 0 := by
    obtain ⟨r, rfl⟩ := h.head (by omega)
    rcases h.last with e | e
    · cases e
    · rw [List.getLast?_cons_cons]; exact e
  refine h.of (by show (setFib (setFib s n _) m _).fibers.length = _; rw [setFib_len, setFib_len]) h.o30 ?_ (List.nodup_cons.2 ⟨hm, h.nodup⟩) (.inr hlast) (fun h0 => absurd (List.mem_of_getLast? hlast) h0) (fun k hk => ?_)
  · refine ⟨rfl, by omega, by show (m : Int) < (setFib (setFib s n _) m _).fibers.length; rw [setFib_len, setFib_len]; omega, ?_⟩
    show Path (setFib (setFib s n ⟨fs ++ [t], c⟩) m ⟨gs ++ [u], n⟩).fibers _ _
    rw [callerOf_set hml', if_pos (by omega), show ((⟨gs ++ [u], n⟩ : Fb).caller) = s.now from hn.symm]
    refine h.path.congr (by rw [setFib_len, setFib_len]; omega) (fun z hz => ?_)
    have hzm : z ≠ m := by rintro rfl; exact hm hz
    have hz0 := h.path.inside z hz
    rw [callerOf_set hml', if_neg (by omega), callerOf_set hl]
    split
    · rename_i e
      have : callerOf s.fibers z = (fibAt s n).caller := by show (fibAt s z.toNat).caller = _; rw [e]
      rw [this, hc]
    · rfl
  · rw [hfib k]
    by_cases e : k = m
    · subst e
      rw [if_pos rfl]
      right
      refine ⟨fiber_parts.2 ⟨hu, ?_⟩, by simpa using h6'⟩
      rw [if_pos (decide_eq_true rfl)]
      exact hs
    · rw [if_neg e]
      by_cases e' : k = n
      · subst e'
        rw [if_pos rfl]
        right
        refine ⟨fiber_parts.2 ⟨hf, ?_⟩, by simpa using h6⟩
        rw [decide_eq_false (show ¬ ((k : Int) = (m : Int)) by omega), if_neg (by simp), if_pos (decide_eq_true (List.mem_cons_of_mem _ hin))]
        exact hw
      · rw [if_neg e']
        left
        refine ⟨rfl, ?_, ?_⟩
        · have : ¬ (k : Int) = (m : Int) := by omega
          simp [this]
        · constructor
          · intro h1; have h1 : (k : Int) = (m : Int) := h1; omega
          · intro h1; omega
theorem Good.over (h : Good p s l) {n : Nat} (hn : s.now = n) (hl : n < s.fibers.length) {c : Int} (hc : (fibAt s n).caller = c) (hc0 : c < 0) (o : List Int) (ho : o.length ≤ 30) :
    Good p { setFib s n ⟨[], c⟩ with now := -1, out := o } [] := by
  have hcr := h.caller hl
  obtain rfl : c = -1 := by omega
  obtain ⟨r, rfl⟩ := h.head (by omega)
  have hp := h.path
  obtain ⟨_, _, _, hp'⟩ := hp
  have hcn : callerOf s.fibers s.now = -1 := by rw [hn]; exact hc
  rw [hcn] at hp'
  cases r with
  | cons x r' => obtain ⟨hx, hx0, _⟩ := hp'; omega
  | nil =>
    have hn0 : n = 0 := by
      rcases h.last with e | e
      · cases e
      · rw [hn] at e; simp at e; omega
    subst hn0
    refine h.of (setFib_len _ _ _) ho rfl List.nodup_nil (.inl rfl) (fun _ => ?_) (fun k hk => ?_)
    · show (fibAt (setFib s 0 _) 0).frames = []
      rw [fibAt_same _ hl]
    · by_cases e : 0 = k
      · subst e
        right
        have e1 : fibAt { setFib s 0 ⟨[], -1⟩ with now := -1, out := o } 0 = ⟨[], -1⟩ := fibAt_same _ hl
        rw [e1]
        exact ⟨fiber_none.2 ⟨decide_eq_false (by simp), rfl⟩, by simp⟩
      · left
        refine ⟨fibAt_ne _ e, ?_, ?_⟩
        · rw [hn]; simp; omega
        · rw [hn]
          constructor
          · intro h1; have h1 : (k : Int) = -1 := h1; omega
          · intro h1; omega
theorem Good.more (h : Good p s l) {b : Fb} (hb : fiberB p b false false = true) (hb6 : b.frames.length ≤ 6) (h5 : s.fibers.length < 5) : Good p { s with fibers := s.fibers ++ [b] } l := by
  have hlen : ({ s with fibers := s.fibers ++ [b] } : St).fibers.length = s.fibers.length + 1 := by simp
  have hold : ∀ k, k < s.fibers.length → fibAt { s with fibers := s.fibers ++ [b] } k = fibAt s k := fun k hk => by simp [fibAt, List.getD, List.getElem?_append_left hk]
  have hnew : fibAt { s with fibers := s.fibers ++ [b] } s.fibers.length = b := by simp [fibAt, List.getD]
  have hoff : ((s.fibers.length : Nat) : Int) ∉ l := fun hm => by have := h.path.inside _ hm; omega
  refine ⟨h.prog, by rw [hlen]; omega, h.o30, fun k hk => ?_, ?_, h.nodup, h.last, by rw [hlen]; omega, fun h0 => by rw [hold 0 h.pos]; exact h.main h0, fun k hk => ?_⟩
  · by_cases e : k < s.fibers.length
    · rw [hold k e]; exact h.f6 k e
    · obtain rfl : k = s.fibers.length := by omega
      rw [hnew]; exact hb6
  · refine h.path.congr (by rw [hlen]; omega) (fun z hz => ?_)
    have := h.path.inside z hz
    show (fibAt { s with fibers := s.fibers ++ [b] } z.toNat).caller = (fibAt s z.toNat).caller
    rw [hold _ (by omega)]
  · by_cases e : k < s.fibers.length
    · rw [hold k e]; exact h.each k e
    · obtain rfl : k = s.fibers.length := by omega
      rw [hnew, decide_eq_false hoff]
      have hr := h.path.range
      have : decide (((s.fibers.length : Nat) : Int) = ({ s with fibers := s.fibers ++ [b] } : St).now) = false := decide_eq_false (by show ¬ ((s.fibers.length : Nat) : Int) = s.now; omega)
      rw [this]
      exact hb
end
end Go.Proofs.YtlapliclhfpgkaaDoor
