/-
  Of trimming, plain: a trimmed program runs as it did (D2).
-/
import Derived.Test.YtlapliclhfpgkaaDoorRunP
namespace Go.Proofs.YtlapliclhfpgkaaDoor

def mvFr (p : List Fn) (f : Fr) : Fr := ⟨f.fn, (placeS (hgtL p f.fn.toNat) f.at_.toNat : Nat), f.locals, f.stack⟩
def mvFb (p : List Fn) (b : Fb) : Fb := ⟨b.frames.map (mvFr p), b.caller⟩
def mvSt (p : List Fn) (s : St) : St := ⟨s.fibers.map (mvFb p), s.now, s.out⟩
def mvR (p : List Fn) (r : St × Int) : St × Int := (mvSt p r.1, r.2)

theorem getD_map' {α β : Type} (f : α → β) (l : List α) (n : Nat) {d : α} {e : β} (h : f d = e) : (l.map f).getD n e = f (l.getD n d) := by
  simp only [List.getD, List.getElem?_map]
  cases l[n]? <;> simp [h]
theorem mv_fib (p : List Fn) (s : St) (n : Int) : (mvSt p s).fib n = mvFb p (s.fib n) := getD_map' _ _ _ rfl
theorem mv_zero (p : List Fn) : mvFr p Fr.zero = Fr.zero := rfl
theorem mv_top (p : List Fn) (b : Fb) : (mvFb p b).top = mvFr p b.top := by
  unfold Fb.top mvFb
  simp only [List.getLast?_map]
  cases b.frames.getLast? <;> simp [mv_zero]
theorem mv_stop (p : List Fn) (s : St) : (mvSt p s).top = mvFr p s.top := by
  unfold St.top
  rw [show (mvSt p s).now = s.now from rfl, mv_fib, mv_top]
theorem mv_turn (p : List Fn) (s : St) (n : Int) (g g' : Fb → Fb) (h : g' (mvFb p (s.fib n)) = mvFb p (g (s.fib n))) : (mvSt p s).turn n g' = mvSt p (s.turn n g) := by
  unfold St.turn
  rw [mv_fib, h]
  simp [mvSt, List.map_set]
theorem mv_turnTop (p : List Fn) (b : Fb) (g g' : Fr → Fr) (h : g' (mvFr p b.top) = mvFr p (g b.top)) : (mvFb p b).turnTop g' = mvFb p (b.turnTop g) := by
  unfold Fb.turnTop
  rw [mv_top, h]
  simp [mvFb, List.map_set]
theorem mv_turnSt (p : List Fn) (s : St) (n : Int) (g g' : Fr → Fr) (h : g' (mvFr p (s.fib n).top) = mvFr p (g (s.fib n).top)) : (mvSt p s).turnTop n g' = mvSt p (s.turnTop n g) :=
  mv_turn p s n _ _ (mv_turnTop p _ _ _ h)
theorem mv_push (p : List Fn) (s : St) (n v : Int) : pushV (mvSt p s) n v = mvSt p (pushV s n v) := mv_turnSt p s n _ _ rfl
theorem mv_pull (p : List Fn) (s : St) : pullV (mvSt p s) = mvSt p (pullV s) := mv_turnSt p s s.now _ _ rfl
theorem mv_last (p : List Fn) (s : St) : lastV (mvSt p s) = lastV s := by
  unfold lastV
  rw [mv_stop]
  rfl
theorem mv_setAt (p : List Fn) (s : St) (a a' : Int) (h : a' = (placeS (hgtL p s.top.fn.toNat) a.toNat : Nat)) : setAt (mvSt p s) a' = mvSt p (setAt s a) := by
  refine mv_turnSt p s s.now _ _ ?_
  show (⟨s.top.fn, a', s.top.locals, s.top.stack⟩ : Fr) = _
  rw [h]
  rfl
theorem mv_put (p : List Fn) (s : St) (v : Int) : putS (mvSt p s) v = mvR p (putS s v) := by
  unfold putS
  rw [show (mvSt p s).out = s.out from rfl]
  split <;> rfl
theorem mv_begun {p q : List Fn} (ha : Alike p q) (f : Int) (vals : List Int) : begunS q f vals = mvFr p (begunS p f vals) := by
  unfold begunS
  rw [(ha.2 f.toNat).2]
  rfl
theorem mv_given (p : List Fn) (s : St) : givenS (mvSt p s) = mvR p (givenS s) := by
  have e : ((pullV (mvSt p s)).turn (mvSt p s).now fun b => { b with frames := b.frames.dropLast }) = mvSt p ((pullV s).turn s.now fun b => { b with frames := b.frames.dropLast }) := by
    rw [mv_pull]
    exact mv_turn p _ _ _ _ (by simp [mvFb, List.map_dropLast])
  unfold givenS
  rw [e, mv_last]
  generalize ((pullV s).turn s.now fun b => { b with frames := b.frames.dropLast }) = s1
  rw [show (mvSt p s).now = s.now from rfl]
  simp only [mv_fib]
  have h1 : ((mvFb p (s1.fib s.now)).frames = []) = ((s1.fib s.now).frames = []) := by simp [mvFb]
  simp only [h1, show (mvFb p (s1.fib s.now)).caller = (s1.fib s.now).caller from rfl]
  split
  · split
    · exact mv_put p { s1 with now := -1 } _
    · have e2 : ((mvSt p s1).turn s.now fun b => { b with caller := -1 }) = mvSt p (s1.turn s.now fun b => { b with caller := -1 }) := mv_turn p _ _ _ _ rfl
      rw [e2]
      exact congrArg (·, 0) (mv_push p { (s1.turn s.now fun b => { b with caller := -1 }) with now := (s1.fib s.now).caller } _ _)
  · exact congrArg (·, 0) (mv_push p s1 _ _)
theorem mv_line (p : List Fn) (fs : List Fb) : ∀ (k : Nat) (n : Int) (acc : List Int), lineF (fs.map (mvFb p)) k n acc = lineF fs k n acc
  | 0, _, _ => rfl
  | k + 1, n, acc => by
    have : callerOf (fs.map (mvFb p)) n = callerOf fs n := by
      unfold callerOf
      rw [getD_map' (mvFb p) fs n.toNat (d := Fb.zero) (e := Fb.zero) rfl]
      rfl
    unfold lineF
    rw [this, mv_line p fs k]
theorem place_zero {H : List Int} (h : 0 ≤ H.getD 0 0) (k : Nat) : placeS H k = 0 ↔ k = 0 := by
  constructor
  · intro e
    cases k with
    | zero => rfl
    | succ k =>
      have h1 := placeS_mono H (n := 0 + 1) (m := k + 1) (by omega)
      have h2 := placeS_succ h
      omega
  · rintro rfl; rfl
theorem first_zero {p : List Fn} (hp : progS p = 0) (k : Nat) : 0 ≤ (hgtL p k).getD 0 0 := by
  by_cases hk : k < p.length
  · obtain ⟨hc, _⟩ := cons_code hp hk
    have : (hgtL p k).getD 0 0 = 0 := hc.first
    omega
  · have : codeOf p k = [] := by simp [codeOf, List.getD, List.getElem?_eq_none (Nat.le_of_not_lt hk)]; rfl
    unfold hgtL
    rw [this]
    simp [heightsS]
theorem mv_at {p : List Fn} (hp : progS p = 0) (f : Fr) (h0 : 0 ≤ f.at_) : ((mvFr p f).at_ = 0) = (f.at_ = 0) := by
  have := place_zero (first_zero hp f.fn.toNat) f.at_.toNat
  apply propext
  show ((placeS (hgtL p f.fn.toNat) f.at_.toNat : Nat) : Int) = 0 ↔ f.at_ = 0
  omega
theorem turnTop_top (b : Fb) (g : Fr → Fr) : (b.turnTop g).top = g b.top ∨ ((b.turnTop g).top = Fr.zero ∧ b.top = Fr.zero) := by
  rcases Fb.form b with e | ⟨fs, t, e⟩
  · right; rw [e]; simp [Fb.turnTop, Fb.top]
  · left; rw [e]; simp [Fb.turnTop, Fb.top]
theorem turnTop_fib (s : St) (n m : Int) (g : Fr → Fr) : (s.turnTop n g).fib m = s.fib m ∨ (n.toNat = m.toNat ∧ (s.turnTop n g).fib m = (s.fib n).turnTop g) := by
  unfold St.turnTop St.turn St.fib
  by_cases e : n.toNat = m.toNat
  · by_cases hl : m.toNat < s.fibers.length
    · right; simp [List.getD, e, hl]
    · left; simp [List.getD, e, hl]
  · left; simp [List.getD, List.getElem?_set_ne e]
def AtPos (s : St) : Prop := ∀ n : Int, 0 ≤ (s.fib n).top.at_
theorem AtPos.turnTop {s : St} (h : AtPos s) (n : Int) {g : Fr → Fr} (hg : ∀ f, 0 ≤ f.at_ → 0 ≤ (g f).at_) : AtPos (s.turnTop n g) := by
  intro m
  rcases turnTop_fib s n m g with e | ⟨_, e⟩
  · rw [e]; exact h m
  · rw [e]
    rcases turnTop_top (s.fib n) g with e | ⟨e, _⟩
    · rw [e]; exact hg _ (h n)
    · rw [e]; decide
theorem AtPos.pull {s : St} (h : AtPos s) : AtPos (pullV s) := by unfold pullV; exact h.turnTop _ (fun _ h => h)
theorem turnTop_fn (s : St) {g : Fr → Fr} (hg : ∀ f, (g f).fn = f.fn) : (s.turnTop s.now g).top.fn = s.top.fn := by
  unfold St.top
  rw [show (s.turnTop s.now g).now = s.now from rfl]
  rcases turnTop_fib s s.now s.now g with e | ⟨_, e⟩
  · rw [e]
  · rw [e]
    rcases turnTop_top (s.fib s.now) g with e | ⟨e, e'⟩
    · rw [e]; exact hg _
    · rw [e, e']
theorem right_at {p : List Fn} {s : St} {l : List Int} (h : Good p s l) : AtPos s := by
  intro n
  have hz : 0 ≤ Fr.zero.at_ := by decide
  by_cases hk : n.toNat < s.fibers.length
  · show 0 ≤ (fibAt s n.toNat).top.at_
    rcases Fb.form (fibAt s n.toNat) with e | ⟨fs, t, e⟩
    · rw [e]; exact hz
    · have := h.each _ hk
      rw [e, fiber_parts] at this
      rw [e]
      simp only [Fb.top, List.getLast?_append, List.getLast?_singleton, Option.some_or, Option.getD_some]
      exact (frame_parts this.1.2.1).2.2.1.1
  · have : s.fib n = Fb.zero := by simp [St.fib, List.getD, List.getElem?_eq_none (Nat.le_of_not_lt hk)]
    rw [this]; exact hz
theorem mv_resumed {p : List Fn} (hp : progS p = 0) (s : St) (hat : AtPos s) : resumedS (mvSt p s) = mvR p (resumedS s) := by
  have hat1 : AtPos (pullV (pullV s)) := hat.pull.pull
  unfold resumedS
  rw [mv_pull, mv_pull, mv_last, mv_last]
  generalize pullV (pullV s) = s1 at *
  simp only [show (mvSt p s1).fibers = s1.fibers.map (mvFb p) from rfl, List.length_map, mv_line, mv_fib, show (mvSt p s1).now = s1.now from rfl]
  have h1 : ((mvFb p (s1.fib (lastV (pullV s)))).frames = []) = ((s1.fib (lastV (pullV s))).frames = []) := by simp [mvFb]
  simp only [h1]
  split
  · split
    · rfl
    · rename_i hix _
      have hn : 0 ≤ lastV (pullV s) ∧ lastV (pullV s) < s1.fibers.length := ixB_iff.1 hix
      generalize lastV (pullV s) = n at *
      have e2 : ((mvSt p s1).turn n fun b => { b with caller := s1.now }) = mvSt p (s1.turn n fun b => { b with caller := s1.now }) := mv_turn p _ _ _ _ rfl
      rw [e2]
      have ht : (St.top { (s1.turn n fun b => { b with caller := s1.now }) with now := n }) = (s1.fib n).top := by
        simp [St.top, St.fib, St.turn, Fb.top, List.getD, show n.toNat < s1.fibers.length by omega]
      have hm : (St.top { mvSt p (s1.turn n fun b => { b with caller := s1.now }) with now := n }) = mvFr p (s1.fib n).top := by
        rw [← ht]; exact mv_stop p { (s1.turn n fun b => { b with caller := s1.now }) with now := n }
      rw [hm, ht]
      simp only [mv_at hp _ (hat1 n)]
      split
      · exact congrArg (·, 0) (mv_turnSt p { (s1.turn n fun b => { b with caller := s1.now }) with now := n } n _ _ rfl)
      · exact congrArg (·, 0) (mv_push p { (s1.turn n fun b => { b with caller := s1.now }) with now := n } n _)
  · rfl
theorem mv_called {p q : List Fn} (ha : Alike p q) (s : St) (f : Int) : calledS q (mvSt p s) f = mvR p (calledS p s f) := by
  unfold calledS
  dsimp only
  rw [(ha.2 f.toNat).1, mv_stop, show (mvFr p s.top).stack = s.top.stack from rfl, show (mvSt p s).now = s.now from rfl]
  generalize (p.getD f.toNat Fn.zero).args.toNat = k
  have e : ((mvSt p s).turnTop s.now fun x => { x with stack := x.stack.take (x.stack.length - k) }) = mvSt p (s.turnTop s.now fun x => { x with stack := x.stack.take (x.stack.length - k) }) := mv_turnSt p s _ _ _ rfl
  rw [e]
  generalize (s.turnTop s.now fun x => { x with stack := x.stack.take (x.stack.length - k) }) = s1
  simp only [mv_fib, show (mvFb p (s1.fib s.now)).frames.length = (s1.fib s.now).frames.length from List.length_map _]
  split
  · rfl
  · exact congrArg (·, 0) (mv_turn p s1 _ _ _ (by simp [mvFb, mv_begun ha]))
theorem mv_yielded (p : List Fn) (s : St) : yieldedS (mvSt p s) = mvR p (yieldedS s) := by
  unfold yieldedS
  rw [mv_pull, mv_last, show (mvSt p s).now = s.now from rfl]
  generalize pullV s = s1
  simp only [mv_fib, show (mvFb p (s1.fib s.now)).caller = (s1.fib s.now).caller from rfl]
  split
  · rfl
  · have e2 : ((mvSt p s1).turn s.now fun b => { b with caller := -1 }) = mvSt p (s1.turn s.now fun b => { b with caller := -1 }) := mv_turn p _ _ _ _ rfl
    rw [e2]
    exact congrArg (·, 0) (mv_push p { (s1.turn s.now fun b => { b with caller := -1 }) with now := (s1.fib s.now).caller } _ _)
theorem mv_made {p q : List Fn} (ha : Alike p q) (s : St) (f : Int) : madeS q (mvSt p s) f = mvR p (madeS p s f) := by
  unfold madeS
  rw [mv_push, show (mvSt p s).now = s.now from rfl, show (mvSt p s).fibers.length = s.fibers.length from List.length_map _]
  split
  · rfl
  · simp [mvR, mvSt, mvFb, mv_begun ha]
theorem mvR_ite {p : List Fn} {c : Prop} [Decidable c] {a b a' b' : St × Int} (ha : a' = mvR p a) (hb : b' = mvR p b) : (if c then a' else b') = mvR p (if c then a else b) := by split <;> assumption
theorem mv_done {p q : List Fn} (hp : progS p = 0) (ha : Alike p q) (s : St) (hat : AtPos s) (hs : 0 ≤ (hgtL p s.top.fn.toNat).getD s.top.at_.toNat 0)
    (hop : (codeOf q s.top.fn.toNat).getD (placeS (hgtL p s.top.fn.toNat) s.top.at_.toNat) (0, 0) = moveS (hgtL p s.top.fn.toNat) ((codeOf p s.top.fn.toNat).getD s.top.at_.toNat (0, 0))) : doneS q (mvSt p s) = mvR p (doneS p s) := by
  have h0 : 0 ≤ s.top.at_ := hat s.now
  have e1 : setAt (mvSt p s) ((mvSt p s).top.at_ + 1) = mvSt p (setAt s (s.top.at_ + 1)) := mv_setAt p s _ _ (by
    rw [mv_stop, show (s.top.at_ + 1).toNat = s.top.at_.toNat + 1 by omega, placeS_succ hs]
    rfl)
  unfold doneS
  rw [e1, mv_stop, show (mvFr p s.top).fn = s.top.fn from rfl, show (mvFr p s.top).at_.toNat = placeS (hgtL p s.top.fn.toNat) s.top.at_.toNat from rfl, hop]
  have hat1 : AtPos (setAt s (s.top.at_ + 1)) := hat.turnTop _ fun _ _ => by show 0 ≤ s.top.at_ + 1; omega
  have hfn : s.top.fn = (setAt s (s.top.at_ + 1)).top.fn := by unfold setAt; refine (turnTop_fn s ?_).symm; intro f; rfl
  have hfn2 : s.top.fn = (pullV (setAt s (s.top.at_ + 1))).top.fn := by unfold pullV; refine hfn.trans (turnTop_fn _ ?_).symm; intro f; rfl
  generalize (codeOf p s.top.fn.toNat).getD s.top.at_.toNat (0, 0) = x at *
  generalize setAt s (s.top.at_ + 1) = s1 at *
  generalize s.top.fn = F at *
  generalize hH : hgtL p F.toNat = H at *
  simp only [move_kind, show (mvSt p s1).now = s1.now from rfl, mv_pull, mv_last, mv_stop, mv_push, show (mvFr p s1.top).locals = s1.top.locals from rfl]
  have h2 : x.1 ≠ 9 → x.1 ≠ 10 → (moveS H x).2 = x.2 := fun h h' => by simp [moveS, h, h']
  have h3 : x.1 = 9 ∨ x.1 = 10 → (moveS H x).2 = (placeS H x.2.toNat : Nat) := fun h => by simp [moveS, h]
  have K : ∀ {c : Prop} [Decidable c] {a b a' b' : St × Int}, (c → a' = mvR p a) → (¬ c → b' = mvR p b) → (if c then a' else b') = mvR p (if c then a else b) := by
    intro c _ a b a' b' ha hb
    split
    · rename_i h; exact ha h
    · rename_i h; exact hb h
  refine K (fun h => by rw [h2 (by omega) (by omega)]; rfl) (fun _ => K (fun _ => rfl) (fun _ => K (fun h => by rw [h2 (by omega) (by omega)]; rfl) (fun _ => K (fun h => ?_) (fun n9 => K (fun h => ?_) (fun n9 => K (fun h => ?_) (fun n10 => ?_))))))
  · rw [h2 (by omega) (by omega)]
    exact congrArg (·, 0) (mv_turnSt p (pullV s1) _ _ _ rfl)
  · rw [h3 (.inl h)]
    exact congrArg (·, 0) (mv_setAt p s1 _ _ (by rw [← hfn, hH]))
  · rw [h3 (.inr h)]
    rw [mv_setAt p (pullV s1) x.2 _ (by rw [← hfn2, hH])]
    split <;> rfl
  · rw [h2 ‹_› ‹_›]
    exact K (fun _ => mv_called ha _ _) (fun _ => K (fun _ => mv_given p _) (fun _ => K (fun _ => mv_made ha _ _) (fun _ => K (fun _ => mv_resumed hp _ hat1) (fun _ => K (fun _ => mv_yielded p _) (fun _ => K (fun _ => mv_put p _ _) (fun _ => rfl))))))
theorem mv_run {p : List Fn} (hp : progS p = 0) : ∀ (k : Nat) (s : St), stErrS p s = 0 → runS (trimP p) k (mvSt p s) = (mvSt p (runS p k s).1, (runS p k s).2)
  | 0, s, _ => rfl
  | k + 1, s, h => by
    by_cases hn : s.now < 0
    · rw [runS_stop p _ s (.inr hn), runS_stop _ _ (mvSt p s) (.inr hn)]
    · obtain ⟨l, _, hg⟩ := right_good h
      obtain ⟨n, fs, t, c, kd, a, ta, lb, hr⟩ := hg.runner (by omega)
      have htop : s.top = t := top_form hr.op.tops hr.op.now
      obtain ⟨⟨f0, f1⟩, _, ⟨a0, a1⟩, fh⟩ := frame_parts hr.frs.2.1
      have hat : AtPos s := right_at hg
      have e : doneS (trimP p) (mvSt p s) = mvR p (doneS p s) := by
        refine mv_done hp (trimP_alike p) s hat (by rw [htop]; exact fh) ?_
        rw [htop]
        obtain ⟨hc, _⟩ := cons_code hp (k := t.fn.toNat) (by omega)
        have hx := trimC_at hc (k := t.at_.toNat) (by omega) fh (x := (codeOf p t.fn.toNat).getD t.at_.toNat (0, 0)) (getD_of_lt _ _ _ (by omega))
        have hq : codeOf (trimP p) t.fn.toNat = trimC (hgt p t.fn.toNat) (codeOf p t.fn.toNat) := by
          show ((trimP p).getD t.fn.toNat Fn.zero).code = _
          rw [trimP_get (by omega)]; rfl
        rw [hq]
        show (trimC (hgt p t.fn.toNat) (codeOf p t.fn.toNat)).getD (placeS (hgt p t.fn.toNat) t.at_.toNat) (0, 0) = _
        rw [List.getD_eq_getElem?_getD, hx]
        rfl
      by_cases he : (doneS p s).2 = 0
      · rw [runS_go p k s hn he, runS_go _ k (mvSt p s) hn (by rw [e]; exact he), e]
        rcases right_step h (by omega) with ⟨_, h1⟩ | ⟨_, h1⟩
        · show ((runS (trimP p) k (mvSt p (doneS p s).1)).1, (runS (trimP p) k (mvSt p (doneS p s).1)).2.1 + 1, (runS (trimP p) k (mvSt p (doneS p s).1)).2.2) = _
          rw [mv_run hp k _ h1]
        · omega
      · rw [runS_err p k s hn he, runS_err _ k (mvSt p s) hn (by rw [e]; exact he), e]
        rfl
theorem mv_begin (p : List Fn) : beginS (trimP p) = mvSt p (beginS p) := by
  unfold beginS
  rw [((trimP_alike p).2 0).2]
  rfl
end Go.Proofs.YtlapliclhfpgkaaDoor
