/- StX, RunSt, RunP, TrimR, RunLs -/
import Derived.Test.YtlapliclhfpgkaaDoorRB12
import Derived.Test.YtlapliclhfpgkaaDoorRB44
import Derived.Test.YtlapliclhfpgkaaDoorRB45
namespace Go.Proofs.YtlapliclhfpgkaaDoor
open Go.RowKit

abbrev stV (oa : Option Addr) (n cap : Nat) (c : Int) (oo : Option Addr) (m co : Nat) : Value := .agg #[.slice oa n cap, .int .i64 c, .slice oo m co]
abbrev stO (oa : Option Addr) (n cap : Nat) (c : Int) (oo : Option Addr) (m co : Nat) : Obj := .cells #[.slice oa n cap, .int .i64 c, .slice oo m co] 35
theorem stAt_parts {w : World} {oa oo : Option Addr} {n cap m co : Nat} {c : Int} {s : St} (h : StAt w (.agg #[.slice oa n cap, .int .i64 c, .slice oo m co]) s) : c = s.now ∧ n = s.fibers.length ∧ m = s.out.length := by
  obtain ⟨vf, vo, e, ⟨oa', cap', e1, _, _⟩, ⟨oo', co', e2, _, _⟩⟩ := h
  subst e1 e2
  simp only [Value.agg.injEq, Array.mk.injEq, List.cons.injEq, Value.slice.injEq, Value.int.injEq, and_true, true_and] at e
  obtain ⟨⟨_, e1, _⟩, e2, _, e3, _⟩ := e
  exact ⟨e2, e1, e3⟩
theorem stAt_shape {w : World} {v : Value} {s : St} (h : StAt w v s) : ∃ oa n cap c oo m co, v = .agg #[.slice oa n cap, .int .i64 c, .slice oo m co] := by
  obtain ⟨vf, vo, rfl, ⟨oa, cap, rfl, _, _⟩, ⟨oo, co, rfl, _, _⟩⟩ := h
  exact ⟨_, _, _, _, _, _, _, rfl⟩
def GivesSt (f : FuncId) (args : Array Value) (u : World) (s : St) (more : List Value) : Prop :=
  Calls Tryd.prog f args u fun e w' => ∃ oa n cap c oo m co, e = .returned (.tuple (#[.agg #[.slice oa n cap, .int .i64 c, .slice oo m co]] ++ more.toArray)) ∧ StAt w' (.agg #[.slice oa n cap, .int .i64 c, .slice oo m co]) s ∧ Kept u w'
theorem box_st {w u : World} (hk : Kept w u) (c : Array Value) (t : TypeId) : Kept w (u.alloc (.cells c t)) ∧ (u.alloc (.cells c t)).heap[u.heap.size]? = some (.cells c t) := ⟨hk.alloc _, lays_new rfl⟩
theorem cell_new {w : World} {b : Nat} {c : Array Value} {t : TypeId} {fr : Nat × Nat} (h : w.heap[b]? = some (.cells c t fr)) (i : Nat) : ∀ o, (w.alloc o).cell? ⟨b, i, none⟩ = c[i]? := fun o => cell_lays (lays_alloc h o) i
def GivesInts (f : FuncId) (args : Array Value) (u : World) (l : List Int) (more : List Value) : Prop :=
  Calls Tryd.prog f args u fun e w' => ∃ oa n cap, e = .returned (.tuple (#[.slice oa n cap] ++ more.toArray)) ∧ n = l.length ∧ n ≤ cap ∧ IntsW w' (.slice oa n cap) l ∧ Kept u w'
theorem intsW_take {w : World} {oa : Option Addr} {n cap : Nat} {l r : List Int} (h : IntsW w (.slice oa n cap) (l ++ r)) : IntsW w (.slice oa l.length cap) l := by
  obtain ⟨oa', cap', e, hl, hi⟩ := h
  cases e
  refine ⟨oa, cap, rfl, by simp at hl; omega, fun i z hz => hi i z ?_⟩
  rw [List.getElem?_append_left (List.getElem?_eq_some_iff.1 hz).1]
  exact hz
end Go.Proofs.YtlapliclhfpgkaaDoor
namespace Go.Proofs.YtlapliclhfpgkaaDoor
open Go.RowKit

theorem rnS_small {p : List Fn} {s : St} {f : Int} : Small (rnS p s f).1 := by
  have hz : Small St.zero := by unfold Small St.zero; simp
  unfold rnS
  split
  · split
    · rename_i h; exact right_small (run_right _ h)
    · exact hz
  · exact hz
theorem stpS_small {p : List Fn} {s : St} : Small (stpS p s).1 := by
  unfold stpS
  split
  · rename_i h
    unfold oneS
    split
    · exact zero_small
    · exact step_small h (by omega)
  · exact zero_small
theorem own_st {base : Nat} {w : World} {V : Key → Value} {s : St} (h : Own base w V s) (hs : Small s) : ∃ oa n cap c oo m co, (.agg #[V .fibers, .int .i64 s.now, V .out] : Value) = .agg #[.slice oa n cap, .int .i64 c, .slice oo m co] ∧ StAt w (.agg #[.slice oa n cap, .int .i64 c, .slice oo m co]) s := by
  obtain ⟨xs, hr, _⟩ := h.piece .fibers trivial
  obtain ⟨o3, c3, E3, _⟩ := row_slice hr
  have hr4 := h.piece .out trivial
  obtain ⟨o4, c4, E4, _⟩ := row_slice hr4
  have := h.reads hs
  rw [E3, E4] at this
  exact ⟨_, _, _, _, _, _, _, by rw [E3, E4], this⟩
theorem runRun_st (p : List Fn) (s : St) (vp vs : Value) (fuel : Int) (w : World) (hp : ProgAt w vp p) (hs : StAt w vs s) (hkd : KindsAt w) :
    Calls Tryd.prog 13 #[vp, vs, .int .i64 fuel] w fun e w' => ∃ oa n cap c oo m co, e = .returned (.tuple #[.agg #[.slice oa n cap, .int .i64 c, .slice oo m co], .int .i64 (rnS p s fuel).2.1, .int .i64 (rnS p s fuel).2.2]) ∧ StAt w' (.agg #[.slice oa n cap, .int .i64 c, .slice oo m co]) (rnS p s fuel).1 ∧ Kept w w' := by
  refine (runRun_any p s vp vs fuel w hp hs hkd).mono ?_
  rintro e w' ⟨V, rfl, ho, hk⟩
  obtain ⟨oa, n, cap, c, oo, m, co, h1, h2⟩ := own_st ho rnS_small
  exact ⟨oa, n, cap, c, oo, m, co, by rw [h1], h2, hk⟩
theorem stepDo_st (p : List Fn) (s : St) (vp vs : Value) (w : World) (hp : ProgAt w vp p) (hs : StAt w vs s) (hkd : KindsAt w) :
    Calls Tryd.prog 18 #[vp, vs] w fun e w' => ∃ oa n cap c oo m co, e = .returned (.tuple #[.agg #[.slice oa n cap, .int .i64 c, .slice oo m co], .int .i64 (stpS p s).2]) ∧ StAt w' (.agg #[.slice oa n cap, .int .i64 c, .slice oo m co]) (stpS p s).1 ∧ Kept w w' := by
  refine (stepDo_any p s vp vs w hp hs hkd).mono ?_
  rintro e w' ⟨V, rfl, ho, hk⟩
  obtain ⟨oa, n, cap, c, oo, m, co, h1, h2⟩ := own_st ho stpS_small
  exact ⟨oa, n, cap, c, oo, m, co, by rw [h1], h2, hk⟩
end Go.Proofs.YtlapliclhfpgkaaDoor
namespace Go.Proofs.YtlapliclhfpgkaaDoor

theorem run_le (p : List Fn) : ∀ (k : Nat) (s : St), (runS p k s).2.1 ≤ k
  | 0, s => Nat.le_refl _
  | k + 1, s => by
    by_cases hn : s.now < 0
    · rw [runS_stop p _ s (.inr hn)]; exact Nat.zero_le _
    · by_cases he : (doneS p s).2 = 0
      · rw [runS_go p k s hn he]; exact Nat.succ_le_succ (run_le p k _)
      · rw [runS_err p k s hn he]; exact Nat.zero_le _
theorem run_fine (p : List Fn) : ∀ (k : Nat) (s : St), (runS p k s).2.2 = 0 → (runS p k s).2.1 = k ∨ (runS p k s).1.now < 0
  | 0, s, _ => .inl rfl
  | k + 1, s, h => by
    by_cases hn : s.now < 0
    · rw [runS_stop p _ s (.inr hn)]; exact .inr hn
    · by_cases he : (doneS p s).2 = 0
      · rw [runS_go p k s hn he] at h ⊢
        rcases run_fine p k _ h with e | e
        · exact .inl (congrArg Nat.succ e)
        · exact .inr e
      · rw [runS_err p k s hn he] at h; exact absurd h he
theorem run_fell (p : List Fn) : ∀ (k : Nat) (s : St), (runS p k s).2.2 ≠ 0 → (runS p k s).2.1 < k ∧ 0 ≤ (runS p k s).1.now ∧ (doneS p (runS p k s).1).2 = (runS p k s).2.2
  | 0, s, h => absurd rfl h
  | k + 1, s, h => by
    by_cases hn : s.now < 0
    · rw [runS_stop p _ s (.inr hn)] at h; exact absurd rfl h
    · by_cases he : (doneS p s).2 = 0
      · rw [runS_go p k s hn he] at h ⊢
        obtain ⟨h1, h2, h3⟩ := run_fell p k _ h
        exact ⟨Nat.succ_lt_succ h1, h2, h3⟩
      · rw [runS_err p k s hn he]; exact ⟨Nat.succ_pos _, by show 0 ≤ s.now; omega, rfl⟩
theorem run_more (p : List Fn) (n : Nat) : ∀ (m : Nat) (s : St), (runS p m s).2.2 = 0 → runS p (m + n) s = ((runS p n (runS p m s).1).1, (runS p m s).2.1 + (runS p n (runS p m s).1).2.1, (runS p n (runS p m s).1).2.2)
  | 0, s, _ => by simp [runS]
  | m + 1, s, h => by
    by_cases hn : s.now < 0
    · rw [runS_stop p (m + 1) s (.inr hn), runS_stop p _ s (.inr hn)]
      show _ = ((runS p n s).1, 0 + (runS p n s).2.1, (runS p n s).2.2)
      rw [runS_stop p _ s (.inr hn)]
      rfl
    · by_cases he : (doneS p s).2 = 0
      · rw [runS_go p m s hn he] at h ⊢
        rw [show m + 1 + n = (m + n) + 1 by omega, runS_go p _ s hn he, run_more p n m _ h]
        simp only [Prod.mk.injEq, true_and, and_true]
        omega
      · rw [runS_err p m s hn he] at h; exact absurd h he
theorem run_still (p : List Fn) (n : Nat) : ∀ (m : Nat) (s : St), (runS p m s).2.2 ≠ 0 → runS p (m + n) s = runS p m s
  | 0, s, h => absurd rfl h
  | m + 1, s, h => by
    by_cases hn : s.now < 0
    · rw [runS_stop p _ s (.inr hn)] at h; exact absurd rfl h
    · by_cases he : (doneS p s).2 = 0
      · rw [runS_go p m s hn he] at h ⊢
        rw [show m + 1 + n = (m + n) + 1 by omega, runS_go p _ s hn he, run_still p n m _ h]
      · rw [runS_err p m s hn he, show m + 1 + n = (m + n) + 1 by omega, runS_err p _ s hn he]
theorem run_again (p : List Fn) (n m : Nat) (s : St) (h : (runS p m s).2.2 ≠ 0) : runS p n (runS p m s).1 = ((runS p m s).1, 0, if n = 0 then 0 else (runS p m s).2.2) := by
  obtain ⟨_, h2, h3⟩ := run_fell p m s h
  cases n with
  | zero => rfl
  | succ n => rw [runS_err p n _ (by omega) (by rw [h3]; exact h), h3]; simp
theorem turn_out (s : St) (n : Int) (g : Fb → Fb) : (s.turn n g).out = s.out := rfl
def Outs (s : St) (r : St × Int) : Prop := r.2 = 0 → ∃ l, r.1.out = s.out ++ l
theorem outs_same {s t : St} (h : t.out = s.out) : Outs s (t, 0) := fun _ => ⟨[], by simp [h]⟩
theorem outs_err {s t : St} {e : Int} (h : e ≠ 0) : Outs s (t, e) := fun h' => absurd h' h
theorem put_out {s t : St} {v : Int} (h : t.out = s.out) : Outs s (putS t v) := by
  unfold putS
  split
  · exact outs_err (by decide)
  · exact fun _ => ⟨[v], by simp [h]⟩
theorem outs_ite {s : St} {c : Prop} [Decidable c] {a b : St × Int} (ha : Outs s a) (hb : Outs s b) : Outs s (if c then a else b) := by split <;> assumption
theorem done_outs (p : List Fn) (s : St) : Outs s (doneS p s) := by
  unfold doneS
  extract_lets x s1
  have h1 : s1.out = s.out := rfl
  clear_value x s1
  refine outs_ite (outs_same h1) (outs_ite (outs_same h1) (outs_ite (outs_same h1) (outs_ite (outs_same h1) (outs_ite (outs_same h1) (outs_ite (by split <;> exact outs_same h1) (outs_ite ?_ (outs_ite ?_ (outs_ite ?_ (outs_ite ?_ (outs_ite ?_ (outs_ite (put_out h1) (outs_same h1))))))))))))
  · exact outs_ite (outs_err (by decide)) (outs_same h1)
  · exact outs_ite (outs_ite (put_out h1) (outs_same h1)) (outs_same h1)
  · exact outs_ite (outs_err (by decide)) (outs_same h1)
  · exact outs_ite (outs_ite (outs_err (by decide)) (outs_ite (outs_same h1) (outs_same h1))) (outs_err (by decide))
  · exact outs_ite (outs_err (by decide)) (outs_same h1)
theorem done_out {p : List Fn} {s : St} (h : (doneS p s).2 = 0) : ∃ l, (doneS p s).1.out = s.out ++ l := done_outs p s h
theorem run_out (p : List Fn) : ∀ (k : Nat) (s : St), ∃ l, (runS p k s).1.out = s.out ++ l
  | 0, s => ⟨[], by simp [runS]⟩
  | k + 1, s => by
    by_cases hn : s.now < 0
    · rw [runS_stop p _ s (.inr hn)]; exact ⟨[], by simp⟩
    · by_cases he : (doneS p s).2 = 0
      · rw [runS_go p k s hn he]
        obtain ⟨l, e⟩ := done_out he
        obtain ⟨r, e'⟩ := run_out p k (doneS p s).1
        exact ⟨l ++ r, by rw [e', e]; simp⟩
      · rw [runS_err p k s hn he]; exact ⟨[], by simp⟩
end Go.Proofs.YtlapliclhfpgkaaDoor
namespace Go.Proofs.YtlapliclhfpgkaaDoor

def mvFr (p : List Fn) (f : Fr) : Fr := ⟨f.fn, (placeS (hgtL p f.fn.toNat) f.at_.toNat : Nat), f.locals, f.stack⟩
def mvFb (p : List Fn) (b : Fb) : Fb := ⟨b.frames.map (mvFr p), b.caller⟩
def mvSt (p : List Fn) (s : St) : St := ⟨s.fibers.map (mvFb p), s.now, s.out⟩
def mvR (p : List Fn) (r : St × Int) : St × Int := (mvSt p r.1, r.2)

theorem getD_map' {α β : Type} (f : α → β) (l : List α) (n : Nat) {d : α} {e : β} (h : f d = e) : (l.map f).getD n e = f (l.getD n d) := by
  simp only [List.getD, List.getElem?_map]
  cases l[n]? <;> simp [h]
theorem mv_fib (p : List Fn) (s : St) (n : Int) : (mvSt p s).fib n = mvFb p (s.fib n) := getD_map' _ _ _ rfl
theorem mv_zero (p : List Fn) : mvFr p Fr.zero = Fr.zero := rfl
theorem mv_top (p : List Fn) (b : Fb) : (mvFb p b).top = mvFr p b.top := by
  unfold Fb.top mvFb
  simp only [List.getLast?_map]
  cases b.frames.getLast? <;> simp [mv_zero]
theorem mv_stop (p : List Fn) (s : St) : (mvSt p s).top = mvFr p s.top := by
  unfold St.top
  rw [show (mvSt p s).now = s.now from rfl, mv_fib, mv_top]
theorem mv_turn (p : List Fn) (s : St) (n : Int) (g g' : Fb → Fb) (h : g' (mvFb p (s.fib n)) = mvFb p (g (s.fib n))) : (mvSt p s).turn n g' = mvSt p (s.turn n g) := by
  unfold St.turn
  rw [mv_fib, h]
  simp [mvSt, List.map_set]
theorem mv_turnTop (p : List Fn) (b : Fb) (g g' : Fr → Fr) (h : g' (mvFr p b.top) = mvFr p (g b.top)) : (mvFb p b).turnTop g' = mvFb p (b.turnTop g) := by
  unfold Fb.turnTop
  rw [mv_top, h]
  simp [mvFb, List.map_set]
theorem mv_turnSt (p : List Fn) (s : St) (n : Int) (g g' : Fr → Fr) (h : g' (mvFr p (s.fib n).top) = mvFr p (g (s.fib n).top)) : (mvSt p s).turnTop n g' = mvSt p (s.turnTop n g) :=
  mv_turn p s n _ _ (mv_turnTop p _ _ _ h)
theorem mv_push (p : List Fn) (s : St) (n v : Int) : pushV (mvSt p s) n v = mvSt p (pushV s n v) := mv_turnSt p s n _ _ rfl
theorem mv_pull (p : List Fn) (s : St) : pullV (mvSt p s) = mvSt p (pullV s) := mv_turnSt p s s.now _ _ rfl
theorem mv_last (p : List Fn) (s : St) : lastV (mvSt p s) = lastV s := by
  unfold lastV
  rw [mv_stop]
  rfl
theorem mv_setAt (p : List Fn) (s : St) (a a' : Int) (h : a' = (placeS (hgtL p s.top.fn.toNat) a.toNat : Nat)) : setAt (mvSt p s) a' = mvSt p (setAt s a) := by
  refine mv_turnSt p s s.now _ _ ?_
  show (⟨s.top.fn, a', s.top.locals, s.top.stack⟩ : Fr) = _
  rw [h]
  rfl
theorem mv_put (p : List Fn) (s : St) (v : Int) : putS (mvSt p s) v = mvR p (putS s v) := by
  unfold putS
  rw [show (mvSt p s).out = s.out from rfl]
  split <;> rfl
theorem mv_begun {p q : List Fn} (ha : Alike p q) (f : Int) (vals : List Int) : begunS q f vals = mvFr p (begunS p f vals) := by
  unfold begunS
  rw [(ha.2 f.toNat).2]
  rfl
theorem mv_given (p : List Fn) (s : St) : givenS (mvSt p s) = mvR p (givenS s) := by
  have e : ((pullV (mvSt p s)).turn (mvSt p s).now fun b => { b with frames := b.frames.dropLast }) = mvSt p ((pullV s).turn s.now fun b => { b with frames := b.frames.dropLast }) := by
    rw [mv_pull]
    exact mv_turn p _ _ _ _ (by simp [mvFb, List.map_dropLast])
  unfold givenS
  rw [e, mv_last]
  generalize ((pullV s).turn s.now fun b => { b with frames := b.frames.dropLast }) = s1
  rw [show (mvSt p s).now = s.now from rfl]
  simp only [mv_fib]
  have h1 : ((mvFb p (s1.fib s.now)).frames = []) = ((s1.fib s.now).frames = []) := by simp [mvFb]
  simp only [h1, show (mvFb p (s1.fib s.now)).caller = (s1.fib s.now).caller from rfl]
  split
  · split
    · exact mv_put p { s1 with now := -1 } _
    · have e2 : ((mvSt p s1).turn s.now fun b => { b with caller := -1 }) = mvSt p (s1.turn s.now fun b => { b with caller := -1 }) := mv_turn p _ _ _ _ rfl
      rw [e2]
      exact congrArg (·, 0) (mv_push p { (s1.turn s.now fun b => { b with caller := -1 }) with now := (s1.fib s.now).caller } _ _)
  · exact congrArg (·, 0) (mv_push p s1 _ _)
theorem mv_line (p : List Fn) (fs : List Fb) : ∀ (k : Nat) (n : Int) (acc : List Int), lineF (fs.map (mvFb p)) k n acc = lineF fs k n acc
  | 0, _, _ => rfl
  | k + 1, n, acc => by
    have : callerOf (fs.map (mvFb p)) n = callerOf fs n := by
      unfold callerOf
      rw [getD_map' (mvFb p) fs n.toNat (d := Fb.zero) (e := Fb.zero) rfl]
      rfl
    unfold lineF
    rw [this, mv_line p fs k]
theorem place_zero {H : List Int} (h : 0 ≤ H.getD 0 0) (k : Nat) : placeS H k = 0 ↔ k = 0 := by
  constructor
  · intro e
    cases k with
    | zero => rfl
    | succ k =>
      have h1 := placeS_mono H (n := 0 + 1) (m := k + 1) (by omega)
      have h2 := placeS_succ h
      omega
  · rintro rfl; rfl
theorem first_zero {p : List Fn} (hp : progS p = 0) (k : Nat) : 0 ≤ (hgtL p k).getD 0 0 := by
  by_cases hk : k < p.length
  · obtain ⟨hc, _⟩ := cons_code hp hk
    have : (hgtL p k).getD 0 0 = 0 := hc.first
    omega
  · have : codeOf p k = [] := by simp [codeOf, List.getD, List.getElem?_eq_none (Nat.le_of_not_lt hk)]; rfl
    unfold hgtL
    rw [this]
    simp [heightsS]
theorem mv_at {p : List Fn} (hp : progS p = 0) (f : Fr) (h0 : 0 ≤ f.at_) : ((mvFr p f).at_ = 0) = (f.at_ = 0) := by
  have := place_zero (first_zero hp f.fn.toNat) f.at_.toNat
  apply propext
  show ((placeS (hgtL p f.fn.toNat) f.at_.toNat : Nat) : Int) = 0 ↔ f.at_ = 0
  omega
theorem turnTop_top (b : Fb) (g : Fr → Fr) : (b.turnTop g).top = g b.top ∨ ((b.turnTop g).top = Fr.zero ∧ b.top = Fr.zero) := by
  rcases Fb.form b with e | ⟨fs, t, e⟩
  · right; rw [e]; simp [Fb.turnTop, Fb.top]
  · left; rw [e]; simp [Fb.turnTop, Fb.top]
theorem turnTop_fib (s : St) (n m : Int) (g : Fr → Fr) : (s.turnTop n g).fib m = s.fib m ∨ (n.toNat = m.toNat ∧ (s.turnTop n g).fib m = (s.fib n).turnTop g) := by
  unfold St.turnTop St.turn St.fib
  by_cases e : n.toNat = m.toNat
  · by_cases hl : m.toNat < s.fibers.length
    · right; simp [List.getD, e, hl]
    · left; simp [List.getD, e, hl]
  · left; simp [List.getD, List.getElem?_set_ne e]
def AtPos (s : St) : Prop := ∀ n : Int, 0 ≤ (s.fib n).top.at_
theorem AtPos.turnTop {s : St} (h : AtPos s) (n : Int) {g : Fr → Fr} (hg : ∀ f, 0 ≤ f.at_ → 0 ≤ (g f).at_) : AtPos (s.turnTop n g) := by
  intro m
  rcases turnTop_fib s n m g with e | ⟨_, e⟩
  · rw [e]; exact h m
  · rw [e]
    rcases turnTop_top (s.fib n) g with e | ⟨e, _⟩
    · rw [e]; exact hg _ (h n)
    · rw [e]; decide
theorem AtPos.pull {s : St} (h : AtPos s) : AtPos (pullV s) := by unfold pullV; exact h.turnTop _ (fun _ h => h)
theorem turnTop_fn (s : St) {g : Fr → Fr} (hg : ∀ f, (g f).fn = f.fn) : (s.turnTop s.now g).top.fn = s.top.fn := by
  unfold St.top
  rw [show (s.turnTop s.now g).now = s.now from rfl]
  rcases turnTop_fib s s.now s.now g with e | ⟨_, e⟩
  · rw [e]
  · rw [e]
    rcases turnTop_top (s.fib s.now) g with e | ⟨e, e'⟩
    · rw [e]; exact hg _
    · rw [e, e']
theorem right_at {p : List Fn} {s : St} {l : List Int} (h : Good p s l) : AtPos s := by
  intro n
  have hz : 0 ≤ Fr.zero.at_ := by decide
  by_cases hk : n.toNat < s.fibers.length
  · show 0 ≤ (fibAt s n.toNat).top.at_
    rcases Fb.form (fibAt s n.toNat) with e | ⟨fs, t, e⟩
    · rw [e]; exact hz
    · have := h.each _ hk
      rw [e, fiber_parts] at this
      rw [e]
      simp only [Fb.top, List.getLast?_append, List.getLast?_singleton, Option.some_or, Option.getD_some]
      exact (frame_parts this.1.2.1).2.2.1.1
  · have : s.fib n = Fb.zero := by simp [St.fib, List.getD, List.getElem?_eq_none (Nat.le_of_not_lt hk)]
    rw [this]; exact hz
theorem mv_resumed {p : List Fn} (hp : progS p = 0) (s : St) (hat : AtPos s) : resumedS (mvSt p s) = mvR p (resumedS s) := by
  have hat1 : AtPos (pullV (pullV s)) := hat.pull.pull
  unfold resumedS
  rw [mv_pull, mv_pull, mv_last, mv_last]
  generalize pullV (pullV s) = s1 at *
  simp only [show (mvSt p s1).fibers = s1.fibers.map (mvFb p) from rfl, List.length_map, mv_line, mv_fib, show (mvSt p s1).now = s1.now from rfl]
  have h1 : ((mvFb p (s1.fib (lastV (pullV s)))).frames = []) = ((s1.fib (lastV (pullV s))).frames = []) := by simp [mvFb]
  simp only [h1]
  split
  · split
    · rfl
    · rename_i hix _
      have hn : 0 ≤ lastV (pullV s) ∧ lastV (pullV s) < s1.fibers.length := ixB_iff.1 hix
      generalize lastV (pullV s) = n at *
      have e2 : ((mvSt p s1).turn n fun b => { b with caller := s1.now }) = mvSt p (s1.turn n fun b => { b with caller := s1.now }) := mv_turn p _ _ _ _ rfl
      rw [e2]
      have ht : (St.top { (s1.turn n fun b => { b with caller := s1.now }) with now := n }) = (s1.fib n).top := by
        simp [St.top, St.fib, St.turn, Fb.top, List.getD, show n.toNat < s1.fibers.length by omega]
      have hm : (St.top { mvSt p (s1.turn n fun b => { b with caller := s1.now }) with now := n }) = mvFr p (s1.fib n).top := by
        rw [← ht]; exact mv_stop p { (s1.turn n fun b => { b with caller := s1.now }) with now := n }
      rw [hm, ht]
      simp only [mv_at hp _ (hat1 n)]
      split
      · exact congrArg (·, 0) (mv_turnSt p { (s1.turn n fun b => { b with caller := s1.now }) with now := n } n _ _ rfl)
      · exact congrArg (·, 0) (mv_push p { (s1.turn n fun b => { b with caller := s1.now }) with now := n } n _)
  · rfl
theorem mv_called {p q : List Fn} (ha : Alike p q) (s : St) (f : Int) : calledS q (mvSt p s) f = mvR p (calledS p s f) := by
  unfold calledS
  dsimp only
  rw [(ha.2 f.toNat).1, mv_stop, show (mvFr p s.top).stack = s.top.stack from rfl, show (mvSt p s).now = s.now from rfl]
  generalize (p.getD f.toNat Fn.zero).args.toNat = k
  have e : ((mvSt p s).turnTop s.now fun x => { x with stack := x.stack.take (x.stack.length - k) }) = mvSt p (s.turnTop s.now fun x => { x with stack := x.stack.take (x.stack.length - k) }) := mv_turnSt p s _ _ _ rfl
  rw [e]
  generalize (s.turnTop s.now fun x => { x with stack := x.stack.take (x.stack.length - k) }) = s1
  simp only [mv_fib, show (mvFb p (s1.fib s.now)).frames.length = (s1.fib s.now).frames.length from List.length_map _]
  split
  · rfl
  · exact congrArg (·, 0) (mv_turn p s1 _ _ _ (by simp [mvFb, mv_begun ha]))
theorem mv_yielded (p : List Fn) (s : St) : yieldedS (mvSt p s) = mvR p (yieldedS s) := by
  unfold yieldedS
  rw [mv_pull, mv_last, show (mvSt p s).now = s.now from rfl]
  generalize pullV s = s1
  simp only [mv_fib, show (mvFb p (s1.fib s.now)).caller = (s1.fib s.now).caller from rfl]
  split
  · rfl
  · have e2 : ((mvSt p s1).turn s.now fun b => { b with caller := -1 }) = mvSt p (s1.turn s.now fun b => { b with caller := -1 }) := mv_turn p _ _ _ _ rfl
    rw [e2]
    exact congrArg (·, 0) (mv_push p { (s1.turn s.now fun b => { b with caller := -1 }) with now := (s1.fib s.now).caller } _ _)
theorem mv_made {p q : List Fn} (ha : Alike p q) (s : St) (f : Int) : madeS q (mvSt p s) f = mvR p (madeS p s f) := by
  unfold madeS
  rw [mv_push, show (mvSt p s).now = s.now from rfl, show (mvSt p s).fibers.length = s.fibers.length from List.length_map _]
  split
  · rfl
  · simp [mvR, mvSt, mvFb, mv_begun ha]
theorem mvR_ite {p : List Fn} {c : Prop} [Decidable c] {a b a' b' : St × Int} (ha : a' = mvR p a) (hb : b' = mvR p b) : (if c then a' else b') = mvR p (if c then a else b) := by split <;> assumption
theorem mv_done {p q : List Fn} (hp : progS p = 0) (ha : Alike p q) (s : St) (hat : AtPos s) (hs : 0 ≤ (hgtL p s.top.fn.toNat).getD s.top.at_.toNat 0)
    (hop : (codeOf q s.top.fn.toNat).getD (placeS (hgtL p s.top.fn.toNat) s.top.at_.toNat) (0, 0) = moveS (hgtL p s.top.fn.toNat) ((codeOf p s.top.fn.toNat).getD s.top.at_.toNat (0, 0))) : doneS q (mvSt p s) = mvR p (doneS p s) := by
  have h0 : 0 ≤ s.top.at_ := hat s.now
  have e1 : setAt (mvSt p s) ((mvSt p s).top.at_ + 1) = mvSt p (setAt s (s.top.at_ + 1)) := mv_setAt p s _ _ (by
    rw [mv_stop, show (s.top.at_ + 1).toNat = s.top.at_.toNat + 1 by omega, placeS_succ hs]
    rfl)
  unfold doneS
  rw [e1, mv_stop, show (mvFr p s.top).fn = s.top.fn from rfl, show (mvFr p s.top).at_.toNat = placeS (hgtL p s.top.fn.toNat) s.top.at_.toNat from rfl, hop]
  have hat1 : AtPos (setAt s (s.top.at_ + 1)) := hat.turnTop _ fun _ _ => by show 0 ≤ s.top.at_ + 1; omega
  have hfn : s.top.fn = (setAt s (s.top.at_ + 1)).top.fn := by unfold setAt; refine (turnTop_fn s ?_).symm; intro f; rfl
  have hfn2 : s.top.fn = (pullV (setAt s (s.top.at_ + 1))).top.fn := by unfold pullV; refine hfn.trans (turnTop_fn _ ?_).symm; intro f; rfl
  generalize (codeOf p s.top.fn.toNat).getD s.top.at_.toNat (0, 0) = x at *
  generalize setAt s (s.top.at_ + 1) = s1 at *
  generalize s.top.fn = F at *
  generalize hH : hgtL p F.toNat = H at *
  simp only [move_kind, show (mvSt p s1).now = s1.now from rfl, mv_pull, mv_last, mv_stop, mv_push, show (mvFr p s1.top).locals = s1.top.locals from rfl]
  have h2 : x.1 ≠ 9 → x.1 ≠ 10 → (moveS H x).2 = x.2 := fun h h' => by simp [moveS, h, h']
  have h3 : x.1 = 9 ∨ x.1 = 10 → (moveS H x).2 = (placeS H x.2.toNat : Nat) := fun h => by simp [moveS, h]
  have K : ∀ {c : Prop} [Decidable c] {a b a' b' : St × Int}, (c → a' = mvR p a) → (¬ c → b' = mvR p b) → (if c then a' else b') = mvR p (if c then a else b) := by
    intro c _ a b a' b' ha hb
    split
    · rename_i h; exact ha h
    · rename_i h; exact hb h
  refine K (fun h => by rw [h2 (by omega) (by omega)]; rfl) (fun _ => K (fun _ => rfl) (fun _ => K (fun h => by rw [h2 (by omega) (by omega)]; rfl) (fun _ => K (fun h => ?_) (fun n9 => K (fun h => ?_) (fun n9 => K (fun h => ?_) (fun n10 => ?_))))))
  · rw [h2 (by omega) (by omega)]
    exact congrArg (·, 0) (mv_turnSt p (pullV s1) _ _ _ rfl)
  · rw [h3 (.inl h)]
    exact congrArg (·, 0) (mv_setAt p s1 _ _ (by rw [← hfn, hH]))
  · rw [h3 (.inr h)]
    rw [mv_setAt p (pullV s1) x.2 _ (by rw [← hfn2, hH])]
    split <;> rfl
  · rw [h2 ‹_› ‹_›]
    exact K (fun _ => mv_called ha _ _) (fun _ => K (fun _ => mv_given p _) (fun _ => K (fun _ => mv_made ha _ _) (fun _ => K (fun _ => mv_resumed hp _ hat1) (fun _ => K (fun _ => mv_yielded p _) (fun _ => K (fun _ => mv_put p _ _) (fun _ => rfl))))))
theorem mv_run {p : List Fn} (hp : progS p = 0) : ∀ (k : Nat) (s : St), stErrS p s = 0 → runS (trimP p) k (mvSt p s) = (mvSt p (runS p k s).1, (runS p k s).2)
  | 0, s, _ => rfl
  | k + 1, s, h => by
    by_cases hn : s.now < 0
    · rw [runS_stop p _ s (.inr hn), runS_stop _ _ (mvSt p s) (.inr hn)]
    · obtain ⟨l, _, hg⟩ := right_good h
      obtain ⟨n, fs, t, c, kd, a, ta, lb, hr⟩ := hg.runner (by omega)
      have htop : s.top = t := top_form hr.op.tops hr.op.now
      obtain ⟨⟨f0, f1⟩, _, ⟨a0, a1⟩, fh⟩ := frame_parts hr.frs.2.1
      have hat : AtPos s := right_at hg
      have e : doneS (trimP p) (mvSt p s) = mvR p (doneS p s) := by
        refine mv_done hp (trimP_alike p) s hat (by rw [htop]; exact fh) ?_
        rw [htop]
        obtain ⟨hc, _⟩ := cons_code hp (k := t.fn.toNat) (by omega)
        have hx := trimC_at hc (k := t.at_.toNat) (by omega) fh (x := (codeOf p t.fn.toNat).getD t.at_.toNat (0, 0)) (getD_of_lt _ _ _ (by omega))
        have hq : codeOf (trimP p) t.fn.toNat = trimC (hgt p t.fn.toNat) (codeOf p t.fn.toNat) := by
          show ((trimP p).getD t.fn.toNat Fn.zero).code = _
          rw [trimP_get (by omega)]; rfl
        rw [hq]
        show (trimC (hgt p t.fn.toNat) (codeOf p t.fn.toNat)).getD (placeS (hgt p t.fn.toNat) t.at_.toNat) (0, 0) = _
        rw [List.getD_eq_getElem?_getD, hx]
        rfl
      by_cases he : (doneS p s).2 = 0
      · rw [runS_go p k s hn he, runS_go _ k (mvSt p s) hn (by rw [e]; exact he), e]
        rcases right_step h (by omega) with ⟨_, h1⟩ | ⟨_, h1⟩
        · show ((runS (trimP p) k (mvSt p (doneS p s).1)).1, (runS (trimP p) k (mvSt p (doneS p s).1)).2.1 + 1, (runS (trimP p) k (mvSt p (doneS p s).1)).2.2) = _
          rw [mv_run hp k _ h1]
        · omega
      · rw [runS_err p k s hn he, runS_err _ k (mvSt p s) hn (by rw [e]; exact he), e]
        rfl
theorem mv_begin (p : List Fn) : beginS (trimP p) = mvSt p (beginS p) := by
  unfold beginS
  rw [((trimP_alike p).2 0).2]
  rfl
end Go.Proofs.YtlapliclhfpgkaaDoor
namespace Go.Proofs.YtlapliclhfpgkaaDoor
open Go.RowKit

theorem all_small {p : List Fn} {f : Int} : (allS p f).1.length ≤ 1000 := by
  unfold allS
  split
  · split
    · exact rnS_small.2.1
    · simp
  · simp
theorem runAll_gives (p : List Fn) (vp : Value) (fuel : Int) (w : World) (hp : ProgAt w vp p) (hkd : KindsAt w) : GivesInts 10 #[vp, .int .i64 fuel] w (allS p fuel).1 [.int .i64 (allS p fuel).2.1, .int .i64 (allS p fuel).2.2] := by
  refine (runAll_any p vp fuel w hp hkd).mono ?_
  rintro e w' ⟨v, rfl, hr, hk⟩
  obtain ⟨oa, cap, rfl, _⟩ := row_slice hr
  exact ⟨oa, _, cap, rfl, rfl, row_cap hr, ints_row hr all_small, hk⟩
theorem runRun_gives (p : List Fn) (s : St) (vp vs : Value) (fuel : Int) (w : World) (hp : ProgAt w vp p) (hs : StAt w vs s) (hkd : KindsAt w) : GivesSt 13 #[vp, vs, .int .i64 fuel] w (rnS p s fuel).1 [.int .i64 (rnS p s fuel).2.1, .int .i64 (rnS p s fuel).2.2] := runRun_st p s vp vs fuel w hp hs hkd
theorem stepDo_gives (p : List Fn) (s : St) (vp vs : Value) (w : World) (hp : ProgAt w vp p) (hs : StAt w vs s) (hkd : KindsAt w) : GivesSt 18 #[vp, vs] w (stpS p s).1 [.int .i64 (stpS p s).2] := stepDo_st p s vp vs w hp hs hkd
theorem choose_is (c : Int) (n : Nat) (hw : (Lit.int .i64 c).wf = true) (hn : 0 < n) (hm : n ≤ 8796093022208) (u : World) : Calls Tryd.prog 11 #[.int .i64 c, .int .i64 n] u fun e w' => e = .returned (.int .i64 (chooseS c n)) ∧ w' = u := by
  refine (choose_any c n u hw hn hm).mono ?_
  rintro e w' ⟨rfl, h⟩
  exact ⟨rfl, h.symm⟩
theorem sameInts_is (l : List Int) (u : World) (v1 v2 : Value) (h1 : IntsW u v1 l) (h2 : IntsW u v2 l) : Calls Tryd.prog 12 #[v1, v2] u fun e w' => e = .returned (.bool true) ∧ Kept u w' := by
  refine (sameInts_w l l v1 v2 u h1 h2).mono ?_
  rintro e w' ⟨rfl, h⟩
  exact ⟨by rw [decide_eq_true rfl], h⟩
theorem run_in {p : List Fn} {s : St} {m : Nat} (hm : m ≤ 500) (h0 : stErrS p s = 0) : rnS p s m = runS p m s := by
  unfold rnS
  rw [if_pos (inB_true (by omega) (by omega)), if_pos h0]
  rfl
theorem all_in {p : List Fn} {m : Nat} (hm : m ≤ 500) (h0 : progS p = 0) : allS p m = ((runS p m (beginS p)).1.out, (runS p m (beginS p)).2) := by
  unfold allS
  rw [if_pos (inB_true (by omega) (by omega)), if_pos h0, run_in hm (begin_right h0)]
theorem right_over {p : List Fn} {s : St} (h : stErrS p s = 0) (hn : s.now < 0) : s.now = -1 := by
  have := (limS_zero (right_parts h).2.1).2.2.2.2.1
  omega
end Go.Proofs.YtlapliclhfpgkaaDoor
