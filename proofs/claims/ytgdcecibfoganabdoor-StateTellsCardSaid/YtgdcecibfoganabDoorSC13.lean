/-
  A state of one's own: a fiber comes; a number is put out; how it is read; the variable that holds it.
  A state of one's own: what its cells hold; the variable that holds it, turned.
  Plain functions: who may come to be begun by a function, as the program goes (visitS), and as the reference does, round by round (callsS): one and the same.
  Plain functions: what is wrong with a program (B1), who is called (B2).
-/
import Derived.Test.YtgdcecibfoganabDoorSC12
import Derived.Test.YtgdcecibfoganabDoorSC01
import Derived.Test.YtgdcecibfoganabDoorSC09

namespace Go.Proofs.YtgdcecibfoganabDoor
open Go.RowKit

/-- What was put out is turned. -/
theorem Own.turnOut {base : Nat} {w w1 : World} {V : Key → Value} {s : St} (h : Own base w V s) (l : List Int) (vo : Value) (hown : w1.ownsRow base 3 1 vo l.length (ints l))
    (hgrow : ∀ b, b < w.heap.size → (V .out).ownBlock ≠ some b → w1.heap[b]? = w.heap[b]?) (hat : vo.ownBlock = (V .out).ownBlock ∨ vo.ownBlock = some w.heap.size) : Own base w1 (upd V .out vo) { s with out := l } := by
  have hlv : ∀ k, live { s with out := l } k ↔ live s k := fun k => by cases k <;> exact Iff.rfl
  refine h.turned (fun k hk => ?_) (fun k b hk e => ?_) (fun k k' b hk hk' ho e e' => ?_)
  · have hlk := (hlv k).1 hk
    by_cases hko : k = .out
    · subst hko; left
      show World.ownsRow _ _ _ _ _ _ _
      rw [upd_same]; exact hown
    · right
      refine ⟨hlk, upd_ne V vo hko, fun hp => ?_, fun b e => hgrow b ((h.piece k hlk).block b e).2 (fun e' => hko (h.apart k .out b hlk trivial e e'))⟩
      cases k with
      | fibers =>
        obtain ⟨xs, r1, r2⟩ := hp
        exact ⟨xs, by rw [upd_ne V vo hko]; exact r1, fun i hi => by rw [upd_ne V vo (by simp)]; exact r2 i hi⟩
      | out => exact absurd rfl hko
      | frames i =>
        obtain ⟨xs, r1, r2⟩ := hp
        exact ⟨xs, by rw [upd_ne V vo hko]; exact r1, fun j hj => by rw [upd_ne V vo (by simp), upd_ne V vo (by simp)]; exact r2 j hj⟩
      | locals i j => simp only [Piece] at hp ⊢; rw [upd_ne V vo hko]; exact hp
      | stack i j => simp only [Piece] at hp ⊢; rw [upd_ne V vo hko]; exact hp
  · have hlk := (hlv k).1 hk
    by_cases hko : k = .out
    · subst hko
      rw [upd_same] at e
      rcases hat with e' | e'
      · exact .inl ⟨hlk, by rw [← e', e]⟩
      · rw [e] at e'; cases e'; exact .inr (h.new_off (.inl (Nat.le_refl _)))
    · rw [upd_ne V vo hko] at e; exact .inl ⟨hlk, e⟩
  · by_cases hko : k = .out
    · by_cases hko' : k' = .out
      · rw [hko, hko']
      · rw [upd_ne V vo hko'] at e'; exact absurd e' (ho k' ((hlv k').1 hk'))
    · rw [upd_ne V vo hko] at e; exact absurd e (ho k ((hlv k).1 hk))

/-- A fiber comes: of one frame. -/
theorem Own.addFiber {base : Nat} {w w1 : World} {V : Key → Value} {s : St} (h : Own base w V s) (f : Fr) (c : Int) (vl vf vF : Value) (hst : f.stack = []) {gl gf : Nat} (hgl : vl.ownBlock = none ∨ vl.ownBlock = some gl) (hgf : vf.ownBlock = some gf) (hne : gl ≠ gf)
    (hoff : Own.off V s gl) (hoff' : Own.off V s gf) (hlt : gl < w.heap.size) (hlt' : gf < w.heap.size)
    (hloc : w1.ownsRow base 3 1 vl f.locals.length (ints f.locals)) (hfr : w1.ownsRow base 76 4 vf 1 [.int .i64 f.fn, .int .i64 f.at_, vl, .slice none 0 0])
    (hgrow : ∀ b, b < w.heap.size → (V .fibers).ownBlock ≠ some b → w1.heap[b]? = w.heap[b]?)
    (hown : ∀ xs, w.ownsRow base 79 2 (V .fibers) s.fibers.length xs → w1.ownsRow base 79 2 vF (s.fibers.length + 1) (xs ++ [vf, .int .i64 c]))
    (hat : vF.ownBlock = (V .fibers).ownBlock ∨ vF.ownBlock = some w.heap.size) :
    Own base w1 (upd (upd (upd (upd V .fibers vF) (.frames s.fibers.length) vf) (.locals s.fibers.length 0) vl) (.stack s.fibers.length 0) (.slice none 0 0)) { s with fibers := s.fibers ++ [⟨[f], c⟩] } := by
  generalize hn : s.fibers.length = n at *
  have hlen : ({ s with fibers := s.fibers ++ [⟨[f], c⟩] } : St).fibers.length = n + 1 := by simp [hn]
  have hfo : ∀ t, t < n → fibAt { s with fibers := s.fibers ++ [⟨[f], c⟩] } t = fibAt s t := fun t ht => getD_append_left _ _ _ _ (by rw [hn]; exact ht)
  have hfn : fibAt { s with fibers := s.fibers ++ [⟨[f], c⟩] } n = ⟨[f], c⟩ := by rw [← hn]; exact getD_append_len _ _ _
  have hfrn : frAt { s with fibers := s.fibers ++ [⟨[f], c⟩] } n 0 = f := by unfold frAt; rw [hfn]; rfl
  have hfro : ∀ t q, t < n → frAt { s with fibers := s.fibers ++ [⟨[f], c⟩] } t q = frAt s t q := fun t q ht => by unfold frAt; rw [hfo t ht]
  have hlv : ∀ k, live { s with fibers := s.fibers ++ [⟨[f], c⟩] } k → k = .frames n ∨ k = .locals n 0 ∨ k = .stack n 0 ∨ (live s k ∧ ∀ t q, (k = .frames t ∨ k = .locals t q ∨ k = .stack t q) → t < n) := by
    intro k hk
    cases k with
    | fibers => exact .inr (.inr (.inr ⟨trivial, fun t q h => by simp at h⟩))
    | out => exact .inr (.inr (.inr ⟨trivial, fun t q h => by simp at h⟩))
    | frames t =>
      simp only [live, hlen] at hk
      by_cases e : t = n
      · left; rw [e]
      · exact .inr (.inr (.inr ⟨by show t < s.fibers.length; omega, fun t' q h => by simp at h; omega⟩))
    | locals t q =>
      simp only [live, hlen] at hk
      by_cases e : t = n
      · subst e; rw [hfn] at hk; simp at hk
        right; left; rw [hk]
      · rw [hfo t (by omega)] at hk
        exact .inr (.inr (.inr ⟨⟨by omega, hk.2⟩, fun t' q h => by simp at h; omega⟩))
    | stack t q =>
      simp only [live, hlen] at hk
      by_cases e : t = n
      · subst e; rw [hfn] at hk; simp at hk
        right; right; left; rw [hk]
      · rw [hfo t (by omega)] at hk
        exact .inr (.inr (.inr ⟨⟨by omega, hk.2⟩, fun t' q h => by simp at h; omega⟩))
  have hd0 : ¬ live s (.frames n) := fun hh => by have : n < s.fibers.length := hh; omega
  have hd1 : ¬ live s (.locals n 0) := fun hh => by have := hh.1; omega
  have hd2 : ¬ live s (.stack n 0) := fun hh => by have := hh.1; omega
  have hVold : ∀ k, live s k → k ≠ .fibers → upd (upd (upd (upd V .fibers vF) (.frames n) vf) (.locals n 0) vl) (.stack n 0) (.slice none 0 0) k = V k := fun k hk e => by
    rw [upd_ne _ _ (fun (e : k = .stack n 0) => hd2 (e ▸ hk)), upd_ne _ _ (fun (e : k = .locals n 0) => hd1 (e ▸ hk)), upd_ne _ _ (fun (e : k = .frames n) => hd0 (e ▸ hk)), upd_ne _ _ e]
  have hVF : upd (upd (upd (upd V .fibers vF) (.frames n) vf) (.locals n 0) vl) (.stack n 0) (.slice none 0 0) .fibers = vF := by
    rw [upd_ne _ _ (by simp), upd_ne _ _ (by simp), upd_ne _ _ (by simp), upd_same]
  have hVf : upd (upd (upd (upd V .fibers vF) (.frames n) vf) (.locals n 0) vl) (.stack n 0) (.slice none 0 0) (.frames n) = vf := by
    rw [upd_ne _ _ (by simp), upd_ne _ _ (by simp), upd_same]
  have hVl : upd (upd (upd (upd V .fibers vF) (.frames n) vf) (.locals n 0) vl) (.stack n 0) (.slice none 0 0) (.locals n 0) = vl := by
    rw [upd_ne _ _ (by simp), upd_same]
  have hVs : upd (upd (upd (upd V .fibers vF) (.frames n) vf) (.locals n 0) vl) (.stack n 0) (.slice none 0 0) (.stack n 0) = .slice none 0 0 := upd_same _ _ _
  generalize upd (upd (upd (upd V .fibers vF) (.frames n) vf) (.locals n 0) vl) (.stack n 0) (.slice none 0 0) = V' at *
  refine h.turned (fun k hk => ?_) (fun k b hk e => ?_) (fun k k' b hk hk' ho e e' => ?_)
  · rcases hlv k hk with rfl | rfl | rfl | ⟨hlk, hq⟩
    · left
      refine ⟨_, by rw [hVf, hfn]; exact hfr, fun j hj => ?_⟩
      rw [hfn] at hj
      simp at hj
      subst hj
      rw [hfrn, hVl, hVs]
      exact ⟨rfl, rfl, rfl, rfl⟩
    · left
      show World.ownsRow _ _ _ _ _ _ _
      rw [hVl, hfrn]; exact hloc
    · left
      show World.ownsRow _ _ _ _ _ _ _
      rw [hVs, hfrn, hst]; exact World.ownsRow_nil _ _ _ _
    · by_cases hkF : k = .fibers
      · subst hkF; left
        obtain ⟨xs, h1, h2⟩ := h.piece .fibers trivial
        rw [hn] at h1 h2
        refine ⟨_, by rw [hVF, hlen]; exact hown xs h1, fun t ht => ?_⟩
        rw [hlen] at ht
        have hxl : xs.length = n * 2 := h1.1
        by_cases e : t = n
        · subst e
          rw [hVf, hfn]
          refine ⟨?_, ?_⟩ <;> rw [List.getElem?_append_right (by omega), hxl]
          · rw [show t * 2 - t * 2 = 0 by omega]; rfl
          · rw [show t * 2 + 1 - t * 2 = 1 by omega]; rfl
        · have htn : t < n := by omega
          obtain ⟨q0, q1⟩ := h2 t htn
          rw [hVold (.frames t) (by show t < s.fibers.length; omega) (by simp), hfo t htn]
          refine ⟨?_, ?_⟩ <;> rw [List.getElem?_append_left (by omega)] <;> assumption
      · right
        refine ⟨hlk, hVold k hlk hkF, fun hp => ?_, fun b e => hgrow b ((h.piece k hlk).block b e).2 (fun e' => hkF (h.apart k .fibers b hlk trivial e e'))⟩
        cases k with
        | fibers => exact absurd rfl hkF
        | out => simp only [Piece] at hp ⊢; rw [hVold _ hlk hkF]; exact hp
        | frames t =>
          have htn := hq t 0 (.inl rfl)
          obtain ⟨xs, r1, r2⟩ := hp
          refine ⟨xs, by rw [hfo t htn, hVold _ hlk hkF]; exact r1, fun q hq' => ?_⟩
          rw [hfo t htn] at hq'
          rw [hfro t q htn, hVold (.locals t q) ⟨hlk, hq'⟩ (by simp), hVold (.stack t q) ⟨hlk, hq'⟩ (by simp)]
          exact r2 q hq'
        | locals t q => simp only [Piece] at hp ⊢; rw [hVold _ hlk hkF, hfro t q (hq t q (.inr (.inl rfl)))]; exact hp
        | stack t q => simp only [Piece] at hp ⊢; rw [hVold _ hlk hkF, hfro t q (hq t q (.inr (.inr rfl)))]; exact hp
  · rcases hlv k hk with rfl | rfl | rfl | ⟨hlk, hq⟩
    · right; rw [hVf, hgf] at e; cases e; exact hoff'
    · right
      rw [hVl] at e
      rcases hgl with e' | e'
      · rw [e'] at e; cases e
      · rw [e'] at e; cases e; exact hoff
    · rw [hVs] at e; cases e
    · by_cases hkF : k = .fibers
      · subst hkF
        rw [hVF] at e
        rcases hat with e' | e'
        · exact .inl ⟨trivial, by rw [← e', e]⟩
        · rw [e] at e'; cases e'; exact .inr (h.new_off (.inl (Nat.le_refl _)))
      · rw [hVold k hlk hkF] at e; exact .inl ⟨hlk, e⟩
  · have hwhich : ∀ k, live { s with fibers := s.fibers ++ [⟨[f], c⟩] } k → (V' k).ownBlock = some b → (k = .locals n 0 ∧ b = gl) ∨ (k = .frames n ∧ b = gf) ∨ (k = .fibers ∧ b = w.heap.size) := by
      intro k hk e
      rcases hlv k hk with rfl | rfl | rfl | ⟨hlk, hq⟩
      · rw [hVf, hgf] at e; cases e; exact .inr (.inl ⟨rfl, rfl⟩)
      · left
        rw [hVl] at e
        rcases hgl with e' | e'
        · rw [e'] at e; cases e
        · rw [e'] at e; cases e; exact ⟨rfl, rfl⟩
      · rw [hVs] at e; cases e
      · by_cases hkF : k = .fibers
        · subst hkF
          rw [hVF] at e
          rcases hat with e' | e'
          · exact absurd (by rw [← e', e]) (ho .fibers trivial)
          · rw [e] at e'; cases e'; exact .inr (.inr ⟨rfl, rfl⟩)
        · rw [hVold k hlk hkF] at e
          exact absurd e (ho k hlk)
    rcases hwhich k hk e with ⟨h1, h2⟩ | ⟨h1, h2⟩ | ⟨h1, h2⟩ <;> rcases hwhich k' hk' e' with ⟨h3, h4⟩ | ⟨h3, h4⟩ | ⟨h3, h4⟩ <;> first | omega | (rw [h1, h3])

/-- No list of it is too long to be read. -/
def Small (s : St) : Prop := s.fibers.length ≤ 1000 ∧ s.out.length ≤ 1000 ∧ ∀ b, b ∈ s.fibers → b.frames.length ≤ 1000 ∧ ∀ f, f ∈ b.frames → f.locals.length ≤ 1000 ∧ f.stack.length ≤ 1000

theorem row_cap {w : World} {base : Nat} {e : TypeId} {size : Nat} {oa : Option Addr} {n cap : Nat} {xs : List Value} (h : w.ownsRow base e size (.slice oa n cap) n xs) : n ≤ cap := by
  rcases h.2 with ⟨h1, h2⟩ | ⟨g, c, cur, h1, _, _, h2, _⟩
  · omega
  · simp only [Value.slice.injEq] at h1
    omega
theorem row_slice {w : World} {base : Nat} {e : TypeId} {size : Nat} {v : Value} {n : Nat} {xs : List Value} (h : w.ownsRow base e size v n xs) : ∃ oa cap, v = .slice oa n cap ∧ (oa = none ∧ n = 0 ∨ ∃ g, oa = some ⟨g, 0, none⟩ ∧ ∀ j u, xs[j]? = some u → w.cell? ⟨g, j, none⟩ = some u) := by
  rcases h.2 with ⟨rfl, rfl⟩ | ⟨g, cap, cur, rfl, hb, hg, hnc, hcm, hcs, htake⟩
  · exact ⟨none, 0, rfl, .inl ⟨rfl, rfl⟩⟩
  · refine ⟨_, cap, rfl, .inr ⟨g, rfl, fun j u hu => ?_⟩⟩
    have := h.cells (g := g) rfl j u hu
    have hadd : (⟨g, 0, none⟩ : Addr).add j = ⟨g, j, none⟩ := by unfold Addr.add; split <;> simp_all
    rwa [hadd] at this
theorem ints_row {w : World} {base : Nat} {v : Value} {l : List Int} (h : w.ownsRow base 3 1 v l.length (ints l)) (hl : l.length ≤ 1000) : IntsW w v l := by
  obtain ⟨oa, cap, rfl, h1⟩ := row_slice h
  refine ⟨oa, cap, rfl, by omega, fun i z hz => ?_⟩
  have hi : i < l.length := (List.getElem?_eq_some_iff.1 hz).1
  rcases h1 with ⟨_, h0⟩ | ⟨g, rfl, h1⟩
  · omega
  · exact ⟨g, 0, rfl, by rw [Nat.zero_add]; exact h1 i _ (by simp [ints, hz])⟩
theorem fibAt_mem {s : St} {i : Nat} {b : Fb} (h : s.fibers[i]? = some b) : i < s.fibers.length ∧ fibAt s i = b := by
  have hi := (List.getElem?_eq_some_iff.1 h).1
  exact ⟨hi, by simp [fibAt, List.getD, h]⟩
theorem frAt_mem {s : St} {i j : Nat} {f : Fr} (h : (fibAt s i).frames[j]? = some f) : j < (fibAt s i).frames.length ∧ frAt s i j = f := by
  have hi := (List.getElem?_eq_some_iff.1 h).1
  exact ⟨hi, by simp [frAt, List.getD, h]⟩
/-- A state of one's own is read as any state. -/
theorem Own.reads {base : Nat} {w : World} {V : Key → Value} {s : St} (h : Own base w V s) (hs : Small s) : StAt w (.agg #[V .fibers, .int .i64 s.now, V .out]) s := by
  refine ⟨_, _, rfl, ?_, ints_row (h.piece .out trivial) hs.2.1⟩
  obtain ⟨xs, h1, h2⟩ := h.piece .fibers trivial
  obtain ⟨oa, cap, e, h3⟩ := row_slice h1
  refine ⟨oa, cap, e, by have := hs.1; omega, fun i b hb => ?_⟩
  obtain ⟨hi, hbe⟩ := fibAt_mem hb
  rcases h3 with ⟨_, h0⟩ | ⟨g, rfl, h3⟩
  · omega
  · obtain ⟨q0, q1⟩ := h2 i hi
    refine ⟨g, 0, V (.frames i), rfl, by rw [Nat.zero_add]; exact h3 _ _ q0, by rw [Nat.zero_add]; rw [hbe] at q1; exact h3 _ _ q1, ?_⟩
    obtain ⟨ys, r1, r2⟩ := h.piece (.frames i) hi
    have hsb := hs.2.2 b (List.mem_of_getElem? hb)
    obtain ⟨oa', cap', e', r3⟩ := row_slice r1
    rw [hbe] at e' r3
    refine ⟨oa', cap', e', ⟨by have := hsb.1; omega, ?_⟩, fun j f hf => ?_⟩
    · rw [hbe, e'] at r1; exact row_cap r1
    obtain ⟨hj, hfe⟩ := frAt_mem (s := s) (i := i) (by rw [hbe]; exact hf)
    have hj' := hj
    rw [hbe] at hj'
    rcases r3 with ⟨_, h0⟩ | ⟨g', rfl, r3⟩
    · omega
    · obtain ⟨t0, t1, t2, t3⟩ := r2 j hj
      rw [hfe] at t0 t1
      have hl := h.piece (.locals i j) ⟨hi, hj⟩
      have hk := h.piece (.stack i j) ⟨hi, hj⟩
      simp only [Piece, hfe] at hl hk
      have hsf := hsb.2 f (List.mem_of_getElem? hf)
      refine ⟨g', 0, _, _, rfl, ?_, ?_, ?_, ?_, ints_row hl hsf.1, ints_row hk hsf.2⟩ <;> rw [Nat.zero_add] <;> exact r3 _ _ (by assumption)

/-- Helpers for append in a walk. -/
theorem new_one (w : World) (v : Value) (t : TypeId) : ∀ j u, [v][j]? = some u → (w.alloc (.cells #[v] t)).cell? ((⟨w.heap.size, 0, none⟩ : Addr).add j) = some u := cell_one_new w v t
theorem int_one (z : Int) : ∀ u, u ∈ [Value.int .i64 z] → u.oneCell' = true := by
  intro u hu
  simp only [List.mem_cons, List.not_mem_nil, or_false] at hu
  subst hu
  rfl
theorem row_low {w : World} {base : Nat} {e : TypeId} {size : Nat} {v : Value} {n : Nat} {xs : List Value} (h : w.ownsRow base e size v n xs) : ∀ r, v.ownBlock = some r → base ≤ r := fun r hr => (h.lt r hr).1
theorem row_stays {w w' : World} {base : Nat} {e : TypeId} {size : Nat} {v : Value} {n : Nat} {xs : List Value} (h : w.ownsRow base e size v n xs) (k : Kept w w') : w'.ownsRow base e size v n xs :=
  row_same h fun g hg => k.block g (h.lt g hg).2

/-- The variable that holds a state of one's own. -/
structure OwnVar (base : Nat) (w : World) (bs : Nat) (V : Key → Value) (s : St) : Prop where
  var : w.heap[bs]? = some (.cells #[V .fibers, .int .i64 s.now, V .out] 54)
  own : Own base w V s
  off : Own.off V s bs
  low : base ≤ bs
end Go.Proofs.YtgdcecibfoganabDoor

namespace Go.Proofs.YtgdcecibfoganabDoor
open Go.RowKit

theorem row_some {w : World} {base : Nat} {e : TypeId} {size : Nat} {v : Value} {n : Nat} {xs : List Value} (h : w.ownsRow base e size v n xs) (hn : 0 < n) :
    ∃ g cap, v = .slice (some ⟨g, 0, none⟩) n cap ∧ n ≤ cap ∧ (∀ j u, xs[j]? = some u → w.cell? ⟨g, j, none⟩ = some u) ∧ (∀ j, w.frozen? ⟨g, j, none⟩ = false) ∧ base ≤ g := by
  rcases h.2 with ⟨_, h0⟩ | ⟨g, cap, cur, rfl, hb, hg, hnc, hcm, hcs, htake⟩
  · omega
  · refine ⟨g, cap, rfl, hnc, fun j u hu => ?_, fun j => h.frozenAt j, hb⟩
    have hjl : j < n * size := by rw [← h.1]; exact (List.getElem?_eq_some_iff.1 hu).1
    rw [h.cellAt j hjl]; exact hu

/-- A fiber's cells. -/
theorem Own.fib {base : Nat} {w : World} {V : Key → Value} {s : St} (h : Own base w V s) {i : Nat} (hi : i < s.fibers.length) :
    ∃ gF capF, V .fibers = .slice (some ⟨gF, 0, none⟩) s.fibers.length capF ∧ s.fibers.length ≤ capF ∧ w.cell? ⟨gF, i * 2, none⟩ = some (V (.frames i)) ∧ w.cell? ⟨gF, i * 2 + 1, none⟩ = some (.int .i64 (fibAt s i).caller) ∧ (∀ j, w.frozen? ⟨gF, j, none⟩ = false) ∧ base ≤ gF := by
  obtain ⟨xs, h1, h2⟩ := h.piece .fibers trivial
  obtain ⟨g, cap, e, hc, hx, hf, hb⟩ := row_some h1 (by omega)
  obtain ⟨q0, q1⟩ := h2 i hi
  exact ⟨g, cap, e, hc, hx _ _ q0, hx _ _ q1, hf, hb⟩
/-- A frame's cells. -/
theorem Own.fr {base : Nat} {w : World} {V : Key → Value} {s : St} (h : Own base w V s) {i j : Nat} (hi : i < s.fibers.length) (hj : j < (fibAt s i).frames.length) :
    ∃ g cap, V (.frames i) = .slice (some ⟨g, 0, none⟩) (fibAt s i).frames.length cap ∧ (fibAt s i).frames.length ≤ cap ∧ w.cell? ⟨g, j * 4, none⟩ = some (.int .i64 (frAt s i j).fn) ∧ w.cell? ⟨g, j * 4 + 1, none⟩ = some (.int .i64 (frAt s i j).at_) ∧ w.cell? ⟨g, j * 4 + 2, none⟩ = some (V (.locals i j)) ∧ w.cell? ⟨g, j * 4 + 3, none⟩ = some (V (.stack i j)) ∧ (∀ t, w.frozen? ⟨g, t, none⟩ = false) ∧ base ≤ g := by
  obtain ⟨xs, h1, h2⟩ := h.piece (.frames i) hi
  obtain ⟨g, cap, e, hc, hx, hf, hb⟩ := row_some h1 (by omega)
  obtain ⟨q0, q1, q2, q3⟩ := h2 j hj
  exact ⟨g, cap, e, hc, hx _ _ q0, hx _ _ q1, hx _ _ q2, hx _ _ q3, hf, hb⟩
theorem Own.stk {base : Nat} {w : World} {V : Key → Value} {s : St} (h : Own base w V s) {i j : Nat} (hi : i < s.fibers.length) (hj : j < (fibAt s i).frames.length) : w.ownsRow base 3 1 (V (.stack i j)) (frAt s i j).stack.length (ints (frAt s i j).stack) := h.piece (.stack i j) ⟨hi, hj⟩
theorem Own.loc {base : Nat} {w : World} {V : Key → Value} {s : St} (h : Own base w V s) {i j : Nat} (hi : i < s.fibers.length) (hj : j < (fibAt s i).frames.length) : w.ownsRow base 3 1 (V (.locals i j)) (frAt s i j).locals.length (ints (frAt s i j).locals) := h.piece (.locals i j) ⟨hi, hj⟩

theorem OwnVar.same {base bs : Nat} {w w' : World} {V : Key → Value} {s : St} (h : OwnVar base w bs V s) (hh : w'.heap = w.heap) : OwnVar base w' bs V s :=
  ⟨by rw [hh]; exact h.var, h.own.same (fun k g _ _ => by rw [hh]), h.off, h.low⟩
theorem OwnVar.alloc {base bs : Nat} {w : World} {V : Key → Value} {s : St} (h : OwnVar base w bs V s) (o : Obj) : OwnVar base (w.alloc o) bs V s :=
  ⟨by rw [Below.heap_alloc w o bs (lt_of_block h.var)]; exact h.var, h.own.alloc o, h.off, h.low⟩
/-- The cells of the variable. -/
theorem OwnVar.cells {base bs : Nat} {w : World} {V : Key → Value} {s : St} (h : OwnVar base w bs V s) : w.cell? ⟨bs, 0, none⟩ = some (V .fibers) ∧ w.cell? ⟨bs, 1, none⟩ = some (.int .i64 s.now) ∧ w.cell? ⟨bs, 2, none⟩ = some (V .out) ∧ ∀ j, w.frozen? ⟨bs, j, none⟩ = false := by
  have hv := h.var
  refine ⟨?_, ?_, ?_, fun j => ?_⟩ <;> simp [World.cell?, World.frozen?, hv]
/-- Now is set. -/
theorem OwnVar.setNow {base bs : Nat} {w : World} {V : Key → Value} {s : St} (h : OwnVar base w bs V s) (n : Int) : OwnVar base (w.setCell ⟨bs, 1, none⟩ (.int .i64 n)) bs V { s with now := n } := by
  refine ⟨?_, (h.own.setOff (a := ⟨bs, 1, none⟩) h.off _).now n, ?_, h.low⟩
  · have := h.var
    simp [World.setCell, Array.getElem?_modify, this]
  · intro k hk
    exact h.off k (by cases k <;> exact hk)
/-- A turn of the lists, the variable's own block left alone: V's fibers and out as they were. -/
theorem OwnVar.turn {base bs : Nat} {w w' : World} {V V' : Key → Value} {s s' : St} (h : OwnVar base w bs V s) (ho : Own base w' V' s') (hb : w'.heap[bs]? = w.heap[bs]?) (hf : V' .fibers = V .fibers) (hout : V' .out = V .out) (hn : s'.now = s.now) (hoff : Own.off V' s' bs) : OwnVar base w' bs V' s' :=
  ⟨by rw [hb, h.var, hf, hout, hn], ho, hoff, h.low⟩
end Go.Proofs.YtgdcecibfoganabDoor

namespace Go.Proofs.YtgdcecibfoganabDoor

/-- Does an op name a function (Call, Make)? -/
def namesB (x : Int × Int) : Bool := decide (x.1 = 11) || decide (x.1 = 13)
/-- The functions that ops name, in their order. -/
def targets (c : List (Int × Int)) : List Nat := (c.filter namesB).map fun x => x.2.toNat

def codeOf (p : List Fn) (g : Nat) : List (Int × Int) := (p.getD g Fn.zero).code

/-- The program's way. -/
def visitS (p : List Fn) : Nat → List Bool → Nat → List Bool
  | 0, B, _ => B
  | n + 1, B, g => if B.getD g false = true then B else (targets (codeOf p g)).foldl (visitS p n) (B.set g true)

/-- The reference's: one function's ops, one round, all rounds. -/
def markS (B : List Bool) (l : List Nat) : List Bool := l.foldl (fun B j => B.set j true) B
def stepB (p : List Fn) (B : List Bool) (k : Nat) : List Bool := if B.getD k false = true then markS B (targets (codeOf p k)) else B
def roundB (p : List Fn) : Nat → List Bool → List Bool
  | 0, B => B
  | k + 1, B => stepB p (roundB p k B) k
def roundsB (p : List Fn) : Nat → List Bool → List Bool
  | 0, B => B
  | r + 1, B => roundB p p.length (roundsB p r B)
def startB (p : List Fn) (f : Nat) : List Bool := (List.replicate p.length false).set f true
def callsS (p : List Fn) (f : Nat) : List Bool := roundsB p p.length (startB p f)

/-- All that is named is there. -/
def Named (p : List Fn) : Prop := ∀ k j, k < p.length → j ∈ targets (codeOf p k) → j < p.length

/-- f may come to begin k. -/
def ReachC (p : List Fn) (f k : Nat) : Prop := ∀ S : Nat → Prop, S f → (∀ k j, k < p.length → S k → j ∈ targets (codeOf p k) → S j) → S k
theorem ReachC.self (p : List Fn) (f : Nat) : ReachC p f f := fun _ h _ => h
theorem ReachC.step {p : List Fn} {f k j : Nat} (h : ReachC p f k) (hk : k < p.length) (hj : j ∈ targets (codeOf p k)) : ReachC p f j :=
  fun S h0 hs => hs k j hk (h S h0 hs) hj
theorem ReachC.trans {p : List Fn} {f g k : Nat} (h : ReachC p f g) (h' : ReachC p g k) : ReachC p f k :=
  fun S h0 hs => h' S (h S h0 hs) hs

def MonoB (B B' : List Bool) : Prop := B'.length = B.length ∧ ∀ k, B.getD k false = true → B'.getD k false = true
theorem MonoB.refl (B : List Bool) : MonoB B B := ⟨rfl, fun _ h => h⟩
theorem MonoB.trans {A B C : List Bool} (h : MonoB A B) (k : MonoB B C) : MonoB A C := ⟨k.1.trans h.1, fun i hi => k.2 i (h.2 i hi)⟩

theorem getB_set (B : List Bool) (k i : Nat) : (B.set k true).getD i false = true ↔ (i = k ∧ k < B.length) ∨ B.getD i false = true := by
  simp only [List.getD, List.getElem?_set]
  by_cases h : k = i
  · subst h
    by_cases hk : k < B.length
    · simp [hk]
    · simp [hk]
  · simp [h, Ne.symm h]
theorem MonoB.set (B : List Bool) (k : Nat) : MonoB B (B.set k true) := ⟨by simp, fun i hi => (getB_set B k i).2 (.inr hi)⟩

theorem getB_lt {B : List Bool} {k : Nat} (h : B.getD k false = true) : k < B.length := by
  by_cases hk : k < B.length
  · exact hk
  · simp [List.getD, hk] at h

/-- How many are not named. -/
def unvB (B : List Bool) : Nat := (B.filter fun b => !b).length
theorem unvB_set : ∀ (B : List Bool) (k : Nat), k < B.length → B.getD k false = false → unvB (B.set k true) + 1 = unvB B
  | [], k, h, _ => by simp at h
  | b :: B, 0, _, h => by
    simp at h
    subst h
    simp [unvB]
  | b :: B, k + 1, hk, h => by
    have ih := unvB_set B k (by simpa using hk) (by simpa using h)
    simp only [unvB, List.set_cons_succ, List.filter_cons] at ih ⊢
    cases b
    · simp only [Bool.not_false, if_true, List.length_cons]; omega
    · simpa using ih
theorem unvB_mono : ∀ (B B' : List Bool), MonoB B B' → unvB B' ≤ unvB B ∧ (B' ≠ B → unvB B' < unvB B)
  | [], B', h => by
    have : B' = [] := List.length_eq_zero_iff.1 h.1
    subst this
    simp
  | b :: B, [], h => by simp [MonoB] at h
  | b :: B, b' :: B', h => by
    have ih := unvB_mono B B' ⟨by simpa using h.1, fun k hk => by simpa using h.2 (k + 1) (by simpa using hk)⟩
    have h0 := h.2 0
    simp only [List.getD_cons_zero] at h0
    simp only [unvB, List.filter_cons] at ih ⊢
    cases b <;> cases b' <;> simp at h0 ih ⊢ <;> first | omega | (refine ⟨ih.1, fun hn => ih.2 hn⟩)
theorem unvB_le (B : List Bool) : unvB B ≤ B.length := List.length_filter_le _ _

/-- What is named is closed. -/
def ClosedB (p : List Fn) (B : List Bool) : Prop := ∀ k j, k < p.length → B.getD k false = true → j ∈ targets (codeOf p k) → B.getD j false = true
def SoundB (p : List Fn) (f : Nat) (B : List Bool) : Prop := ∀ k, B.getD k false = true → ReachC p f k

theorem closed_one {p : List Fn} {f : Nat} {B B' : List Bool} (hl : B.length = p.length) (hl' : B'.length = p.length) (h0 : B.getD f false = true) (h0' : B'.getD f false = true)
    (c : ClosedB p B) (c' : ClosedB p B') (s : SoundB p f B) (s' : SoundB p f B') : B = B' := by
  apply List.ext_getElem (hl.trans hl'.symm)
  intro k hk hk'
  have e1 : B[k] = B.getD k false := by simp [List.getD, hk]
  have e2 : B'[k] = B'.getD k false := by simp [List.getD, hk']
  rw [e1, e2, Bool.eq_iff_iff]
  exact ⟨fun h => s k h (fun k => B'.getD k false = true) h0' (fun k j hk a b => c' k j hk a b), fun h => s' k h (fun k => B.getD k false = true) h0 (fun k j hk a b => c k j hk a b)⟩

/-- One visit, and visits one behind the other. -/
def VisitOk (p : List Fn) (B B' : List Bool) : Prop :=
  MonoB B B' ∧ ∀ k j, B'.getD k false = true → B.getD k false = false → j ∈ targets (codeOf p k) → B'.getD j false = true
theorem VisitOk.refl (p : List Fn) (B : List Bool) : VisitOk p B B := ⟨.refl B, fun k j h h' => by rw [h] at h'; cases h'⟩
theorem VisitOk.trans {p : List Fn} {A B C : List Bool} (h : VisitOk p A B) (h' : VisitOk p B C) : VisitOk p A C :=
  ⟨h.1.trans h'.1, fun k j hC hA hj => by
    cases hB : B.getD k false with
    | true => exact h'.1.2 j (h.2 k j hB hA hj)
    | false => exact h'.2 k j hC hB hj⟩

theorem visits_ok {p : List Fn} (f : List Bool → Nat → List Bool) (n : Nat) (hf : ∀ B j, B.length = p.length → unvB B < n → j < p.length → VisitOk p B (f B j) ∧ (f B j).getD j false = true) :
    ∀ (l : List Nat) (B : List Bool), B.length = p.length → unvB B < n → (∀ j, j ∈ l → j < p.length) → VisitOk p B (l.foldl f B) ∧ ∀ j, j ∈ l → (l.foldl f B).getD j false = true
  | [], B, _, _, _ => ⟨.refl p B, fun j hj => by cases hj⟩
  | i :: l, B, hl, hu, hn => by
    obtain ⟨a, b⟩ := hf B i hl hu (hn i (by simp))
    obtain ⟨c, d⟩ := visits_ok f n hf l (f B i) (a.1.1.trans hl) (Nat.lt_of_le_of_lt (unvB_mono _ _ a.1).1 hu) (fun j hj => hn j (by simp [hj]))
    refine ⟨a.trans c, fun j hj => ?_⟩
    rcases List.mem_cons.1 hj with rfl | hj
    · exact c.1.2 _ b
    · exact d j hj

theorem visit_ok {p : List Fn} (hp : Named p) : ∀ (n : Nat) (B : List Bool) (g : Nat), B.length = p.length → unvB B < n → g < p.length → VisitOk p B (visitS p n B g) ∧ (visitS p n B g).getD g false = true
  | 0, B, g, _, h, _ => by omega
  | n + 1, B, g, hl, hu, hg => by
    unfold visitS
    split
    · rename_i h; exact ⟨.refl p B, h⟩
    · rename_i h
      have h' : B.getD g false = false := by simpa using h
      have hs := unvB_set B g (hl ▸ hg) h'
      obtain ⟨a, b⟩ := visits_ok (visitS p n) n (fun B j h1 h2 h3 => visit_ok hp n B j h1 h2 h3) (targets (codeOf p g)) (B.set g true) (by simpa using hl) (by omega) (fun j hj => hp g j hg hj)
      refine ⟨⟨(MonoB.set B g).trans a.1, fun k j hk hB hj => ?_⟩, a.1.2 g ((getB_set B g g).2 (.inl ⟨rfl, hl ▸ hg⟩))⟩
      by_cases hkg : k = g
      · subst hkg; exact b j hj
      · refine a.2 k j hk ?_ hj
        cases hz : (B.set g true).getD k false with
        | false => rfl
        | true => rcases (getB_set B g k).1 hz with ⟨h1, _⟩ | h1
                  · exact absurd h1 hkg
                  · rw [hB] at h1; cases h1

theorem visits_sound {p : List Fn} {f : Nat} (v : List Bool → Nat → List Bool) (hv : ∀ B j, B.length = p.length → j < p.length → SoundB p f B → ReachC p f j → (v B j).length = p.length ∧ SoundB p f (v B j)) :
    ∀ (l : List Nat) (B : List Bool), B.length = p.length → SoundB p f B → (∀ j, j ∈ l → j < p.length ∧ ReachC p f j) → (l.foldl v B).length = p.length ∧ SoundB p f (l.foldl v B)
  | [], B, hl, hs, _ => ⟨hl, hs⟩
  | i :: l, B, hl, hs, hn => by
    obtain ⟨a, b⟩ := hv B i hl (hn i (by simp)).1 hs (hn i (by simp)).2
    exact visits_sound v hv l (v B i) a b (fun j hj => hn j (by simp [hj]))

theorem set_sound {p : List Fn} {f : Nat} {B : List Bool} (hs : SoundB p f B) {g : Nat} (hg : ReachC p f g) : SoundB p f (B.set g true) := by
  intro k hk
  rcases (getB_set B g k).1 hk with ⟨rfl, _⟩ | h
  · exact hg
  · exact hs k h

theorem visit_sound {p : List Fn} (hp : Named p) {f : Nat} : ∀ (n : Nat) (B : List Bool) (g : Nat), B.length = p.length → g < p.length → SoundB p f B → ReachC p f g → (visitS p n B g).length = p.length ∧ SoundB p f (visitS p n B g)
  | 0, B, g, hl, _, hs, _ => ⟨hl, hs⟩
  | n + 1, B, g, hl, hg, hs, hr => by
    unfold visitS
    split
    · exact ⟨hl, hs⟩
    · exact visits_sound (visitS p n) (fun B j h1 h2 h3 h4 => visit_sound hp n B j h1 h2 h3 h4) _ _ (by simpa using hl) (set_sound hs hr) (fun j hj => ⟨hp g j hg hj, hr.step hg hj⟩)

/-- Marks. -/
theorem mark_ok : ∀ (l : List Nat) (B : List Bool) (n : Nat), B.length = n → (∀ j, j ∈ l → j < n) → MonoB B (markS B l) ∧ ∀ j, j ∈ l → (markS B l).getD j false = true
  | [], B, _, _, _ => ⟨.refl B, fun j hj => by cases hj⟩
  | i :: l, B, n, hl, hn => by
    obtain ⟨a, b⟩ := mark_ok l (B.set i true) n (by simpa using hl) (fun j hj => hn j (by simp [hj]))
    refine ⟨(MonoB.set B i).trans a, fun j hj => ?_⟩
    rcases List.mem_cons.1 hj with rfl | hj
    · exact a.2 _ ((getB_set B _ _).2 (.inl ⟨rfl, hl ▸ hn _ (by simp)⟩))
    · exact b j hj
theorem mark_sound {p : List Fn} {f : Nat} : ∀ (l : List Nat) (B : List Bool), SoundB p f B → (∀ j, j ∈ l → ReachC p f j) → SoundB p f (markS B l)
  | [], _, hs, _ => hs
  | i :: l, B, hs, hn => mark_sound l (B.set i true) (set_sound hs (hn i (by simp))) (fun j hj => hn j (by simp [hj]))

theorem stepB_ok {p : List Fn} (hp : Named p) {f : Nat} {B : List Bool} {k : Nat} (hk : k < p.length) (hl : B.length = p.length) (hs : SoundB p f B) :
    MonoB B (stepB p B k) ∧ SoundB p f (stepB p B k) ∧ (B.getD k false = true → ∀ j, j ∈ targets (codeOf p k) → (stepB p B k).getD j false = true) := by
  unfold stepB
  split
  · rename_i h
    obtain ⟨a, b⟩ := mark_ok (targets (codeOf p k)) B p.length hl (fun j hj => hp k j hk hj)
    exact ⟨a, mark_sound _ _ hs (fun j hj => (hs k h).step hk hj), fun _ => b⟩
  · rename_i h
    exact ⟨.refl B, hs, fun h' => absurd h' h⟩

theorem monoB_anti {B C : List Bool} (a : MonoB B C) (b : MonoB C B) : C = B := by
  apply List.ext_getElem a.1
  intro k hk hk'
  have e1 : C[k] = C.getD k false := by simp [List.getD, hk]
  have e2 : B[k] = B.getD k false := by simp [List.getD, hk']
  rw [e1, e2, Bool.eq_iff_iff]
  exact ⟨b.2 k, a.2 k⟩

theorem roundB_ok {p : List Fn} (hp : Named p) {f : Nat} : ∀ (k : Nat) (B : List Bool), k ≤ p.length → B.length = p.length → SoundB p f B →
    MonoB B (roundB p k B) ∧ SoundB p f (roundB p k B) ∧ (roundB p k B = B → ∀ i j, i < k → B.getD i false = true → j ∈ targets (codeOf p i) → B.getD j false = true)
  | 0, B, _, hl, hs => ⟨.refl B, hs, fun _ i j hi => by omega⟩
  | k + 1, B, hk, hl, hs => by
    obtain ⟨a, b, c⟩ := roundB_ok hp k B (by omega) hl hs
    obtain ⟨d, e, g⟩ := stepB_ok hp (k := k) (by omega) (a.1.trans hl) b
    refine ⟨a.trans d, e, fun h i j hi hB hj => ?_⟩
    simp only [roundB] at h
    have h1 : roundB p k B = B := monoB_anti a (by rw [h] at d; exact d)
    rcases Nat.lt_succ_iff_lt_or_eq.1 hi with hi | rfl
    · exact c h1 i j hi hB hj
    · have := g (h1.symm ▸ hB) j hj
      rw [h] at this
      exact this

theorem closed_mark {B : List Bool} : ∀ (l : List Nat) (C : List Bool), (∀ j, j ∈ l → B.getD j false = true) → (∀ i, C.getD i false = true → B.getD i false = true) → ∀ i, (markS C l).getD i false = true → B.getD i false = true
  | [], _, _, h, i, hi => h i hi
  | a :: l, C, hl, h, i, hi => closed_mark l (C.set a true) (fun j hj => hl j (by simp [hj])) (fun i hi => by
      rcases (getB_set C a i).1 hi with ⟨rfl, _⟩ | h1
      · exact hl _ (by simp)
      · exact h i h1) i hi
theorem closed_round {p : List Fn} {B : List Bool} (c : ClosedB p B) : ∀ (k : Nat), k ≤ p.length → ∀ i, (roundB p k B).getD i false = true → B.getD i false = true
  | 0, _, i, h => h
  | k + 1, hk, i, h => by
    have ih := closed_round c k (by omega)
    simp only [roundB, stepB] at h
    split at h
    · rename_i hz
      exact closed_mark _ _ (fun j hj => c k j (by omega) (ih k hz) hj) ih i h
    · exact ih i h

theorem roundsB_ok {p : List Fn} (hp : Named p) {f : Nat} : ∀ (r : Nat) (B : List Bool), B.length = p.length → SoundB p f B →
    MonoB B (roundsB p r B) ∧ SoundB p f (roundsB p r B) ∧ (ClosedB p (roundsB p r B) ∨ unvB (roundsB p r B) + r ≤ unvB B)
  | 0, B, hl, hs => ⟨.refl B, hs, .inr (Nat.le_refl _)⟩
  | r + 1, B, hl, hs => by
    obtain ⟨a, b, c⟩ := roundsB_ok hp r B hl hs
    obtain ⟨d, e, g⟩ := roundB_ok hp p.length (roundsB p r B) (Nat.le_refl _) (a.1.trans hl) b
    refine ⟨a.trans d, e, ?_⟩
    simp only [roundsB]
    by_cases h : roundB p p.length (roundsB p r B) = roundsB p r B
    · left
      rw [h]
      exact fun k j hk hB hj => g h k j hk hB hj
    · rcases c with c | c
      · exfalso
        apply h
        refine monoB_anti d ⟨d.1.symm, fun k hk => ?_⟩
        exact closed_round (fun k j hk hB hj => c k j hk hB hj) p.length (Nat.le_refl _) k hk
      · right
        have := (unvB_mono _ _ d).2 h
        omega
theorem startB_get {p : List Fn} {f : Nat} (hf : f < p.length) (k : Nat) : (startB p f).getD k false = true ↔ k = f := by
  unfold startB
  rw [getB_set]
  simp only [List.length_replicate, hf, and_true]
  constructor
  · rintro (h | h)
    · exact h
    · exfalso
      have hk := getB_lt h
      rw [List.length_replicate] at hk
      simp [List.getD, hk] at h
  · exact .inl
theorem startB_unv {p : List Fn} {f : Nat} (hf : f < p.length) : unvB (startB p f) + 1 ≤ p.length := by
  have := unvB_set (List.replicate p.length false) f (by simpa using hf) (by simp [List.getD, hf])
  have h2 := unvB_le (List.replicate p.length false)
  rw [List.length_replicate] at h2
  unfold startB
  omega

theorem callsS_ok {p : List Fn} (hp : Named p) {f : Nat} (hf : f < p.length) : (callsS p f).length = p.length ∧ (callsS p f).getD f false = true ∧ ClosedB p (callsS p f) ∧ SoundB p f (callsS p f) := by
  obtain ⟨a, b, c⟩ := roundsB_ok hp (f := f) p.length (startB p f) (by simp [startB]) (fun k hk => by rw [(startB_get hf k).1 hk]; exact .self p f)
  refine ⟨a.1.trans (by simp [startB]), a.2 f ((startB_get hf f).2 rfl), ?_, b⟩
  rcases c with c | c
  · exact c
  · have := startB_unv hf
    omega

/-- The program's way comes to the same. -/
theorem visit_calls {p : List Fn} (hp : Named p) {f : Nat} (hf : f < p.length) : visitS p (p.length + 1) (List.replicate p.length false) f = callsS p f := by
  have hz : ∀ k, (List.replicate p.length false).getD k false = false := fun k => by
    cases h : (List.replicate p.length false).getD k false with
    | false => rfl
    | true => have hk := getB_lt h; rw [List.length_replicate] at hk; simp [List.getD, hk] at h
  have hu := unvB_le (List.replicate p.length false)
  rw [List.length_replicate] at hu
  obtain ⟨a, b⟩ := visit_ok hp (p.length + 1) (List.replicate p.length false) f (by simp) (by omega) hf
  obtain ⟨c, d⟩ := visit_sound hp (f := f) (p.length + 1) (List.replicate p.length false) f (by simp) hf (fun k hk => by rw [hz k] at hk; cases hk) (.self p f)
  obtain ⟨e, g, h, i⟩ := callsS_ok hp hf
  exact closed_one c e b g (fun k j _ hk hj => a.2 k j hk (hz k) hj) h d i
end Go.Proofs.YtgdcecibfoganabDoor

namespace Go.Proofs.YtgdcecibfoganabDoor

/-- The first error that is not 0, of those with the numbers k, k + 1 .. -/
def firstS (e : Nat → Int) : Nat → Nat → Int
  | _, 0 => 0
  | k, n + 1 => if e k = 0 then firstS e (k + 1) n else e k
theorem firstS_zero {e : Nat → Int} : ∀ {n k : Nat}, firstS e k n = 0 → ∀ i, k ≤ i → i < k + n → e i = 0
  | 0, _, _, i, h1, h2 => by omega
  | n + 1, k, h, i, h1, h2 => by
    unfold firstS at h
    split at h
    · rename_i h0
      rcases Nat.lt_or_eq_of_le h1 with h3 | rfl
      · exact firstS_zero h i h3 (by omega)
      · exact h0
    · rename_i h0; exact absurd h h0
theorem firstS_congr {e e' : Nat → Int} : ∀ (n k : Nat), (∀ i, k ≤ i → i < k + n → e i = e' i) → firstS e k n = firstS e' k n
  | 0, _, _ => rfl
  | n + 1, k, h => by
    unfold firstS
    rw [h k (Nat.le_refl k) (by omega), firstS_congr n (k + 1) (fun i h1 h2 => h i (by omega) (by omega))]
theorem firstS_step {e : Nat → Int} {k m : Nat} (h : k < m) : firstS e k (m - k) = if e k = 0 then firstS e (k + 1) (m - (k + 1)) else e k := by
  obtain ⟨n, hn⟩ : ∃ n, m - k = n + 1 := ⟨m - k - 1, by omega⟩
  rw [hn, show m - (k + 1) = n by omega]
  rfl

/-- B1. -/
def hgtE (p : List Fn) (k : Nat) : Int := match heightsS p (codeOf p k) with | some _ => 0 | none => 1
def progS (p : List Fn) : Int :=
  if 5 < p.length then 2 else if p.length = 0 then 5 else if (p.getD 0 Fn.zero).args ≠ 0 then 1
  else if firstS (fun k => chkS p k) 0 p.length = 0 then firstS (hgtE p) 0 p.length else firstS (fun k => chkS p k) 0 p.length

/-- B2's error. -/
def callE (p : List Fn) (f : Int) : Int := if progS p = 0 then (if ixB f p.length = true then 0 else 5) else progS p
def callB (p : List Fn) (f : Int) : List Bool := if callE p f = 0 then callsS p f.toNat else []

theorem progS_right {p : List Fn} (h : progS p = 0) : p.length ≤ 5 ∧ 0 < p.length ∧ ∀ k, k < p.length → chkS p k = 0 := by
  unfold progS at h
  split at h
  · cases h
  · split at h
    · cases h
    · split at h
      · cases h
      · split at h
        · rename_i h0
          exact ⟨by omega, by omega, fun k hk => firstS_zero h0 k (by omega) (by omega)⟩
        · rename_i h0; exact absurd h h0

theorem chkS_ops {p : List Fn} {k : Nat} (h : chkS p k = 0) : k < p.length ∧ (codeOf p k).length ≤ 24 ∧ opsS p (p.getD k Fn.zero) (codeOf p k) = 0 := by
  unfold chkS at h
  split at h
  · rename_i hk
    simp only [Int.toNat_natCast] at h
    split at h
    · cases h
    · split at h
      · exact ⟨by omega, by unfold codeOf; omega, h⟩
      · cases h
  · cases h

theorem right_named {p : List Fn} (h : ∀ k, k < p.length → chkS p k = 0) : Named p := by
  intro k j hk hj
  obtain ⟨_, _, h1⟩ := chkS_ops (h k hk)
  simp only [targets, List.mem_map, List.mem_filter] at hj
  obtain ⟨x, ⟨hx, hn⟩, rfl⟩ := hj
  have ho := opsS_all h1 x hx
  simp only [namesB, Bool.or_eq_true, decide_eq_true_eq] at hn
  unfold opS at ho
  have hop : opd x.1.toNat = 4 := by rcases hn with e | e <;> rw [e] <;> rfl
  rw [hop] at ho
  split at ho
  · split at ho
    · rename_i hm
      simp only [mayB, show (4 : Int) ≠ 0 by decide, show (4 : Int) ≠ 1 by decide, show (4 : Int) ≠ 2 by decide, show (4 : Int) ≠ 3 by decide, if_false, Bool.and_eq_true, ixB_iff] at hm
      omega
    · cases ho
  · cases ho
end Go.Proofs.YtgdcecibfoganabDoor
