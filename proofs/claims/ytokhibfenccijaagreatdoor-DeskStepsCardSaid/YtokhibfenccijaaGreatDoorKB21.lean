/- OwnC, OwnD, OwnE, OkP, DoAt -/
import Derived.Test.YtokhibfenccijaaGreatDoorKB20
import Derived.Test.YtokhibfenccijaaGreatDoorKB19
set_option maxRecDepth 100000
set_option maxHeartbeats 8000000
namespace Go.Proofs.YtokhibfenccijaaGreatDoor
open Go.RowKit
theorem Own.turnOut {base : Nat} {w w1 : World} {V : Key → Value} {s : St} (h : Own base w V s) (l : List Int) (vo : Value) (hown : w1.ownsRow base 3 1 vo l.length (ints l))
    (hgrow : ∀ b, b < w.heap.size → (V .out).ownBlock ≠ some b → w1.heap[b]? = w.heap[b]?) (hat : vo.ownBlock = (V .out).ownBlock ∨ vo.ownBlock = some w.heap.size) : Own base w1 (upd V .out vo) { s with out := l } := by
  have hlv : ∀ k, live { s with out := l } k ↔ live s k := fun k => by cases k using Key.by <;> exact Iff.rfl
  refine h.turned (fun k hk => ?_) (fun k b hk e => ?_) (fun k k' b hk hk' ho e e' => ?_)
  · have hlk := (hlv k).1 hk
    by_cases hko : k = .out
    · subst hko; left
      show World.ownsRow _ _ _ _ _ _ _
      rw [upd_same]; exact hown
    · right
      refine ⟨hlk, upd_ne V vo hko, fun hp => ?_, fun b e => hgrow b ((h.piece k hlk).block b e).2 (fun e' => hko (h.apart k .out b hlk trivial e e'))⟩
      cases k using Key.by with
      | fibers =>
        obtain ⟨xs, r1, r2⟩ := hp
        exact ⟨xs, by rw [upd_ne V vo hko]; exact r1, fun i hi => by rw [upd_ne V vo (by simp)]; exact r2 i hi⟩
      | out => exact absurd rfl hko
      | frames i =>
        obtain ⟨xs, r1, r2⟩ := hp
        exact ⟨xs, by rw [upd_ne V vo hko]; exact r1, fun j hj => by rw [upd_ne V vo (by simp), upd_ne V vo (by simp)]; exact r2 j hj⟩
      | locals i j => simp only [Piece] at hp ⊢; rw [upd_ne V vo hko]; exact hp
      | stack i j => simp only [Piece] at hp ⊢; rw [upd_ne V vo hko]; exact hp
  · have hlk := (hlv k).1 hk
    by_cases hko : k = .out
    · subst hko
      rw [upd_same] at e
      rcases hat with e' | e'
      · exact .inl ⟨hlk, by rw [← e', e]⟩
      · rw [e] at e'; cases e'; exact .inr (h.new_off (.inl (Nat.le_refl _)))
    · rw [upd_ne V vo hko] at e; exact .inl ⟨hlk, e⟩
  · by_cases hko : k = .out
    · by_cases hko' : k' = .out
      · rw [hko, hko']
      · rw [upd_ne V vo hko'] at e'; exact absurd e' (ho k' ((hlv k').1 hk'))
    · rw [upd_ne V vo hko] at e; exact absurd e (ho k ((hlv k).1 hk))
theorem Own.addFiber {base : Nat} {w w1 : World} {V : Key → Value} {s : St} (h : Own base w V s) (f : Fr) (c : Int) (vl vf vF : Value) (hst : f.stack = []) {gl gf : Nat} (hgl : vl.ownBlock = none ∨ vl.ownBlock = some gl) (hgf : vf.ownBlock = some gf) (hne : gl ≠ gf)
    (hoff : Own.off V s gl) (hoff' : Own.off V s gf) (hlt : gl < w.heap.size) (hlt' : gf < w.heap.size)
    (hloc : w1.ownsRow base 3 1 vl f.locals.length (ints f.locals)) (hfr : w1.ownsRow base 92 4 vf 1 [.int .i64 f.fn, .int .i64 f.at_, vl, .slice none 0 0])
    (hgrow : ∀ b, b < w.heap.size → (V .fibers).ownBlock ≠ some b → w1.heap[b]? = w.heap[b]?)
    (hown : ∀ xs, w.ownsRow base 95 2 (V .fibers) s.fibers.length xs → w1.ownsRow base 95 2 vF (s.fibers.length + 1) (xs ++ [vf, .int .i64 c]))
    (hat : vF.ownBlock = (V .fibers).ownBlock ∨ vF.ownBlock = some w.heap.size) :
    Own base w1 (upd (upd (upd (upd V .fibers vF) (.frames s.fibers.length) vf) (.locals s.fibers.length 0) vl) (.stack s.fibers.length 0) (.slice none 0 0)) { s with fibers := s.fibers ++ [⟨[f], c⟩] } := by
  generalize hn : s.fibers.length = n at *
  have hlen : ({ s with fibers := s.fibers ++ [⟨[f], c⟩] } : St).fibers.length = n + 1 := by simp [hn]
  have hfo : ∀ t, t < n → fibAt { s with fibers := s.fibers ++ [⟨[f], c⟩] } t = fibAt s t := fun t ht => getD_append_left _ _ _ _ (by rw [hn]; exact ht)
  have hfn : fibAt { s with fibers := s.fibers ++ [⟨[f], c⟩] } n = ⟨[f], c⟩ := by rw [← hn]; exact getD_append_len _ _ _
  have hfrn : frAt { s with fibers := s.fibers ++ [⟨[f], c⟩] } n 0 = f := by unfold frAt; rw [hfn]; rfl
  have hfro : ∀ t q, t < n → frAt { s with fibers := s.fibers ++ [⟨[f], c⟩] } t q = frAt s t q := fun t q ht => by unfold frAt; rw [hfo t ht]
  have hlv : ∀ k, live { s with fibers := s.fibers ++ [⟨[f], c⟩] } k → k = .frames n ∨ k = .locals n 0 ∨ k = .stack n 0 ∨ (live s k ∧ ∀ t q, (k = .frames t ∨ k = .locals t q ∨ k = .stack t q) → t < n) := by
    intro k hk
    cases k using Key.by with
    | fibers => exact .inr (.inr (.inr ⟨trivial, fun t q h => by simp at h⟩))
    | out => exact .inr (.inr (.inr ⟨trivial, fun t q h => by simp at h⟩))
    | frames t =>
      simp only [live, hlen] at hk
      by_cases e : t = n
      · left; rw [e]
      · exact .inr (.inr (.inr ⟨by show t < s.fibers.length; omega, fun t' q h => by simp at h; omega⟩))
    | locals t q =>
      simp only [live, hlen] at hk
      by_cases e : t = n
      · subst e; rw [hfn] at hk; simp at hk
        right; left; rw [hk]
      · rw [hfo t (by omega)] at hk
        exact .inr (.inr (.inr ⟨⟨by omega, hk.2⟩, fun t' q h => by simp at h; omega⟩))
    | stack t q =>
      simp only [live, hlen] at hk
      by_cases e : t = n
      · subst e; rw [hfn] at hk; simp at hk
        right; right; left; rw [hk]
      · rw [hfo t (by omega)] at hk
        exact .inr (.inr (.inr ⟨⟨by omega, hk.2⟩, fun t' q h => by simp at h; omega⟩))
  have hd0 : ¬ live s (.frames n) := fun hh => by have : n < s.fibers.length := hh; omega
  have hd1 : ¬ live s (.locals n 0) := fun hh => by have := hh.1; omega
  have hd2 : ¬ live s (.stack n 0) := fun hh => by have := hh.1; omega
  have hVold : ∀ k, live s k → k ≠ .fibers → upd (upd (upd (upd V .fibers vF) (.frames n) vf) (.locals n 0) vl) (.stack n 0) (.slice none 0 0) k = V k := fun k hk e => by
    rw [upd_ne _ _ (fun (e : k = .stack n 0) => hd2 (e ▸ hk)), upd_ne _ _ (fun (e : k = .locals n 0) => hd1 (e ▸ hk)), upd_ne _ _ (fun (e : k = .frames n) => hd0 (e ▸ hk)), upd_ne _ _ e]
  have hVF : upd (upd (upd (upd V .fibers vF) (.frames n) vf) (.locals n 0) vl) (.stack n 0) (.slice none 0 0) .fibers = vF := by
    rw [upd_ne _ _ (by simp), upd_ne _ _ (by simp), upd_ne _ _ (by simp), upd_same]
  have hVf : upd (upd (upd (upd V .fibers vF) (.frames n) vf) (.locals n 0) vl) (.stack n 0) (.slice none 0 0) (.frames n) = vf := by
    rw [upd_ne _ _ (by simp), upd_ne _ _ (by simp), upd_same]
  have hVl : upd (upd (upd (upd V .fibers vF) (.frames n) vf) (.locals n 0) vl) (.stack n 0) (.slice none 0 0) (.locals n 0) = vl := by
    rw [upd_ne _ _ (by simp), upd_same]
  have hVs : upd (upd (upd (upd V .fibers vF) (.frames n) vf) (.locals n 0) vl) (.stack n 0) (.slice none 0 0) (.stack n 0) = .slice none 0 0 := upd_same _ _ _
  generalize upd (upd (upd (upd V .fibers vF) (.frames n) vf) (.locals n 0) vl) (.stack n 0) (.slice none 0 0) = V' at *
  refine h.turned (fun k hk => ?_) (fun k b hk e => ?_) (fun k k' b hk hk' ho e e' => ?_)
  · rcases hlv k hk with rfl | rfl | rfl | ⟨hlk, hq⟩
    · left
      refine ⟨_, by rw [hVf, hfn]; exact hfr, fun j hj => ?_⟩
      rw [hfn] at hj
      simp at hj
      subst hj
      rw [hfrn, hVl, hVs]
      exact ⟨rfl, rfl, rfl, rfl⟩
    · left
      show World.ownsRow _ _ _ _ _ _ _
      rw [hVl, hfrn]; exact hloc
    · left
      show World.ownsRow _ _ _ _ _ _ _
      rw [hVs, hfrn, hst]; exact World.ownsRow_nil _ _ _ _
    · by_cases hkF : k = .fibers
      · subst hkF; left
        obtain ⟨xs, h1, h2⟩ := h.piece .fibers trivial
        rw [hn] at h1 h2
        refine ⟨_, by rw [hVF, hlen]; exact hown xs h1, fun t ht => ?_⟩
        rw [hlen] at ht
        have hxl : xs.length = n * 2 := h1.1
        by_cases e : t = n
        · subst e
          rw [hVf, hfn]
          refine ⟨?_, ?_⟩ <;> rw [List.getElem?_append_right (by omega), hxl]
          · rw [show t * 2 - t * 2 = 0 by omega]; rfl
          · rw [show t * 2 + 1 - t * 2 = 1 by omega]; rfl
        · have htn : t < n := by omega
          obtain ⟨q0, q1⟩ := h2 t htn
          rw [hVold (.frames t) (by show t < s.fibers.length; omega) (by simp), hfo t htn]
          refine ⟨?_, ?_⟩ <;> rw [List.getElem?_append_left (by omega)] <;> assumption
      · right
        refine ⟨hlk, hVold k hlk hkF, fun hp => ?_, fun b e => hgrow b ((h.piece k hlk).block b e).2 (fun e' => hkF (h.apart k .fibers b hlk trivial e e'))⟩
        cases k using Key.by with
        | fibers => exact absurd rfl hkF
        | out => simp only [Piece] at hp ⊢; rw [hVold _ hlk hkF]; exact hp
        | frames t =>
          have htn := hq t 0 (.inl rfl)
          obtain ⟨xs, r1, r2⟩ := hp
          refine ⟨xs, by rw [hfo t htn, hVold _ hlk hkF]; exact r1, fun q hq' => ?_⟩
          rw [hfo t htn] at hq'
          rw [hfro t q htn, hVold (.locals t q) ⟨hlk, hq'⟩ (by simp), hVold (.stack t q) ⟨hlk, hq'⟩ (by simp)]
          exact r2 q hq'
        | locals t q => simp only [Piece] at hp ⊢; rw [hVold _ hlk hkF, hfro t q (hq t q (.inr (.inl rfl)))]; exact hp
        | stack t q => simp only [Piece] at hp ⊢; rw [hVold _ hlk hkF, hfro t q (hq t q (.inr (.inr rfl)))]; exact hp
  · rcases hlv k hk with rfl | rfl | rfl | ⟨hlk, hq⟩
    · right; rw [hVf, hgf] at e; cases e; exact hoff'
    · right
      rw [hVl] at e
      rcases hgl with e' | e'
      · rw [e'] at e; cases e
      · rw [e'] at e; cases e; exact hoff
    · rw [hVs] at e; cases e
    · by_cases hkF : k = .fibers
      · subst hkF
        rw [hVF] at e
        rcases hat with e' | e'
        · exact .inl ⟨trivial, by rw [← e', e]⟩
        · rw [e] at e'; cases e'; exact .inr (h.new_off (.inl (Nat.le_refl _)))
      · rw [hVold k hlk hkF] at e; exact .inl ⟨hlk, e⟩
  · have hwhich : ∀ k, live { s with fibers := s.fibers ++ [⟨[f], c⟩] } k → (V' k).ownBlock = some b → (k = .locals n 0 ∧ b = gl) ∨ (k = .frames n ∧ b = gf) ∨ (k = .fibers ∧ b = w.heap.size) := by
      intro k hk e
      rcases hlv k hk with rfl | rfl | rfl | ⟨hlk, hq⟩
      · rw [hVf, hgf] at e; cases e; exact .inr (.inl ⟨rfl, rfl⟩)
      · left
        rw [hVl] at e
        rcases hgl with e' | e'
        · rw [e'] at e; cases e
        · rw [e'] at e; cases e; exact ⟨rfl, rfl⟩
      · rw [hVs] at e; cases e
      · by_cases hkF : k = .fibers
        · subst hkF
          rw [hVF] at e
          rcases hat with e' | e'
          · exact absurd (by rw [← e', e]) (ho .fibers trivial)
          · rw [e] at e'; cases e'; exact .inr (.inr ⟨rfl, rfl⟩)
        · rw [hVold k hlk hkF] at e
          exact absurd e (ho k hlk)
    rcases hwhich k hk e with ⟨h1, h2⟩ | ⟨h1, h2⟩ | ⟨h1, h2⟩ <;> rcases hwhich k' hk' e' with ⟨h3, h4⟩ | ⟨h3, h4⟩ | ⟨h3, h4⟩ <;> first | omega | (rw [h1, h3])
theorem row_cap {w : World} {base : Nat} {e : TypeId} {size : Nat} {oa : Option Addr} {n cap : Nat} {xs : List Value} (h : w.ownsRow base e size (.slice oa n cap) n xs) : n ≤ cap := by
  rcases h.2 with ⟨h1, h2⟩ | ⟨g, c, cur, h1, _, _, h2, _⟩
  · omega
  · simp only [Value.slice.injEq] at h1
    omega
theorem row_slice {w : World} {base : Nat} {e : TypeId} {size : Nat} {v : Value} {n : Nat} {xs : List Value} (h : w.ownsRow base e size v n xs) : ∃ oa cap, v = .slice oa n cap ∧ (oa = none ∧ n = 0 ∨ ∃ g, oa = some ⟨g, 0, none⟩ ∧ ∀ j u, xs[j]? = some u → w.cell? ⟨g, j, none⟩ = some u) := by
  rcases h.2 with ⟨rfl, rfl⟩ | ⟨g, cap, cur, rfl, hb, hg, hnc, hcm, hcs, htake⟩
  · exact ⟨none, 0, rfl, .inl ⟨rfl, rfl⟩⟩
  · refine ⟨_, cap, rfl, .inr ⟨g, rfl, fun j u hu => ?_⟩⟩
    have := h.cells (g := g) rfl j u hu
    have hadd : (⟨g, 0, none⟩ : Addr).add j = ⟨g, j, none⟩ := by unfold Addr.add; split <;> simp_all
    rwa [hadd] at this
theorem ints_row {w : World} {base : Nat} {v : Value} {l : List Int} (h : w.ownsRow base 3 1 v l.length (ints l)) (hl : l.length ≤ 1000) : IntsW w v l := by
  obtain ⟨oa, cap, rfl, h1⟩ := row_slice h
  refine ⟨oa, cap, rfl, by omega, fun i z hz => ?_⟩
  have hi : i < l.length := (List.getElem?_eq_some_iff.1 hz).1
  rcases h1 with ⟨_, h0⟩ | ⟨g, rfl, h1⟩
  · omega
  · exact ⟨g, 0, rfl, by rw [Nat.zero_add]; exact h1 i _ (by simp [ints, hz])⟩
theorem fibAt_mem {s : St} {i : Nat} {b : Fb} (h : s.fibers[i]? = some b) : i < s.fibers.length ∧ fibAt s i = b := by
  have hi := (List.getElem?_eq_some_iff.1 h).1
  exact ⟨hi, by simp [fibAt, List.getD, h]⟩
theorem frAt_mem {s : St} {i j : Nat} {f : Fr} (h : (fibAt s i).frames[j]? = some f) : j < (fibAt s i).frames.length ∧ frAt s i j = f := by
  have hi := (List.getElem?_eq_some_iff.1 h).1
  exact ⟨hi, by simp [frAt, List.getD, h]⟩
theorem Own.reads {base : Nat} {w : World} {V : Key → Value} {s : St} (h : Own base w V s) (hs : Small s) : StAt w (.agg #[V .fibers, .int .i64 s.now, V .out]) s := by
  refine ⟨_, _, rfl, ?_, ints_row (h.piece .out trivial) hs.2.1⟩
  obtain ⟨xs, h1, h2⟩ := h.piece .fibers trivial
  obtain ⟨oa, cap, e, h3⟩ := row_slice h1
  refine ⟨oa, cap, e, by have := hs.1; omega, fun i b hb => ?_⟩
  obtain ⟨hi, hbe⟩ := fibAt_mem hb
  rcases h3 with ⟨_, h0⟩ | ⟨g, rfl, h3⟩
  · omega
  · obtain ⟨q0, q1⟩ := h2 i hi
    refine ⟨g, 0, V (.frames i), rfl, by rw [Nat.zero_add]; exact h3 _ _ q0, by rw [Nat.zero_add]; rw [hbe] at q1; exact h3 _ _ q1, ?_⟩
    obtain ⟨ys, r1, r2⟩ := h.piece (.frames i) hi
    have hsb := hs.2.2 b (List.mem_of_getElem? hb)
    obtain ⟨oa', cap', e', r3⟩ := row_slice r1
    rw [hbe] at e' r3
    refine ⟨oa', cap', e', ⟨by have := hsb.1; omega, ?_⟩, fun j f hf => ?_⟩
    · rw [hbe, e'] at r1; exact row_cap r1
    obtain ⟨hj, hfe⟩ := frAt_mem (s := s) (i := i) (by rw [hbe]; exact hf)
    have hj' := hj
    rw [hbe] at hj'
    rcases r3 with ⟨_, h0⟩ | ⟨g', rfl, r3⟩
    · omega
    · obtain ⟨t0, t1, t2, t3⟩ := r2 j hj
      rw [hfe] at t0 t1
      have hl := h.piece (.locals i j) ⟨hi, hj⟩
      have hk := h.piece (.stack i j) ⟨hi, hj⟩
      simp only [Piece, hfe] at hl hk
      have hsf := hsb.2 f (List.mem_of_getElem? hf)
      refine ⟨g', 0, _, _, rfl, ?_, ?_, ?_, ?_, ints_row hl hsf.1, ints_row hk hsf.2⟩ <;> rw [Nat.zero_add] <;> exact r3 _ _ (by assumption)
theorem new_one (w : World) (v : Value) (t : TypeId) : ∀ j u, [v][j]? = some u → (w.alloc (.cells #[v] t)).cell? ((⟨w.heap.size, 0, none⟩ : Addr).add j) = some u := cell_one_new w v t
theorem int_one (z : Int) : ∀ u, u ∈ [Value.int .i64 z] → u.oneCell' = true := by
  intro u hu
  simp only [List.mem_cons, List.not_mem_nil, or_false] at hu
  subst hu
  rfl
theorem row_low {w : World} {base : Nat} {e : TypeId} {size : Nat} {v : Value} {n : Nat} {xs : List Value} (h : w.ownsRow base e size v n xs) : ∀ r, v.ownBlock = some r → base ≤ r := fun r hr => (h.lt r hr).1
structure OwnVar (base : Nat) (w : World) (bs : Nat) (V : Key → Value) (s : St) : Prop where
  var : w.heap[bs]? = some (.cells #[V .fibers, .int .i64 s.now, V .out] 44)
  own : Own base w V s
  off : Own.off V s bs
  low : base ≤ bs
theorem ints_get {l : List Int} {i : Nat} {z : Int} (h : l[i]? = some z) : (ints l)[i]? = some (.int .i64 z) := by simp [ints, h]
theorem row_some {w : World} {base : Nat} {e : TypeId} {size : Nat} {v : Value} {n : Nat} {xs : List Value} (h : w.ownsRow base e size v n xs) (hn : 0 < n) :
    ∃ g cap, v = .slice (some ⟨g, 0, none⟩) n cap ∧ n ≤ cap ∧ (∀ j u, xs[j]? = some u → w.cell? ⟨g, j, none⟩ = some u) ∧ (∀ j, w.frozen? ⟨g, j, none⟩ = false) ∧ base ≤ g := by
  rcases h.2 with ⟨_, h0⟩ | ⟨g, cap, cur, rfl, hb, hg, hnc, hcm, hcs, htake⟩
  · omega
  · refine ⟨g, cap, rfl, hnc, fun j u hu => ?_, fun j => h.frozenAt j, hb⟩
    have hjl : j < n * size := by rw [← h.1]; exact (List.getElem?_eq_some_iff.1 hu).1
    rw [h.cellAt j hjl]; exact hu
theorem Own.fib {base : Nat} {w : World} {V : Key → Value} {s : St} (h : Own base w V s) {i : Nat} (hi : i < s.fibers.length) :
    ∃ gF capF, V .fibers = .slice (some ⟨gF, 0, none⟩) s.fibers.length capF ∧ s.fibers.length ≤ capF ∧ w.cell? ⟨gF, i * 2, none⟩ = some (V (.frames i)) ∧ w.cell? ⟨gF, i * 2 + 1, none⟩ = some (.int .i64 (fibAt s i).caller) ∧ (∀ j, w.frozen? ⟨gF, j, none⟩ = false) ∧ base ≤ gF := by
  obtain ⟨xs, h1, h2⟩ := h.piece .fibers trivial
  obtain ⟨g, cap, e, hc, hx, hf, hb⟩ := row_some h1 (by omega)
  obtain ⟨q0, q1⟩ := h2 i hi
  exact ⟨g, cap, e, hc, hx _ _ q0, hx _ _ q1, hf, hb⟩
theorem Own.fr {base : Nat} {w : World} {V : Key → Value} {s : St} (h : Own base w V s) {i j : Nat} (hi : i < s.fibers.length) (hj : j < (fibAt s i).frames.length) :
    ∃ g cap, V (.frames i) = .slice (some ⟨g, 0, none⟩) (fibAt s i).frames.length cap ∧ (fibAt s i).frames.length ≤ cap ∧ w.cell? ⟨g, j * 4, none⟩ = some (.int .i64 (frAt s i j).fn) ∧ w.cell? ⟨g, j * 4 + 1, none⟩ = some (.int .i64 (frAt s i j).at_) ∧ w.cell? ⟨g, j * 4 + 2, none⟩ = some (V (.locals i j)) ∧ w.cell? ⟨g, j * 4 + 3, none⟩ = some (V (.stack i j)) ∧ (∀ t, w.frozen? ⟨g, t, none⟩ = false) ∧ base ≤ g := by
  obtain ⟨xs, h1, h2⟩ := h.piece (.frames i) hi
  obtain ⟨g, cap, e, hc, hx, hf, hb⟩ := row_some h1 (by omega)
  obtain ⟨q0, q1, q2, q3⟩ := h2 j hj
  exact ⟨g, cap, e, hc, hx _ _ q0, hx _ _ q1, hx _ _ q2, hx _ _ q3, hf, hb⟩
theorem Own.stk {base : Nat} {w : World} {V : Key → Value} {s : St} (h : Own base w V s) {i j : Nat} (hi : i < s.fibers.length) (hj : j < (fibAt s i).frames.length) : w.ownsRow base 3 1 (V (.stack i j)) (frAt s i j).stack.length (ints (frAt s i j).stack) := h.piece (.stack i j) ⟨hi, hj⟩
theorem Own.loc {base : Nat} {w : World} {V : Key → Value} {s : St} (h : Own base w V s) {i j : Nat} (hi : i < s.fibers.length) (hj : j < (fibAt s i).frames.length) : w.ownsRow base 3 1 (V (.locals i j)) (frAt s i j).locals.length (ints (frAt s i j).locals) := h.piece (.locals i j) ⟨hi, hj⟩
theorem OwnVar.same {base bs : Nat} {w w' : World} {V : Key → Value} {s : St} (h : OwnVar base w bs V s) (hh : w'.heap = w.heap) : OwnVar base w' bs V s :=
  ⟨by rw [hh]; exact h.var, h.own.same (fun k g _ _ => by rw [hh]), h.off, h.low⟩
theorem OwnVar.alloc {base bs : Nat} {w : World} {V : Key → Value} {s : St} (h : OwnVar base w bs V s) (o : Obj) : OwnVar base (w.alloc o) bs V s :=
  ⟨by rw [Below.heap_alloc w o bs (lt_of_block h.var)]; exact h.var, h.own.alloc o, h.off, h.low⟩
theorem OwnVar.cells {base bs : Nat} {w : World} {V : Key → Value} {s : St} (h : OwnVar base w bs V s) : w.cell? ⟨bs, 0, none⟩ = some (V .fibers) ∧ w.cell? ⟨bs, 1, none⟩ = some (.int .i64 s.now) ∧ w.cell? ⟨bs, 2, none⟩ = some (V .out) ∧ ∀ j, w.frozen? ⟨bs, j, none⟩ = false := by
  have hv := h.var
  refine ⟨?_, ?_, ?_, fun j => ?_⟩ <;> simp [World.cell?, World.frozen?, hv]
theorem OwnVar.setNow {base bs : Nat} {w : World} {V : Key → Value} {s : St} (h : OwnVar base w bs V s) (n : Int) : OwnVar base (w.setCell ⟨bs, 1, none⟩ (.int .i64 n)) bs V { s with now := n } := by
  refine ⟨?_, (h.own.setOff (a := ⟨bs, 1, none⟩) h.off _).now n, ?_, h.low⟩
  · have := h.var
    simp [World.setCell, Array.getElem?_modify, this]
  · intro k hk
    exact h.off k (by cases k using Key.by <;> exact hk)
theorem OwnVar.turn {base bs : Nat} {w w' : World} {V V' : Key → Value} {s s' : St} (h : OwnVar base w bs V s) (ho : Own base w' V' s') (hb : w'.heap[bs]? = w.heap[bs]?) (hf : V' .fibers = V .fibers) (hout : V' .out = V .out) (hn : s'.now = s.now) (hoff : Own.off V' s' bs) : OwnVar base w' bs V' s' :=
  ⟨by rw [hb, h.var, hf, hout, hn], ho, hoff, h.low⟩
theorem OwnVar.setCaller {base bs : Nat} {w : World} {V : Key → Value} {s : St} (h : OwnVar base w bs V s) {i g cap : Nat} (hi : i < s.fibers.length) (hV : V .fibers = .slice (some ⟨g, 0, none⟩) s.fibers.length cap) (c : Int) :
    OwnVar base (w.setCell ⟨g, i * 2 + 1, none⟩ (.int .i64 c)) bs V (setFib s i { fibAt s i with caller := c }) ∧ Below base w (w.setCell ⟨g, i * 2 + 1, none⟩ (.int .i64 c)) := by
  have hgb : (V .fibers).ownBlock = some g := by rw [hV]; rfl
  have hlv : ∀ k, live (setFib s i { fibAt s i with caller := c }) k → live s k := by
    have hfr : ∀ j, (fibAt (setFib s i { fibAt s i with caller := c }) j).frames = (fibAt s j).frames := fun j => by
      by_cases e : i = j
      · subst e; rw [fibAt_same _ hi]
      · rw [fibAt_ne _ e]
    intro k hk
    cases k using Key.by <;> simp only [live, setFib_len, hfr] at hk ⊢ <;> exact hk
  refine ⟨h.turn (h.own.setCaller hi hV c) (Below.heap_setCell _ _ _ _ (fun e => h.off .fibers trivial (by rw [hgb]; exact congrArg some e.symm))) rfl rfl rfl (fun k hk => h.off k (hlv k hk)), Below.setCell (Below.refl _ w) ((h.own.piece .fibers trivial).block g hgb).1 _⟩
theorem OwnVar.setAt {base bs : Nat} {w : World} {V : Key → Value} {s : St} (h : OwnVar base w bs V s) {i j g cap : Nat} (hi : i < s.fibers.length) (hj : j < (fibAt s i).frames.length) (hV : V (.frames i) = .slice (some ⟨g, 0, none⟩) (fibAt s i).frames.length cap) (a : Int) :
    OwnVar base (w.setCell ⟨g, j * 4 + 1, none⟩ (.int .i64 a)) bs V (setFr s i j { frAt s i j with at_ := a }) ∧ Below base w (w.setCell ⟨g, j * 4 + 1, none⟩ (.int .i64 a)) := by
  have hgb : (V (.frames i)).ownBlock = some g := by rw [hV]; rfl
  have hown := h.own.turnFrame (w1 := w) hi hj hV (V (.stack i j)) { frAt s i j with at_ := a } 1 (.int .i64 a) (by omega) (fun _ _ _ => rfl) (h.own.stk hi hj) (.inl rfl) rfl rfl rfl rfl rfl
  have hu : upd V (.stack i j) (V (.stack i j)) = V := by
    funext k
    by_cases e : k = .stack i j
    · subst e; rw [upd_same]
    · rw [upd_ne V _ e]
  rw [hu] at hown
  exact ⟨h.turn hown (Below.heap_setCell _ _ _ _ (fun e => h.off (.frames i) hi (by rw [hgb]; exact congrArg some e.symm))) rfl rfl rfl (fun k hk => h.off k ((setFr_live _ hi k).1 hk)), Below.setCell (Below.refl _ w) ((h.own.piece (.frames i) hi).block g hgb).1 _⟩
theorem OwnVar.setLocal {base bs : Nat} {w : World} {V : Key → Value} {s : St} (h : OwnVar base w bs V s) {i j g cap q : Nat} (hi : i < s.fibers.length) (hj : j < (fibAt s i).frames.length) (hV : V (.locals i j) = .slice (some ⟨g, 0, none⟩) (frAt s i j).locals.length cap) (z : Int) :
    OwnVar base (w.setCell ⟨g, q, none⟩ (.int .i64 z)) bs V (setFr s i j { frAt s i j with locals := (frAt s i j).locals.set q z }) ∧ Below base w (w.setCell ⟨g, q, none⟩ (.int .i64 z)) := by
  have hgb : (V (.locals i j)).ownBlock = some g := by rw [hV]; rfl
  exact ⟨h.turn (h.own.setLocal hi hj hV z) (Below.heap_setCell _ _ _ _ (fun e => h.off (.locals i j) ⟨hi, hj⟩ (by rw [hgb]; exact congrArg some e.symm))) rfl rfl rfl (fun k hk => h.off k ((setFr_live _ hi k).1 hk)), Below.setCell (Below.refl _ w) ((h.own.piece (.locals i j) ⟨hi, hj⟩).block g hgb).1 _⟩
theorem OwnVar.dropFrame {base bs : Nat} {w : World} {V : Key → Value} {s : St} (h : OwnVar base w bs V s) {i gF capF g cap : Nat} (hi : i < s.fibers.length)
    (hF : V .fibers = .slice (some ⟨gF, 0, none⟩) s.fibers.length capF) (hV : V (.frames i) = .slice (some ⟨g, 0, none⟩) (fibAt s i).frames.length cap) :
    OwnVar base (w.setCell ⟨gF, i * 2, none⟩ (.slice (some ⟨g, 0, none⟩) ((fibAt s i).frames.length - 1) cap)) bs (upd V (.frames i) (.slice (some ⟨g, 0, none⟩) ((fibAt s i).frames.length - 1) cap)) (setFib s i { fibAt s i with frames := (fibAt s i).frames.dropLast }) ∧ Below base w (w.setCell ⟨gF, i * 2, none⟩ (.slice (some ⟨g, 0, none⟩) ((fibAt s i).frames.length - 1) cap)) := by
  have hFb : (V .fibers).ownBlock = some gF := by rw [hF]; rfl
  have hgb : (V (.frames i)).ownBlock = some g := by rw [hV]; rfl
  refine ⟨h.turn (h.own.dropFrame hi hF hV) (Below.heap_setCell _ _ _ _ (fun e => h.off .fibers trivial (by rw [hFb]; exact congrArg some e.symm))) (upd_ne V _ (by simp)) (upd_ne V _ (by simp)) rfl (fun k hk e => ?_), Below.setCell (Below.refl _ w) ((h.own.piece .fibers trivial).block gF hFb).1 _⟩
  have hlv : live s k := by
    have hfl : ∀ t, (fibAt (setFib s i { fibAt s i with frames := (fibAt s i).frames.dropLast }) t).frames.length ≤ (fibAt s t).frames.length := fun t => by
      by_cases e : i = t
      · subst e; rw [fibAt_same _ hi]; simp
      · rw [fibAt_ne _ e]; exact Nat.le_refl _
    cases k using Key.by with
    | fibers => trivial
    | out => trivial
    | frames t => simpa only [live, setFib_len] using hk
    | locals t q => simp only [live, setFib_len] at hk ⊢; exact ⟨hk.1, Nat.lt_of_lt_of_le hk.2 (hfl t)⟩
    | stack t q => simp only [live, setFib_len] at hk ⊢; exact ⟨hk.1, Nat.lt_of_lt_of_le hk.2 (hfl t)⟩
  by_cases hkf : k = .frames i
  · subst hkf
    rw [upd_same] at e
    exact h.off _ hlv (by rw [hgb]; exact e)
  · rw [upd_ne V _ hkf] at e
    exact h.off k hlv e
theorem top_frAt (s : St) (i : Nat) : (fibAt s i).top = frAt s i ((fibAt s i).frames.length - 1) := by
  unfold Fb.top frAt
  rw [List.getLast?_eq_getElem?]
  simp [List.getD]
theorem turnTop_setFr (s : St) (i : Nat) (g : Fr → Fr) : s.turnTop (i : Int) g = setFr s i ((fibAt s i).frames.length - 1) (g (frAt s i ((fibAt s i).frames.length - 1))) := by
  unfold St.turnTop St.turn Fb.turnTop setFr setFib St.fib
  rw [Int.toNat_natCast]
  show _ = { s with fibers := _ }
  rw [← top_frAt s i]
  rfl
structure Runs (s : St) (i : Nat) : Prop where
  lt : i < s.fibers.length
  fr : 0 < (fibAt s i).frames.length
  frs : (fibAt s i).frames.length ≤ 1000
  st : (frAt s i ((fibAt s i).frames.length - 1)).stack.length ≤ 1000
theorem fib_fibAt (s : St) (i : Nat) : s.fib (i : Int) = fibAt s i := by unfold St.fib fibAt; rw [Int.toNat_natCast]
theorem turn_setFib (s : St) (i : Nat) (g : Fb → Fb) : s.turn (i : Int) g = setFib s i (g (fibAt s i)) := by
  unfold St.turn; rw [fib_fibAt, Int.toNat_natCast]; rfl
theorem pullV_setFr {s : St} {i : Nat} (hn : s.now = i) : pullV s = setFr s i ((fibAt s i).frames.length - 1) { frAt s i ((fibAt s i).frames.length - 1) with stack := (frAt s i ((fibAt s i).frames.length - 1)).stack.dropLast } := by
  unfold pullV
  rw [hn, turnTop_setFr]
theorem setFr_other {s : St} {i j k : Nat} (f : Fr) (h : i ≠ k) : fibAt (setFr s i j f) k = fibAt s k := fibAt_ne _ h
theorem Runs.other {s s' : St} {k : Nat} (h : Runs s k) (hl : s'.fibers.length = s.fibers.length) (hf : fibAt s' k = fibAt s k) : Runs s' k := by
  have hfr : ∀ j, frAt s' k j = frAt s k j := fun j => by unfold frAt; rw [hf]
  exact ⟨by rw [hl]; exact h.lt, by rw [hf]; exact h.fr, by rw [hf]; exact h.frs, by rw [hfr, hf]; exact h.st⟩
def nextS (s : St) (i ai : Nat) : St := setFr s i ((fibAt s i).frames.length - 1) { frAt s i ((fibAt s i).frames.length - 1) with at_ := (ai : Int) + 1 }
theorem setAt_setFr {s : St} {i : Nat} (hn : s.now = i) (a : Int) : setAt s a = setFr s i ((fibAt s i).frames.length - 1) { frAt s i ((fibAt s i).frames.length - 1) with at_ := a } := by
  unfold setAt
  rw [hn, turnTop_setFr]
theorem top_at {s : St} {i : Nat} (hn : s.now = i) : s.top = frAt s i ((fibAt s i).frames.length - 1) := by
  unfold St.top St.fib
  rw [hn, Int.toNat_natCast, show s.fibers.getD i Fb.zero = fibAt s i from rfl, top_frAt]
theorem next_facts {s : St} {i : Nat} (hn : s.now = i) (hr : Runs s i) (ai : Nat) :
    (nextS s i ai).now = i ∧ (nextS s i ai).fibers.length = s.fibers.length ∧ (nextS s i ai).out = s.out ∧ (∀ k, (fibAt (nextS s i ai) k).caller = (fibAt s k).caller) ∧ (∀ k, (fibAt (nextS s i ai) k).frames.length = (fibAt s k).frames.length) ∧
    frAt (nextS s i ai) i ((fibAt s i).frames.length - 1) = { frAt s i ((fibAt s i).frames.length - 1) with at_ := (ai : Int) + 1 } ∧ (∀ k, k ≠ i → fibAt (nextS s i ai) k = fibAt s k) ∧ Runs (nextS s i ai) i := by
  have hj : (fibAt s i).frames.length - 1 < (fibAt s i).frames.length := by have := hr.fr; omega
  have h6 : frAt (nextS s i ai) i ((fibAt s i).frames.length - 1) = { frAt s i ((fibAt s i).frames.length - 1) with at_ := (ai : Int) + 1 } := frAt_same _ hr.lt hj
  have h5 : ∀ k, (fibAt (nextS s i ai) k).frames.length = (fibAt s k).frames.length := fun k => setFr_frames _ hr.lt k
  have h2 : (nextS s i ai).fibers.length = s.fibers.length := setFib_len _ _ _
  refine ⟨hn, h2, rfl, fun k => setFr_caller _ hr.lt k, h5, h6, fun k hk => setFr_other _ (fun e => hk e.symm), ⟨by rw [h2]; exact hr.lt, by rw [h5]; exact hr.fr, by rw [h5]; exact hr.frs, ?_⟩⟩
  rw [h5, h6]
  exact hr.st
theorem next_other {s : St} {i : Nat} (ai k : Nat) (hk : k ≠ i) (h : Runs s k) : Runs (nextS s i ai) k :=
  h.other (setFib_len _ _ _) (setFr_other _ (fun e => hk e.symm))
theorem next_fr {s : St} {i : Nat} (hr : Runs s i) (ai t q : Nat) : (frAt (nextS s i ai) t q).stack = (frAt s t q).stack ∧ (frAt (nextS s i ai) t q).locals = (frAt s t q).locals ∧ (frAt (nextS s i ai) t q).fn = (frAt s t q).fn := by
  have hj : (fibAt s i).frames.length - 1 < (fibAt s i).frames.length := by have := hr.fr; omega
  unfold nextS
  by_cases e : i = t ∧ (fibAt s i).frames.length - 1 = q
  · obtain ⟨rfl, rfl⟩ := e
    rw [frAt_same _ hr.lt hj]
    exact ⟨rfl, rfl, rfl⟩
  · rw [frAt_ne _ hr.lt e]
    exact ⟨rfl, rfl, rfl⟩
theorem doneS_at {p : List Fn} {s : St} {i fi ai : Nat} {kd a : Int} (hn : s.now = i) (hf : (frAt s i ((fibAt s i).frames.length - 1)).fn = fi) (ha : (frAt s i ((fibAt s i).frames.length - 1)).at_ = ai) (hx : (codeOf p fi).getD ai (0, 0) = (kd, a)) :
    doneS p s = (if kd = 0 then (pushV (nextS s i ai) i a, 0)
      else if kd = 1 then (pullV (nextS s i ai), 0)
      else if kd = 2 then (pushV (nextS s i ai) i ((nextS s i ai).top.locals.getD a.toNat 0), 0)
      else if kd = 3 then ((pullV (nextS s i ai)).turnTop i fun f => { f with locals := f.locals.set a.toNat (lastV (nextS s i ai)) }, 0)
      else if kd = 9 then (setAt (nextS s i ai) a, 0)
      else if kd = 10 then (if lastV (nextS s i ai) = 0 then setAt (pullV (nextS s i ai)) a else pullV (nextS s i ai), 0)
      else if kd = 11 then calledS p (nextS s i ai) a
      else if kd = 12 then givenS (nextS s i ai)
      else if kd = 13 then madeS p (nextS s i ai) a
      else if kd = 14 then resumedS (nextS s i ai)
      else if kd = 15 then yieldedS (nextS s i ai)
      else if kd = 16 then putS (pullV (nextS s i ai)) (lastV (nextS s i ai))
      else (pushV (pullV (pullV (nextS s i ai))) i (reckonS kd (lastV (pullV (nextS s i ai))) (lastV (nextS s i ai))), 0)) := by
  unfold doneS
  have ht := top_at hn
  have hs : setAt s (s.top.at_ + 1) = nextS s i ai := by rw [setAt_setFr hn, ht, ha]; rfl
  have hnow : (nextS s i ai).now = i := hn
  simp only []
  rw [hs, ht, hf, ha, Int.toNat_natCast, Int.toNat_natCast, hx, hnow]
def needN (kd : Int) : Nat := if kd = 0 ∨ kd = 2 ∨ kd = 9 ∨ kd = 11 ∨ kd = 13 then 0 else if kd = 1 ∨ kd = 3 ∨ kd = 10 ∨ kd = 12 ∨ kd = 15 ∨ kd = 16 then 1 else 2
def opAt (p : List Fn) (f : Fr) : Int × Int := (codeOf p f.fn.toNat).getD f.at_.toNat (0, 0)
def needS (p : List Fn) (f : Fr) : Prop :=
  needN (opAt p f).1 ≤ f.stack.length ∧
  ((opAt p f).1 = 2 ∨ (opAt p f).1 = 3 → 0 ≤ (opAt p f).2 ∧ (opAt p f).2.toNat < f.locals.length) ∧
  ((opAt p f).1 = 11 → 0 ≤ (opAt p f).2 ∧ (opAt p f).2.toNat < p.length ∧ 0 ≤ (p.getD (opAt p f).2.toNat Fn.zero).args ∧ (p.getD (opAt p f).2.toNat Fn.zero).args ≤ (p.getD (opAt p f).2.toNat Fn.zero).locals ∧ (p.getD (opAt p f).2.toNat Fn.zero).locals ≤ 1000 ∧ (p.getD (opAt p f).2.toNat Fn.zero).args.toNat ≤ f.stack.length) ∧
  ((opAt p f).1 = 13 → 0 ≤ (opAt p f).2 ∧ (opAt p f).2.toNat < p.length ∧ 0 ≤ (p.getD (opAt p f).2.toNat Fn.zero).locals ∧ (p.getD (opAt p f).2.toNat Fn.zero).locals ≤ 1000)
def OkS (p : List Fn) (s : St) : Prop :=
  (0 ≤ s.now ∧ s.now.toNat < s.fibers.length ∧ s.fibers.length ≤ 5 ∧ s.out.length ≤ 30) ∧
  (∀ b ∈ s.fibers, (b.frames.length ≤ 6 ∧ -1 ≤ b.caller ∧ b.caller < s.fibers.length) ∧ ∀ f ∈ b.frames, f.locals.length ≤ 1000 ∧ f.stack.length ≤ 1000) ∧
  0 < (fibAt s s.now.toNat).frames.length ∧
  (0 ≤ (fibAt s s.now.toNat).caller → (fibAt s s.now.toNat).caller ≠ s.now ∧ 0 < (fibAt s (fibAt s s.now.toNat).caller.toNat).frames.length) ∧
  ((lineS s).isSome = true ∧ s.now ∈ (lineS s).getD []) ∧
  (∀ k, k < s.fibers.length → (k : Int) ∉ (lineS s).getD [] → 0 < (fibAt s k).frames.length → (frAt s k ((fibAt s k).frames.length - 1)).at_ = 0 → 0 < (frAt s k ((fibAt s k).frames.length - 1)).locals.length) ∧
  (0 ≤ s.top.fn ∧ s.top.fn.toNat < p.length ∧ 0 ≤ s.top.at_ ∧ s.top.at_.toNat < (codeOf p s.top.fn.toNat).length ∧ (codeOf p s.top.fn.toNat).length ≤ 1000) ∧ needS p s.top
theorem top_mem {s : St} (i : Nat) (hi : i < s.fibers.length) : fibAt s i ∈ s.fibers := by
  have : fibAt s i = s.fibers[i] := by simp [fibAt, List.getD, hi]
  rw [this]; exact List.getElem_mem hi
theorem fr_mem {s : St} (i j : Nat) (hj : j < (fibAt s i).frames.length) : frAt s i j ∈ (fibAt s i).frames := by
  have : frAt s i j = (fibAt s i).frames[j] := by simp [frAt, List.getD, hj]
  rw [this]; exact List.getElem_mem hj
theorem put_err (s : St) (v : Int) (h : (putS s v).2 ≠ 0) : (putS s v).1 = St.zero := by
  unfold putS at h ⊢
  split
  · rfl
  · rename_i hh; rw [if_neg hh] at h; exact absurd rfl h
theorem given_err (s : St) (h : (givenS s).2 ≠ 0) : (givenS s).1 = St.zero := by
  unfold givenS at h ⊢
  simp only at h ⊢
  split
  · rename_i h1
    rw [if_pos h1] at h
    split
    · rename_i h2
      rw [if_pos h2] at h
      exact put_err _ _ h
    · rename_i h2
      rw [if_neg h2] at h
      exact absurd rfl h
  · rename_i h1
    rw [if_neg h1] at h
    exact absurd rfl h
theorem resumed_err (s : St) (h : (resumedS s).2 ≠ 0) : (resumedS s).1 = St.zero := by
  unfold resumedS at h ⊢
  simp only at h ⊢
  split
  · rename_i h1
    rw [if_pos h1] at h
    split
    · rfl
    · rename_i h2
      rw [if_neg h2] at h
      split
      · rename_i h3; rw [if_pos h3] at h; exact absurd rfl h
      · rename_i h3; rw [if_neg h3] at h; exact absurd rfl h
  · rfl
theorem called_err (p : List Fn) (s : St) (f : Int) (h : (calledS p s f).2 ≠ 0) : (calledS p s f).1 = St.zero := by
  unfold calledS at h ⊢
  simp only at h ⊢
  split
  · rfl
  · rename_i hh; rw [if_neg hh] at h; exact absurd rfl h
theorem yielded_err (s : St) (h : (yieldedS s).2 ≠ 0) : (yieldedS s).1 = St.zero := by
  unfold yieldedS at h ⊢
  simp only at h ⊢
  split
  · rfl
  · rename_i hh; rw [if_neg hh] at h; exact absurd rfl h
theorem made_err (p : List Fn) (s : St) (f : Int) (h : (madeS p s f).2 ≠ 0) : (madeS p s f).1 = St.zero := by
  unfold madeS at h ⊢
  split
  · rfl
  · rename_i hh; rw [if_neg hh] at h; exact absurd rfl h
theorem done_err {p : List Fn} {s : St} (h : (doneS p s).2 ≠ 0) : (doneS p s).1 = St.zero := by
  unfold doneS at h ⊢
  simp only at h ⊢
  generalize (codeOf p s.top.fn.toNat).getD s.top.at_.toNat (0, 0) = x at h ⊢
  generalize setAt s (s.top.at_ + 1) = t at h ⊢
  by_cases k0 : x.1 = 0
  · rw [if_pos k0] at h; exact absurd rfl h
  rw [if_neg k0] at h ⊢
  by_cases k1 : x.1 = 1
  · rw [if_pos k1] at h; exact absurd rfl h
  rw [if_neg k1] at h ⊢
  by_cases k2 : x.1 = 2
  · rw [if_pos k2] at h; exact absurd rfl h
  rw [if_neg k2] at h ⊢
  by_cases k3 : x.1 = 3
  · rw [if_pos k3] at h; exact absurd rfl h
  rw [if_neg k3] at h ⊢
  by_cases k9 : x.1 = 9
  · rw [if_pos k9] at h; exact absurd rfl h
  rw [if_neg k9] at h ⊢
  by_cases k10 : x.1 = 10
  · rw [if_pos k10] at h; exact absurd rfl h
  rw [if_neg k10] at h ⊢
  by_cases k11 : x.1 = 11
  · rw [if_pos k11] at h ⊢; exact called_err _ _ _ h
  rw [if_neg k11] at h ⊢
  by_cases k12 : x.1 = 12
  · rw [if_pos k12] at h ⊢; exact given_err _ h
  rw [if_neg k12] at h ⊢
  by_cases k13 : x.1 = 13
  · rw [if_pos k13] at h ⊢; exact made_err _ _ _ h
  rw [if_neg k13] at h ⊢
  by_cases k14 : x.1 = 14
  · rw [if_pos k14] at h ⊢; exact resumed_err _ h
  rw [if_neg k14] at h ⊢
  by_cases k15 : x.1 = 15
  · rw [if_pos k15] at h ⊢; exact yielded_err _ h
  rw [if_neg k15] at h ⊢
  by_cases k16 : x.1 = 16
  · rw [if_pos k16] at h ⊢; exact put_err _ _ h
  rw [if_neg k16] at h
  exact absurd rfl h
theorem runS_stop (p : List Fn) (k : Nat) (s : St) (h : k = 0 ∨ s.now < 0) : runS p k s = (s, 0, 0) := by
  cases k with
  | zero => rfl
  | succ k =>
    rcases h with h | h
    · cases h
    · unfold runS; rw [if_pos h]
theorem runS_err (p : List Fn) (k : Nat) (s : St) (h : ¬ s.now < 0) (he : (doneS p s).2 ≠ 0) : runS p (k + 1) s = (s, 0, (doneS p s).2) := by
  unfold runS
  have : oneS p s = doneS p s := by unfold oneS; rw [if_neg h]
  rw [if_neg h, this, if_neg he]
theorem runS_go (p : List Fn) (k : Nat) (s : St) (h : ¬ s.now < 0) (he : (doneS p s).2 = 0) : runS p (k + 1) s = ((runS p k (doneS p s).1).1, (runS p k (doneS p s).1).2.1 + 1, (runS p k (doneS p s).1).2.2) := by
  conv => lhs; unfold runS
  have : oneS p s = doneS p s := by unfold oneS; rw [if_neg h]
  rw [if_neg h, this, if_pos he]
theorem lineF_congr {fs fs' : List Fb} (h : ∀ n, callerOf fs n = callerOf fs' n) : ∀ (k : Nat) (n : Int) (acc : List Int), lineF fs k n acc = lineF fs' k n acc
  | 0, _, _ => rfl
  | k + 1, n, acc => by
    unfold lineF
    rw [h n, lineF_congr h k]
def takeTop (s : St) (i t : Nat) : St := setFr s i ((fibAt s i).frames.length - 1) { frAt s i ((fibAt s i).frames.length - 1) with stack := (frAt s i ((fibAt s i).frames.length - 1)).stack.take ((frAt s i ((fibAt s i).frames.length - 1)).stack.length - t) }
theorem set_getD_self {α : Type} (l : List α) (i : Nat) (d : α) (h : i < l.length) : l.set i (l.getD i d) = l := by
  apply List.ext_getElem
  · simp
  · intro k h1 h2
    rw [List.getElem_set]
    split
    · rename_i e; subst e; simp [List.getD, h]
    · rfl
theorem takeTop_facts {s : St} {i : Nat} (hr : Runs s i) (t : Nat) : (takeTop s i t).fibers.length = s.fibers.length ∧ (takeTop s i t).now = s.now ∧ (takeTop s i t).out = s.out ∧ (fibAt (takeTop s i t) i).frames.length = (fibAt s i).frames.length ∧
    (frAt (takeTop s i t) i ((fibAt s i).frames.length - 1)).stack = (frAt s i ((fibAt s i).frames.length - 1)).stack.take ((frAt s i ((fibAt s i).frames.length - 1)).stack.length - t) ∧ Runs (takeTop s i t) i := by
  have hj : (fibAt s i).frames.length - 1 < (fibAt s i).frames.length := by have := hr.fr; omega
  have h5 : (frAt (takeTop s i t) i ((fibAt s i).frames.length - 1)).stack = (frAt s i ((fibAt s i).frames.length - 1)).stack.take ((frAt s i ((fibAt s i).frames.length - 1)).stack.length - t) := by
    unfold takeTop; rw [frAt_same _ hr.lt hj]
  have h1 : (takeTop s i t).fibers.length = s.fibers.length := setFib_len _ _ _
  have h4 : (fibAt (takeTop s i t) i).frames.length = (fibAt s i).frames.length := setFr_frames _ hr.lt i
  refine ⟨h1, rfl, rfl, h4, h5, ⟨by rw [h1]; exact hr.lt, by rw [h4]; exact hr.fr, by rw [h4]; exact hr.frs, ?_⟩⟩
  rw [h4, h5, List.length_take]
  have := hr.st
  omega
theorem calledS_eq {p : List Fn} {s : St} {i f2 a2 lo2 : Nat} (hn : s.now = i) (hr : Runs s i) (ha : (p.getD f2 Fn.zero).args = a2) (hl : (p.getD f2 Fn.zero).locals = lo2) :
    calledS p s f2 = if (fibAt s i).frames.length = 6 then (St.zero, (2 : Int)) else (setFib (takeTop s i a2) i { fibAt (takeTop s i a2) i with frames := (fibAt (takeTop s i a2) i).frames ++ [⟨f2, 0, (frAt s i ((fibAt s i).frames.length - 1)).stack.drop ((frAt s i ((fibAt s i).frames.length - 1)).stack.length - a2) ++ List.replicate (lo2 - ((frAt s i ((fibAt s i).frames.length - 1)).stack.drop ((frAt s i ((fibAt s i).frames.length - 1)).stack.length - a2)).length) 0, []⟩] }, 0) := by
  have ht := top_at hn
  have hs1 : (s.turnTop s.now fun x => { x with stack := x.stack.take (x.stack.length - a2) }) = takeTop s i a2 := by rw [hn, turnTop_setFr]; rfl
  obtain ⟨f1, f2', f3, f4, f5, f6⟩ := takeTop_facts hr a2
  unfold calledS
  simp only [Int.toNat_natCast, ha]
  rw [hs1, hn, fib_fibAt, turn_setFib, f4, ht]
  unfold begunS
  rw [Int.toNat_natCast, hl, Int.toNat_natCast]
theorem OwnVar.kept {base bs : Nat} {w w' : World} {V : Key → Value} {s : St} (h : OwnVar base w bs V s) (hk : Kept w w') : OwnVar base w' bs V s :=
  ⟨(hk.block bs (lt_of_block h.var)).trans h.var, h.own.same (fun k g hlk hg => hk.block g ((h.own.piece k hlk).block g hg).2), h.off, h.low⟩
theorem OwnVar.below {base bs : Nat} {w w' : World} {V : Key → Value} {s : St} (h : OwnVar base w bs V s) (hk : Kept w w') : Below base w w' :=
  Below.mono hk (by have := h.low; have := lt_of_block h.var; omega)
structure DoAt (base : Nat) (w : World) (s : St) (i bp op n fi ai cb co cl cc : Nat) (kd a : Int) : Prop where
  now : s.now = i
  runs : Runs s i
  fn : (frAt s i ((fibAt s i).frames.length - 1)).fn = fi
  at_ : (frAt s i ((fibAt s i).frames.length - 1)).at_ = ai
  fin : fi < n
  ain : ai < cl
  most : cl ≤ 1000
  cells : ∀ u, Below base w u → u.cell? ⟨bp, op + fi * 3 + 2, none⟩ = some (.slice (some ⟨cb, co, none⟩) cl cc) ∧ u.cell? ⟨cb, co + ai * 2, none⟩ = some (.int .i64 kd) ∧ u.cell? ⟨cb, co + ai * 2 + 1, none⟩ = some (.int .i64 a)
theorem wrap64_S (z : Int) : wrap64 z = wrapS z := by
  unfold wrap64 wrapS
  rw [Int.bmod_def]
  omega
end Go.Proofs.YtokhibfenccijaaGreatDoor
