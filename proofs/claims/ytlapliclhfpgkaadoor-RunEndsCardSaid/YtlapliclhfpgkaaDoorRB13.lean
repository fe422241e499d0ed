/- OwnB -/
import Derived.Test.YtlapliclhfpgkaaDoorRB12
namespace Go.Proofs.YtlapliclhfpgkaaDoor
open Go.RowKit
theorem Own.setLocal {base : Nat} {w : World} {V : Key → Value} {s : St} (h : Own base w V s) {i j g cap q : Nat} (hi : i < s.fibers.length) (hj : j < (fibAt s i).frames.length)
    (hV : V (.locals i j) = .slice (some ⟨g, 0, none⟩) (frAt s i j).locals.length cap) (z : Int) :
    Own base (w.setCell ⟨g, q, none⟩ (.int .i64 z)) V (setFr s i j { frAt s i j with locals := (frAt s i j).locals.set q z }) := by
  have hgb : (V (.locals i j)).ownBlock = some g := by rw [hV]; rfl
  have hlvL : live s (.locals i j) := ⟨hi, hj⟩
  refine h.turned (fun k hk => ?_) (fun k b hk e => .inl ⟨(setFr_live _ hi k).1 hk, e⟩) (fun k k' b hk _ ho e _ => absurd e (ho k ((setFr_live _ hi k).1 hk)))
  have hlk := (setFr_live _ hi k).1 hk
  by_cases hkL : k = .locals i j
  · subst hkL
    left
    have h1 : w.ownsRow base 3 1 (V (.locals i j)) (frAt s i j).locals.length (ints (frAt s i j).locals) := h.piece _ hlvL
    rw [hV] at h1
    show World.ownsRow _ _ _ _ _ _ _
    rw [frAt_same _ hi hj, hV]
    have := (h1.stored q (.int .i64 z)).1
    simpa [ints, List.map_set] using this
  · right
    refine ⟨hlk, rfl, fun hp => ?_, fun b e => Below.heap_setCell w _ _ b (fun e' => hkL (h.apart k _ b hlk hlvL e (by rw [hgb, e'])))⟩
    cases k using Key.by with
    | fibers =>
      obtain ⟨xs, r1, r2⟩ := hp
      have hl : (setFr s i j { frAt s i j with locals := (frAt s i j).locals.set q z }).fibers.length = s.fibers.length := setFib_len _ _ _
      exact ⟨xs, by rw [hl]; exact r1, fun t ht => by rw [hl] at ht; rw [setFr_caller _ hi]; exact r2 t ht⟩
    | out => exact hp
    | frames t =>
      obtain ⟨xs, r1, r2⟩ := hp
      refine ⟨xs, by rw [setFr_frames _ hi]; exact r1, fun q' hq => ?_⟩
      rw [setFr_frames _ hi] at hq
      by_cases e : i = t ∧ j = q'
      · obtain ⟨rfl, rfl⟩ := e
        rw [frAt_same _ hi hj]
        exact r2 _ hq
      · rw [frAt_ne _ hi e]; exact r2 q' hq
    | locals t q' =>
      simp only [Piece] at hp ⊢
      rw [frAt_ne _ hi (fun h => hkL (by rw [h.1, h.2]))]
      exact hp
    | stack t q' =>
      simp only [Piece] at hp ⊢
      by_cases e : i = t ∧ j = q'
      · obtain ⟨rfl, rfl⟩ := e
        rw [frAt_same _ hi hj]; exact hp
      · rw [frAt_ne _ hi e]; exact hp
theorem getD_append_left {α : Type} (l r : List α) (i : Nat) (d : α) (h : i < l.length) : (l ++ r).getD i d = l.getD i d := by simp [List.getD, List.getElem?_append_left h]
theorem getD_append_len {α : Type} (l : List α) (x d : α) : (l ++ [x]).getD l.length d = x := by simp [List.getD]
theorem Own.dropFrame {base : Nat} {w : World} {V : Key → Value} {s : St} (h : Own base w V s) {i gF capF g cap : Nat} (hi : i < s.fibers.length)
    (hF : V .fibers = .slice (some ⟨gF, 0, none⟩) s.fibers.length capF) (hV : V (.frames i) = .slice (some ⟨g, 0, none⟩) (fibAt s i).frames.length cap) :
    Own base (w.setCell ⟨gF, i * 2, none⟩ (.slice (some ⟨g, 0, none⟩) ((fibAt s i).frames.length - 1) cap)) (upd V (.frames i) (.slice (some ⟨g, 0, none⟩) ((fibAt s i).frames.length - 1) cap)) (setFib s i { fibAt s i with frames := (fibAt s i).frames.dropLast }) := by
  have hgb : (V (.frames i)).ownBlock = some g := by rw [hV]; rfl
  have hFb : (V .fibers).ownBlock = some gF := by rw [hF]; rfl
  have hlvF : live s (.frames i) := hi
  have hlen := setFib_len s i { fibAt s i with frames := (fibAt s i).frames.dropLast }
  have hfl : ∀ t, (fibAt (setFib s i { fibAt s i with frames := (fibAt s i).frames.dropLast }) t).frames.length ≤ (fibAt s t).frames.length := fun t => by
    by_cases e : i = t
    · subst e; rw [fibAt_same _ hi]; simp
    · rw [fibAt_ne _ e]; exact Nat.le_refl _
  have hfa : ∀ t q, q < (fibAt (setFib s i { fibAt s i with frames := (fibAt s i).frames.dropLast }) t).frames.length → frAt (setFib s i { fibAt s i with frames := (fibAt s i).frames.dropLast }) t q = frAt s t q := fun t q hq => by
    unfold frAt
    by_cases e : i = t
    · subst e
      rw [fibAt_same _ hi] at hq ⊢
      simp at hq
      have hq' : q < (fibAt s i).frames.length := by omega
      simp [List.getD, hq, hq']
    · rw [fibAt_ne _ e]
  have hca : ∀ t, (fibAt (setFib s i { fibAt s i with frames := (fibAt s i).frames.dropLast }) t).caller = (fibAt s t).caller := fun t => by
    by_cases e : i = t
    · subst e; rw [fibAt_same _ hi]
    · rw [fibAt_ne _ e]
  have hlv : ∀ k, live (setFib s i { fibAt s i with frames := (fibAt s i).frames.dropLast }) k → live s k := by
    intro k hk
    cases k using Key.by with
    | fibers => trivial
    | out => trivial
    | frames t => simpa only [live, hlen] using hk
    | locals t q => simp only [live, hlen] at hk ⊢; exact ⟨hk.1, Nat.lt_of_lt_of_le hk.2 (hfl t)⟩
    | stack t q => simp only [live, hlen] at hk ⊢; exact ⟨hk.1, Nat.lt_of_lt_of_le hk.2 (hfl t)⟩
  have hbk : ∀ k, (upd V (.frames i) (.slice (some ⟨g, 0, none⟩) ((fibAt s i).frames.length - 1) cap) k).ownBlock = (V k).ownBlock := by
    intro k
    by_cases e : k = .frames i
    · subst e; rw [upd_same, hgb]; rfl
    · rw [upd_ne V _ e]
  refine h.turned (fun k hk => ?_) (fun k b hk e => .inl ⟨hlv k hk, by rw [← hbk]; exact e⟩) (fun k k' b hk _ ho e _ => absurd (by rw [← hbk]; exact e) (ho k (hlv k hk)))
  have hlk := hlv k hk
  by_cases hkF : k = .fibers
  · subst hkF
    left
    obtain ⟨xs, h1, h2⟩ := h.piece .fibers trivial
    rw [hF] at h1
    refine ⟨xs.set (i * 2) (.slice (some ⟨g, 0, none⟩) ((fibAt s i).frames.length - 1) cap), ?_, fun t ht => ?_⟩
    · rw [upd_ne V _ (by simp), hF, hlen]; exact (h1.stored _ _).1
    · rw [hlen] at ht
      obtain ⟨h3, h4⟩ := h2 t ht
      have hx : i * 2 < xs.length := by rw [h1.1]; omega
      refine ⟨?_, by rw [List.getElem?_set, if_neg (by omega), hca]; exact h4⟩
      by_cases e : i = t
      · subst e; rw [List.getElem?_set, if_pos rfl, if_pos hx, upd_same]
      · rw [List.getElem?_set, if_neg (by omega), upd_ne V _ (by simp; exact fun h => e h.symm)]; exact h3
  · have hgg : g ≠ gF := fun e => by have := h.apart _ .fibers g hlvF trivial hgb (by rw [hFb, e]); cases this
    by_cases hkf : k = .frames i
    · subst hkf
      left
      obtain ⟨xs, h1, h2⟩ := h.piece _ hlvF
      rw [hV] at h1
      have hnl : ((fibAt s i).frames.dropLast).length = (fibAt s i).frames.length - 1 := by simp
      refine ⟨xs.take (((fibAt s i).frames.length - 1) * 4), ?_, fun t ht => ?_⟩
      · rw [upd_same, fibAt_same _ hi]
        simp only [hnl]
        refine ownsRow_setCell_other ?_ (by simp [Value.ownBlock, hgg]) _
        refine ⟨by rw [List.length_take, h1.1]; omega, ?_⟩
        rcases h1.2 with ⟨h', _⟩ | ⟨g', cap', cur, h', hb, hgh, hnc, hcm, hcs, htake⟩
        · simp at h'
        · simp only [Value.slice.injEq, Option.some.injEq, Addr.mk.injEq, and_true, true_and] at h'
          obtain ⟨rfl, rfl⟩ := h'
          refine .inr ⟨g, cap, cur, rfl, hb, hgh, by omega, hcm, hcs, ?_⟩
          rw [← htake, List.take_take, Nat.min_eq_left (by omega)]
      · rw [hfa i t ht]
        rw [fibAt_same _ hi] at ht
        simp only [hnl] at ht
        obtain ⟨q0, q1, q2, q3⟩ := h2 t (by omega)
        rw [upd_ne V _ (by simp), upd_ne V _ (by simp)]
        refine ⟨?_, ?_, ?_, ?_⟩ <;> rw [List.getElem?_take, if_pos (by omega)] <;> assumption
    · right
      refine ⟨hlk, upd_ne V _ hkf, fun hp => ?_, fun b e => Below.heap_setCell w _ _ b (fun e' => hkF (h.apart k _ b hlk trivial e (by rw [hFb, e'])))⟩
      cases k using Key.by with
      | fibers => exact absurd rfl hkF
      | out => simp only [Piece] at hp ⊢; rw [upd_ne V _ (by simp)]; exact hp
      | frames t =>
        have hne : i ≠ t := fun e => hkf (by rw [e])
        obtain ⟨xs, r1, r2⟩ := hp
        refine ⟨xs, by rw [fibAt_ne _ hne, upd_ne V _ (by simp; exact fun h => hne h.symm)]; exact r1, fun q hq => ?_⟩
        rw [hfa t q hq]
        rw [fibAt_ne _ hne] at hq
        rw [upd_ne V _ (by simp), upd_ne V _ (by simp)]
        exact r2 q hq
      | locals t q => simp only [Piece] at hp ⊢; rw [upd_ne V _ (by simp), hfa t q hk.2]; exact hp
      | stack t q => simp only [Piece] at hp ⊢; rw [upd_ne V _ (by simp), hfa t q hk.2]; exact hp
theorem Own.addFrame {base : Nat} {w w1 : World} {V : Key → Value} {s : St} (h : Own base w V s) {i gF capF : Nat} (hi : i < s.fibers.length)
    (hF : V .fibers = .slice (some ⟨gF, 0, none⟩) s.fibers.length capF) (f : Fr) (vl vf : Value) (hst : f.stack = []) {gl : Nat} (hgl : vl.ownBlock = none ∨ vl.ownBlock = some gl) (hoff : Own.off V s gl) (hlt : gl < w.heap.size)
    (hloc : w1.ownsRow base 3 1 vl f.locals.length (ints f.locals))
    (hgrow : ∀ b, b < w.heap.size → (V (.frames i)).ownBlock ≠ some b → w1.heap[b]? = w.heap[b]?)
    (hown : ∀ xs, w.ownsRow base 64 4 (V (.frames i)) (fibAt s i).frames.length xs → w1.ownsRow base 64 4 vf ((fibAt s i).frames.length + 1) (xs ++ [.int .i64 f.fn, .int .i64 f.at_, vl, .slice none 0 0]))
    (hat : vf.ownBlock = (V (.frames i)).ownBlock ∨ vf.ownBlock = some w.heap.size) :
    Own base (w1.setCell ⟨gF, i * 2, none⟩ vf) (upd (upd (upd V (.frames i) vf) (.locals i (fibAt s i).frames.length) vl) (.stack i (fibAt s i).frames.length) (.slice none 0 0)) (setFib s i { fibAt s i with frames := (fibAt s i).frames ++ [f] }) := by
  generalize hn : (fibAt s i).frames.length = n at *
  have hFb : (V .fibers).ownBlock = some gF := by rw [hF]; rfl
  have hlvF : live s (.frames i) := hi
  have hlen := setFib_len s i { fibAt s i with frames := (fibAt s i).frames ++ [f] }
  have hfrn : (V (.frames i)).ownBlock ≠ some gF := fun e => by have := h.apart _ .fibers _ hlvF trivial e hFb; cases this
  have hgFw : gF < w.heap.size := ((h.piece .fibers trivial).block gF hFb).2
  have hvfF : vf.ownBlock ≠ some gF := by
    rcases hat with e | e
    · rw [e]; exact hfrn
    · rw [e]; intro e'; cases e'; omega
  have hvlF : vl.ownBlock ≠ some gF := by
    rcases hgl with e | e
    · rw [e]; simp
    · rw [e]; intro e'; cases e'; exact hoff .fibers trivial hFb
  have hfs : fibAt (setFib s i { fibAt s i with frames := (fibAt s i).frames ++ [f] }) i = { fibAt s i with frames := (fibAt s i).frames ++ [f] } := fibAt_same _ hi
  have hfn : ∀ t, i ≠ t → fibAt (setFib s i { fibAt s i with frames := (fibAt s i).frames ++ [f] }) t = fibAt s t := fun t e => fibAt_ne _ e
  have hold : ∀ t q, (i = t → q < n) → frAt (setFib s i { fibAt s i with frames := (fibAt s i).frames ++ [f] }) t q = frAt s t q := fun t q hq => by
    unfold frAt
    by_cases e : i = t
    · subst e; rw [hfs]; exact getD_append_left _ _ _ _ (by rw [hn]; exact hq rfl)
    · rw [hfn t e]
  have hnew : frAt (setFib s i { fibAt s i with frames := (fibAt s i).frames ++ [f] }) i n = f := by
    unfold frAt; rw [hfs, ← hn]; exact getD_append_len _ _ _
  have hlv : ∀ k, live (setFib s i { fibAt s i with frames := (fibAt s i).frames ++ [f] }) k → k = .locals i n ∨ k = .stack i n ∨ (live s k ∧ ∀ t q, (k = .locals t q ∨ k = .stack t q) → i = t → q < n) := by
    intro k hk
    cases k using Key.by with
    | fibers => exact .inr (.inr ⟨trivial, fun t q h => by simp at h⟩)
    | out => exact .inr (.inr ⟨trivial, fun t q h => by simp at h⟩)
    | frames t => exact .inr (.inr ⟨by simpa only [live, hlen] using hk, fun t q h => by simp at h⟩)
    | locals t q =>
      simp only [live, hlen] at hk
      by_cases e : i = t
      · subst e
        rw [hfs] at hk
        simp only [List.length_append, List.length_cons, List.length_nil, hn] at hk
        by_cases e : q = n
        · left; rw [e]
        · exact .inr (.inr ⟨⟨hi, by omega⟩, fun t' q' h _ => by simp at h; omega⟩)
      · rw [hfn t e] at hk
        exact .inr (.inr ⟨hk, fun t' q' h e' => by simp at h; omega⟩)
    | stack t q =>
      simp only [live, hlen] at hk
      by_cases e : i = t
      · subst e
        rw [hfs] at hk
        simp only [List.length_append, List.length_cons, List.length_nil, hn] at hk
        by_cases e : q = n
        · right; left; rw [e]
        · exact .inr (.inr ⟨⟨hi, by omega⟩, fun t' q' h _ => by simp at h; omega⟩)
      · rw [hfn t e] at hk
        exact .inr (.inr ⟨hk, fun t' q' h e' => by simp at h; omega⟩)
  have hdead1 : ¬ live s (.locals i n) := fun hh => by have := hh.2; omega
  have hdead2 : ¬ live s (.stack i n) := fun hh => by have := hh.2; omega
  have hVold : ∀ k, live s k → k ≠ .frames i → upd (upd (upd V (.frames i) vf) (.locals i n) vl) (.stack i n) (.slice none 0 0) k = V k := fun k hk e => by
    rw [upd_ne _ _ (fun (e : k = .stack i n) => hdead2 (e ▸ hk)), upd_ne _ _ (fun (e : k = .locals i n) => hdead1 (e ▸ hk)), upd_ne _ _ e]
  have hVf : upd (upd (upd V (.frames i) vf) (.locals i n) vl) (.stack i n) (.slice none 0 0) (.frames i) = vf := by
    rw [upd_ne _ _ (by simp), upd_ne _ _ (by simp), upd_same]
  have hVl : upd (upd (upd V (.frames i) vf) (.locals i n) vl) (.stack i n) (.slice none 0 0) (.locals i n) = vl := by
    rw [upd_ne _ _ (by simp), upd_same]
  have hVs : upd (upd (upd V (.frames i) vf) (.locals i n) vl) (.stack i n) (.slice none 0 0) (.stack i n) = .slice none 0 0 := upd_same _ _ _
  generalize upd (upd (upd V (.frames i) vf) (.locals i n) vl) (.stack i n) (.slice none 0 0) = V' at *
  refine h.turned (fun k hk => ?_) (fun k b hk e => ?_) (fun k k' b hk hk' ho e e' => ?_)
  · rcases hlv k hk with rfl | rfl | ⟨hlk, hq⟩
    · left
      show World.ownsRow _ _ _ _ _ _ _
      rw [hVl, hnew]
      exact ownsRow_setCell_other hloc hvlF _
    · left
      show World.ownsRow _ _ _ _ _ _ _
      rw [hVs, hnew, hst]
      exact World.ownsRow_nil _ _ _ _
    · by_cases hkF : k = .fibers
      · subst hkF
        left
        obtain ⟨xs, h1, h2⟩ := h.piece .fibers trivial
        rw [hF] at h1
        have h1' : w1.ownsRow base 62 2 (.slice (some ⟨gF, 0, none⟩) s.fibers.length capF) s.fibers.length xs := row_same h1 (fun b e => by cases e; exact hgrow gF hgFw hfrn)
        refine ⟨xs.set (i * 2) vf, ?_, fun t ht => ?_⟩
        · rw [hVold .fibers trivial (by simp), hF, hlen]; exact (h1'.stored _ _).1
        · rw [hlen] at ht
          obtain ⟨h3, h4⟩ := h2 t ht
          have hx : i * 2 < xs.length := by rw [h1.1]; omega
          by_cases e : i = t
          · subst e
            refine ⟨by rw [List.getElem?_set, if_pos rfl, if_pos hx, hVf], ?_⟩
            rw [List.getElem?_set, if_neg (by omega), hfs]
            exact h4
          · refine ⟨by rw [List.getElem?_set, if_neg (by omega), hVold (.frames t) ht (by simp; exact fun h => e h.symm)]; exact h3, ?_⟩
            rw [List.getElem?_set, if_neg (by omega), hfn t e]
            exact h4
      · by_cases hkf : k = .frames i
        · subst hkf
          left
          obtain ⟨xs, h1, h2⟩ := h.piece _ hlvF
          rw [hn] at h1 h2
          have h1' := hown xs h1
          refine ⟨_, by rw [hVf, hfs]; simp only [List.length_append, List.length_cons, List.length_nil, hn]; exact ownsRow_setCell_other h1' hvfF _, fun t ht => ?_⟩
          rw [hfs] at ht
          simp only [List.length_append, List.length_cons, List.length_nil, hn] at ht
          have hxl : xs.length = n * 4 := h1.1
          by_cases e : t = n
          · subst e
            rw [hnew, hVl, hVs]
            refine ⟨?_, ?_, ?_, ?_⟩ <;> rw [List.getElem?_append_right (by omega), hxl]
            · rw [show t * 4 - t * 4 = 0 by omega]; rfl
            · rw [show t * 4 + 1 - t * 4 = 1 by omega]; rfl
            · rw [show t * 4 + 2 - t * 4 = 2 by omega]; rfl
            · rw [show t * 4 + 3 - t * 4 = 3 by omega]; rfl
          · have htn : t < n := by omega
            obtain ⟨q0, q1, q2, q3⟩ := h2 t htn
            rw [hold i t (fun _ => htn), hVold (.locals i t) ⟨hi, by omega⟩ (by simp), hVold (.stack i t) ⟨hi, by omega⟩ (by simp)]
            refine ⟨?_, ?_, ?_, ?_⟩ <;> rw [List.getElem?_append_left (by omega)] <;> assumption
        · right
          refine ⟨hlk, hVold k hlk hkf, fun hp => ?_, fun b e => ?_⟩
          · cases k using Key.by with
            | fibers => exact absurd rfl hkF
            | out => simp only [Piece] at hp ⊢; rw [hVold .out trivial (by simp)]; exact hp
            | frames t =>
              have hne : i ≠ t := fun e => hkf (by rw [e])
              obtain ⟨xs, r1, r2⟩ := hp
              refine ⟨xs, by rw [hfn t hne, hVold _ hlk hkf]; exact r1, fun q hq' => ?_⟩
              rw [hfn t hne] at hq'
              rw [hold t q (fun e => absurd e hne), hVold (.locals t q) ⟨hlk, hq'⟩ (by simp), hVold (.stack t q) ⟨hlk, hq'⟩ (by simp)]
              exact r2 q hq'
            | locals t q => simp only [Piece] at hp ⊢; rw [hVold _ hlk (by simp), hold t q (hq t q (.inl rfl))]; exact hp
            | stack t q => simp only [Piece] at hp ⊢; rw [hVold _ hlk (by simp), hold t q (hq t q (.inr rfl))]; exact hp
          · rw [Below.heap_setCell w1 _ _ b (fun e' => hkF (h.apart k _ b hlk trivial e (by rw [hFb, e'])))]
            exact hgrow b ((h.piece k hlk).block b e).2 (fun e' => hkf (h.apart k _ b hlk hlvF e e'))
  · rcases hlv k hk with rfl | rfl | ⟨hlk, hq⟩
    · right
      rw [hVl] at e
      rcases hgl with e' | e'
      · rw [e'] at e; cases e
      · rw [e'] at e; cases e; exact hoff
    · rw [hVs] at e; cases e
    · by_cases hkf : k = .frames i
      · subst hkf
        rw [hVf] at e
        rcases hat with e' | e'
        · exact .inl ⟨hlk, by rw [← e', e]⟩
        · rw [e] at e'; cases e'
          exact .inr (h.new_off (.inl (Nat.le_refl _)))
      · rw [hVold k hlk hkf] at e
        exact .inl ⟨hlk, e⟩
  · have hwhich : ∀ k, live (setFib s i { fibAt s i with frames := (fibAt s i).frames ++ [f] }) k → (V' k).ownBlock = some b → (k = .locals i n ∧ b = gl) ∨ (k = .frames i ∧ b = w.heap.size) := by
      intro k hk e
      rcases hlv k hk with rfl | rfl | ⟨hlk, hq⟩
      · left
        rw [hVl] at e
        rcases hgl with e' | e'
        · rw [e'] at e; cases e
        · rw [e'] at e; cases e; exact ⟨rfl, rfl⟩
      · rw [hVs] at e; cases e
      · by_cases hkf : k = .frames i
        · subst hkf
          right
          rw [hVf] at e
          rcases hat with e' | e'
          · exact absurd (by rw [← e', e]) (ho (.frames i) hlk)
          · rw [e] at e'; cases e'; exact ⟨rfl, rfl⟩
        · rw [hVold k hlk hkf] at e
          exact absurd e (ho k hlk)
    rcases hwhich k hk e with ⟨h1, h2⟩ | ⟨h1, h2⟩ <;> rcases hwhich k' hk' e' with ⟨h3, h4⟩ | ⟨h3, h4⟩
    · rw [h1, h3]
    · omega
    · omega
    · rw [h1, h3]
end Go.Proofs.YtlapliclhfpgkaaDoor
