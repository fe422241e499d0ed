/- OwnA, OwnB -/
import Derived.Test.YtokhibfenccijaaGreatDoorKB15
import Derived.Test.YtokhibfenccijaaGreatDoorKB19
import Derived.OneCell
import Derived.Laws.OwnMore
import Derived.Maps.AppendAt
set_option maxRecDepth 100000
set_option maxHeartbeats 8000000
namespace Go.Proofs.YtokhibfenccijaaGreatDoor
open Go.RowKit
def ints (l : List Int) : List Value := l.map fun z => Value.int .i64 z
theorem ints_len (l : List Int) : (ints l).length = l.length := by simp [ints]
theorem ints_append (l r : List Int) : ints (l ++ r) = ints l ++ ints r := by simp [ints]
abbrev Key := Option (Option (Nat ⊕ (Nat × Nat) ⊕ (Nat × Nat)))
abbrev Key.fibers : Key := none
abbrev Key.out : Key := some none
abbrev Key.frames (i : Nat) : Key := some (some (.inl i))
abbrev Key.locals (i j : Nat) : Key := some (some (.inr (.inl (i, j))))
abbrev Key.stack (i j : Nat) : Key := some (some (.inr (.inr (i, j))))
theorem Key.by {motive : Key → Prop} (fibers : motive .fibers) (out : motive .out) (frames : ∀ i, motive (.frames i)) (locals : ∀ i j, motive (.locals i j)) (stack : ∀ i j, motive (.stack i j)) : ∀ k, motive k
  | none => fibers
  | some none => out
  | some (some (.inl i)) => frames i
  | some (some (.inr (.inl (i, j)))) => locals i j
  | some (some (.inr (.inr (i, j)))) => stack i j
def live (s : St) : Key → Prop
  | none => True
  | some none => True
  | some (some (.inl i)) => i < s.fibers.length
  | some (some (.inr (.inl (i, j)))) => i < s.fibers.length ∧ j < (fibAt s i).frames.length
  | some (some (.inr (.inr (i, j)))) => i < s.fibers.length ∧ j < (fibAt s i).frames.length
def upd (V : Key → Value) (k : Key) (v : Value) : Key → Value := fun k' => if k' = k then v else V k'
theorem upd_same (V : Key → Value) (k : Key) (v : Value) : upd V k v k = v := if_pos rfl
theorem upd_ne (V : Key → Value) {k k' : Key} (v : Value) (h : k' ≠ k) : upd V k v k' = V k' := if_neg h
def Piece (base : Nat) (w : World) (V : Key → Value) (s : St) : Key → Prop
  | none => ∃ xs, w.ownsRow base 95 2 (V .fibers) s.fibers.length xs ∧ ∀ i, i < s.fibers.length → xs[i * 2]? = some (V (.frames i)) ∧ xs[i * 2 + 1]? = some (.int .i64 (fibAt s i).caller)
  | some none => w.ownsRow base 3 1 (V .out) s.out.length (ints s.out)
  | some (some (.inl i)) => ∃ xs, w.ownsRow base 92 4 (V (.frames i)) (fibAt s i).frames.length xs ∧ ∀ j, j < (fibAt s i).frames.length →
      xs[j * 4]? = some (.int .i64 (frAt s i j).fn) ∧ xs[j * 4 + 1]? = some (.int .i64 (frAt s i j).at_) ∧ xs[j * 4 + 2]? = some (V (.locals i j)) ∧ xs[j * 4 + 3]? = some (V (.stack i j))
  | some (some (.inr (.inl (i, j)))) => w.ownsRow base 3 1 (V (.locals i j)) (frAt s i j).locals.length (ints (frAt s i j).locals)
  | some (some (.inr (.inr (i, j)))) => w.ownsRow base 3 1 (V (.stack i j)) (frAt s i j).stack.length (ints (frAt s i j).stack)
structure Own (base : Nat) (w : World) (V : Key → Value) (s : St) : Prop where
  piece : ∀ k, live s k → Piece base w V s k
  apart : ∀ k k' g, live s k → live s k' → (V k).ownBlock = some g → (V k').ownBlock = some g → k = k'
theorem row_same {w w' : World} {base : Nat} {e : TypeId} {size : Nat} {v : Value} {n : Nat} {xs : List Value} (h : w.ownsRow base e size v n xs) (hs : ∀ g, v.ownBlock = some g → w'.heap[g]? = w.heap[g]?) : w'.ownsRow base e size v n xs := by
  refine ⟨h.1, ?_⟩
  rcases h.2 with hn | ⟨g, cap, cur, rfl, hb, hgg, rest⟩
  · exact .inl hn
  · exact .inr ⟨g, cap, cur, rfl, hb, by rw [hs g rfl]; exact hgg, rest⟩
theorem Piece.same {base : Nat} {w w' : World} {V : Key → Value} {s : St} {k : Key} (h : Piece base w V s k) (hs : ∀ g, (V k).ownBlock = some g → w'.heap[g]? = w.heap[g]?) : Piece base w' V s k := by
  cases k using Key.by with
  | fibers => obtain ⟨xs, h1, h2⟩ := h; exact ⟨xs, row_same h1 hs, h2⟩
  | out => exact row_same h hs
  | frames i => obtain ⟨xs, h1, h2⟩ := h; exact ⟨xs, row_same h1 hs, h2⟩
  | locals i j => exact row_same h hs
  | stack i j => exact row_same h hs
theorem Piece.block {base : Nat} {w : World} {V : Key → Value} {s : St} {k : Key} (h : Piece base w V s k) : ∀ g, (V k).ownBlock = some g → base ≤ g ∧ g < w.heap.size := by
  cases k using Key.by with
  | fibers => obtain ⟨xs, h1, h2⟩ := h; exact h1.lt
  | out => exact World.ownsRow.lt h
  | frames i => obtain ⟨xs, h1, h2⟩ := h; exact h1.lt
  | locals i j => exact World.ownsRow.lt h
  | stack i j => exact World.ownsRow.lt h
def Own.off (V : Key → Value) (s : St) (g : Nat) : Prop := ∀ k, live s k → (V k).ownBlock ≠ some g
theorem Own.same {base : Nat} {w w' : World} {V : Key → Value} {s : St} (h : Own base w V s) (hs : ∀ k g, live s k → (V k).ownBlock = some g → w'.heap[g]? = w.heap[g]?) : Own base w' V s :=
  ⟨fun k hk => (h.piece k hk).same (fun g hg => hs k g hk hg), h.apart⟩
theorem Own.new_off {base : Nat} {w : World} {V : Key → Value} {s : St} (h : Own base w V s) {g : Nat} (hg : w.heap.size ≤ g ∨ g < base) : Own.off V s g := fun k hk e => by
  have := (h.piece k hk).block g e
  omega
theorem Own.alloc {base : Nat} {w : World} {V : Key → Value} {s : St} (h : Own base w V s) (o : Obj) : Own base (w.alloc o) V s :=
  h.same fun k g hk hg => Below.heap_alloc w o g ((h.piece k hk).block g hg).2
theorem Own.drew {base : Nat} {w : World} {V : Key → Value} {s : St} (h : Own base w V s) : Own base w.drew V s := h.same fun _ _ _ _ => rfl
theorem Own.setOff {base : Nat} {w : World} {V : Key → Value} {s : St} (h : Own base w V s) {a : Addr} (ha : Own.off V s a.block) (u : Value) : Own base (w.setCell a u) V s :=
  h.same fun k g hk hg => Below.heap_setCell w a u g (fun e => ha k hk (by rw [hg, e]))
theorem Own.now {base : Nat} {w : World} {V : Key → Value} {s : St} (h : Own base w V s) (n : Int) : Own base w V { s with now := n } :=
  ⟨fun k hk => by
    have := h.piece k (by cases k using Key.by <;> exact hk)
    cases k using Key.by <;> exact this, fun k k' g hk hk' => h.apart k k' g (by cases k using Key.by <;> exact hk) (by cases k' using Key.by <;> exact hk')⟩
theorem Own.turned {base : Nat} {w w' : World} {V V' : Key → Value} {s s' : St} (h : Own base w V s)
    (hp : ∀ k, live s' k → Piece base w' V' s' k ∨ (live s k ∧ V' k = V k ∧ (Piece base w' V s k → Piece base w' V' s' k) ∧ ∀ g, (V k).ownBlock = some g → w'.heap[g]? = w.heap[g]?))
    (hb : ∀ k g, live s' k → (V' k).ownBlock = some g → (live s k ∧ (V k).ownBlock = some g) ∨ Own.off V s g)
    (hn : ∀ k k' g, live s' k → live s' k' → Own.off V s g → (V' k).ownBlock = some g → (V' k').ownBlock = some g → k = k') : Own base w' V' s' := by
  refine ⟨fun k hk => ?_, fun k k' g hk hk' e e' => ?_⟩
  · rcases hp k hk with h1 | ⟨h1, h2, h3, h4⟩
    · exact h1
    · exact h3 ((h.piece k h1).same h4)
  · rcases hb k g hk e with ⟨h1, h2⟩ | h1
    · rcases hb k' g hk' e' with ⟨h3, h4⟩ | h3
      · exact h.apart k k' g h1 h3 h2 h4
      · exact absurd h2 (h3 k h1)
    · exact hn k k' g hk hk' h1 e e'
theorem Own.setCaller {base : Nat} {w : World} {V : Key → Value} {s : St} (h : Own base w V s) {i g cap : Nat} (hi : i < s.fibers.length) (hV : V .fibers = .slice (some ⟨g, 0, none⟩) s.fibers.length cap) (c : Int) :
    Own base (w.setCell ⟨g, i * 2 + 1, none⟩ (.int .i64 c)) V (setFib s i { fibAt s i with caller := c }) := by
  have hlen := setFib_len s i { fibAt s i with caller := c }
  have hfr : ∀ j, (fibAt (setFib s i { fibAt s i with caller := c }) j).frames = (fibAt s j).frames := fun j => by
    by_cases e : i = j
    · subst e; rw [fibAt_same _ hi]
    · rw [fibAt_ne _ e]
  have hfa : ∀ j t, frAt (setFib s i { fibAt s i with caller := c }) j t = frAt s j t := fun j t => by unfold frAt; rw [hfr]
  have hlv : ∀ k, live (setFib s i { fibAt s i with caller := c }) k ↔ live s k := by
    intro k; cases k using Key.by <;> simp only [live, hlen, hfr]
  refine h.turned (fun k hk => ?_) (fun k g' hk e => .inl ⟨(hlv k).1 hk, e⟩) (fun k k' g' hk _ ho e _ => absurd e (ho k ((hlv k).1 hk)))
  by_cases hkf : k = .fibers
  · subst hkf
    left
    obtain ⟨xs, h1, h2⟩ := h.piece .fibers trivial
    rw [hV] at h1
    refine ⟨xs.set (i * 2 + 1) (.int .i64 c), ?_, fun j hj => ?_⟩
    · rw [hV, hlen]; exact (h1.stored _ _).1
    · rw [hlen] at hj
      obtain ⟨h3, h4⟩ := h2 j hj
      have hx : i * 2 + 1 < xs.length := by rw [h1.1]; omega
      refine ⟨by rw [List.getElem?_set, if_neg (by omega)]; exact h3, ?_⟩
      by_cases e : i = j
      · subst e; rw [List.getElem?_set, if_pos rfl, if_pos hx, fibAt_same _ hi]
      · rw [List.getElem?_set, if_neg (by omega), fibAt_ne _ e]; exact h4
  · right
    have hlk := (hlv k).1 hk
    refine ⟨hlk, rfl, fun hp => ?_, fun g' e => Below.heap_setCell w _ _ g' ?_⟩
    · cases k using Key.by with
      | fibers => exact absurd rfl hkf
      | out => exact hp
      | frames j =>
        obtain ⟨xs, h1, h2⟩ := hp
        exact ⟨xs, by rw [hfr]; exact h1, fun t ht => by rw [hfr] at ht; rw [hfa]; exact h2 t ht⟩
      | locals j t => simp only [Piece, hfa] at hp ⊢; exact hp
      | stack j t => simp only [Piece, hfa] at hp ⊢; exact hp
    · rintro rfl
      exact hkf (h.apart k .fibers _ hlk trivial e (by rw [hV]; rfl))
theorem setFr_live {s : St} {i j : Nat} (f : Fr) (hi : i < s.fibers.length) (k : Key) : live (setFr s i j f) k ↔ live s k := by
  have hlen : (setFr s i j f).fibers.length = s.fibers.length := setFib_len _ _ _
  cases k using Key.by <;> simp only [live, hlen, setFr_frames f hi]
theorem Own.turnFrame {base : Nat} {w w1 : World} {V : Key → Value} {s : St} (h : Own base w V s) {i j g cap : Nat} (hi : i < s.fibers.length) (hj : j < (fibAt s i).frames.length)
    (hV : V (.frames i) = .slice (some ⟨g, 0, none⟩) (fibAt s i).frames.length cap) (vs : Value) (f : Fr) (u : Nat) (x : Value)
    (hu : u < 4) (hgrow : ∀ b, b < w.heap.size → (V (.stack i j)).ownBlock ≠ some b → w1.heap[b]? = w.heap[b]?) (hown : w1.ownsRow base 3 1 vs f.stack.length (ints f.stack))
    (hat : vs.ownBlock = (V (.stack i j)).ownBlock ∨ vs.ownBlock = some w.heap.size) (hloc : f.locals = (frAt s i j).locals)
    (h0 : (Value.int .i64 f.fn) = if u = 0 then x else .int .i64 (frAt s i j).fn) (h1 : (Value.int .i64 f.at_) = if u = 1 then x else .int .i64 (frAt s i j).at_) (h2 : V (.locals i j) = if u = 2 then x else V (.locals i j)) (h3 : vs = if u = 3 then x else V (.stack i j)) :
    Own base (w1.setCell ⟨g, j * 4 + u, none⟩ x) (upd V (.stack i j) vs) (setFr s i j f) := by
  have hgb : (V (.frames i)).ownBlock = some g := by rw [hV]; rfl
  have hlvF : live s (.frames i) := hi
  have hlvS : live s (.stack i j) := ⟨hi, hj⟩
  have hgs : (V (.stack i j)).ownBlock ≠ some g := fun e => by have := h.apart _ _ _ hlvS hlvF e hgb; cases this
  have hgw : g < w.heap.size := ((h.piece _ hlvF).block g hgb).2
  have hvs : vs.ownBlock ≠ some g := by
    rcases hat with e | e
    · rw [e]; exact hgs
    · rw [e]; intro e'; cases e'; omega
  have hold : ∀ k, live s k → k ≠ .frames i → k ≠ .stack i j → ∀ b, (V k).ownBlock = some b → (w1.setCell ⟨g, j * 4 + u, none⟩ x).heap[b]? = w.heap[b]? := by
    intro k hk hn1 hn2 b hb
    have hbw := ((h.piece k hk).block b hb).2
    rw [Below.heap_setCell _ _ _ _ (fun e => hn1 (h.apart k _ b hk hlvF hb (by rw [hgb]; exact congrArg some e.symm)))]
    exact hgrow b hbw (fun e => hn2 (h.apart k _ b hk hlvS hb e))
  refine h.turned (fun k hk => ?_) (fun k b hk e => ?_) (fun k k' b hk hk' ho e e' => ?_)
  · have hlk := (setFr_live f hi k).1 hk
    by_cases hkS : k = .stack i j
    · subst hkS
      left
      show World.ownsRow _ _ _ _ _ _ _
      rw [frAt_same f hi hj, upd_same]
      exact ownsRow_setCell_other hown hvs _
    · by_cases hkF : k = .frames i
      · subst hkF
        left
        obtain ⟨xs, r1, r2⟩ := h.piece _ hlvF
        rw [hV] at r1
        have r1' : w1.ownsRow base 92 4 (.slice (some ⟨g, 0, none⟩) (fibAt s i).frames.length cap) (fibAt s i).frames.length xs := row_same r1 (fun b e => by
          cases e
          exact hgrow g hgw hgs)
        have hx : j * 4 + u < xs.length := by rw [r1.1]; omega
        refine ⟨xs.set (j * 4 + u) x, ?_, fun t ht => ?_⟩
        · rw [setFr_frames f hi]
          rw [upd_ne V vs hkS, hV]
          exact (r1'.stored _ _).1
        · rw [setFr_frames f hi] at ht
          obtain ⟨q0, q1, q2, q3⟩ := r2 t ht
          by_cases e : j = t
          · subst e
            rw [frAt_same f hi hj]
            refine ⟨?_, ?_, ?_, ?_⟩
            · rw [h0, List.getElem?_set]
              by_cases e : u = 0
              · subst e; simp; omega
              · rw [if_neg (by omega), if_neg e]; exact q0
            · rw [h1, List.getElem?_set]
              by_cases e : u = 1
              · subst e; simp; omega
              · rw [if_neg (by omega), if_neg e]; exact q1
            · rw [upd_ne V vs (by simp), h2, List.getElem?_set]
              by_cases e : u = 2
              · subst e; simp; omega
              · rw [if_neg (by omega), if_neg e]; exact q2
            · rw [upd_same, h3, List.getElem?_set]
              by_cases e : u = 3
              · subst e; simp; omega
              · rw [if_neg (by omega), if_neg e]; exact q3
          · rw [frAt_ne f hi (fun h => e h.2)]
            rw [upd_ne V vs (by simp), upd_ne V vs (by simp; intro h; exact e h.symm)]
            refine ⟨?_, ?_, ?_, ?_⟩ <;> rw [List.getElem?_set, if_neg (by omega)] <;> assumption
      · right
        refine ⟨hlk, upd_ne V vs hkS, fun hp => ?_, hold k hlk hkF hkS⟩
        cases k using Key.by with
        | fibers =>
          obtain ⟨xs, r1, r2⟩ := hp
          refine ⟨xs, ?_, fun t ht => ?_⟩
          · rw [show (setFr s i j f).fibers.length = s.fibers.length from setFib_len _ _ _, upd_ne V vs (by simp)]
            exact r1
          · rw [show (setFr s i j f).fibers.length = s.fibers.length from setFib_len _ _ _] at ht
            rw [setFr_caller f hi, upd_ne V vs (by simp)]
            exact r2 t ht
        | out => simp only [Piece] at hp ⊢; rw [upd_ne V vs (by simp)]; exact hp
        | frames t =>
          have hne : i ≠ t := fun e => hkF (by rw [e])
          obtain ⟨xs, r1, r2⟩ := hp
          refine ⟨xs, by rw [setFr_frames f hi, upd_ne V vs (by simp)]; exact r1, fun q hq => ?_⟩
          rw [setFr_frames f hi] at hq
          rw [frAt_ne f hi (fun h => hne h.1), upd_ne V vs (by simp), upd_ne V vs (by simp; intro h; exact absurd h.symm hne)]
          exact r2 q hq
        | locals t q =>
          simp only [Piece] at hp ⊢
          rw [upd_ne V vs (by simp)]
          by_cases e : i = t ∧ j = q
          · obtain ⟨rfl, rfl⟩ := e
            rw [frAt_same f hi hj, hloc]
            exact hp
          · rw [frAt_ne f hi e]; exact hp
        | stack t q =>
          simp only [Piece] at hp ⊢
          rw [upd_ne V vs hkS, frAt_ne f hi (fun h => hkS (by rw [h.1, h.2]))]
          exact hp
  · have hlk := (setFr_live f hi k).1 hk
    by_cases hkS : k = .stack i j
    · subst hkS
      rw [upd_same] at e
      rcases hat with e' | e'
      · exact .inl ⟨hlk, by rw [← e', e]⟩
      · rw [e] at e'; cases e'
        exact .inr (h.new_off (.inl (Nat.le_refl _)))
    · rw [upd_ne V vs hkS] at e
      exact .inl ⟨hlk, e⟩
  · have hlk := (setFr_live f hi k).1 hk
    have hlk' := (setFr_live f hi k').1 hk'
    by_cases hkS : k = .stack i j
    · by_cases hkS' : k' = .stack i j
      · rw [hkS, hkS']
      · rw [upd_ne V vs hkS'] at e'
        exact absurd e' (ho k' hlk')
    · rw [upd_ne V vs hkS] at e
      exact absurd e (ho k hlk)
theorem Own.setLocal {base : Nat} {w : World} {V : Key → Value} {s : St} (h : Own base w V s) {i j g cap q : Nat} (hi : i < s.fibers.length) (hj : j < (fibAt s i).frames.length)
    (hV : V (.locals i j) = .slice (some ⟨g, 0, none⟩) (frAt s i j).locals.length cap) (z : Int) :
    Own base (w.setCell ⟨g, q, none⟩ (.int .i64 z)) V (setFr s i j { frAt s i j with locals := (frAt s i j).locals.set q z }) := by
  have hgb : (V (.locals i j)).ownBlock = some g := by rw [hV]; rfl
  have hlvL : live s (.locals i j) := ⟨hi, hj⟩
  refine h.turned (fun k hk => ?_) (fun k b hk e => .inl ⟨(setFr_live _ hi k).1 hk, e⟩) (fun k k' b hk _ ho e _ => absurd e (ho k ((setFr_live _ hi k).1 hk)))
  have hlk := (setFr_live _ hi k).1 hk
  by_cases hkL : k = .locals i j
  · subst hkL
    left
    have h1 : w.ownsRow base 3 1 (V (.locals i j)) (frAt s i j).locals.length (ints (frAt s i j).locals) := h.piece _ hlvL
    rw [hV] at h1
    show World.ownsRow _ _ _ _ _ _ _
    rw [frAt_same _ hi hj, hV]
    have := (h1.stored q (.int .i64 z)).1
    simpa [ints, List.map_set] using this
  · right
    refine ⟨hlk, rfl, fun hp => ?_, fun b e => Below.heap_setCell w _ _ b (fun e' => hkL (h.apart k _ b hlk hlvL e (by rw [hgb, e'])))⟩
    cases k using Key.by with
    | fibers =>
      obtain ⟨xs, r1, r2⟩ := hp
      have hl : (setFr s i j { frAt s i j with locals := (frAt s i j).locals.set q z }).fibers.length = s.fibers.length := setFib_len _ _ _
      exact ⟨xs, by rw [hl]; exact r1, fun t ht => by rw [hl] at ht; rw [setFr_caller _ hi]; exact r2 t ht⟩
    | out => exact hp
    | frames t =>
      obtain ⟨xs, r1, r2⟩ := hp
      refine ⟨xs, by rw [setFr_frames _ hi]; exact r1, fun q' hq => ?_⟩
      rw [setFr_frames _ hi] at hq
      by_cases e : i = t ∧ j = q'
      · obtain ⟨rfl, rfl⟩ := e
        rw [frAt_same _ hi hj]
        exact r2 _ hq
      · rw [frAt_ne _ hi e]; exact r2 q' hq
    | locals t q' =>
      simp only [Piece] at hp ⊢
      rw [frAt_ne _ hi (fun h => hkL (by rw [h.1, h.2]))]
      exact hp
    | stack t q' =>
      simp only [Piece] at hp ⊢
      by_cases e : i = t ∧ j = q'
      · obtain ⟨rfl, rfl⟩ := e
        rw [frAt_same _ hi hj]; exact hp
      · rw [frAt_ne _ hi e]; exact hp
theorem getD_append_left {α : Type} (l r : List α) (i : Nat) (d : α) (h : i < l.length) : (l ++ r).getD i d = l.getD i d := by simp [List.getD, List.getElem?_append_left h]
theorem getD_append_len {α : Type} (l : List α) (x d : α) : (l ++ [x]).getD l.length d = x := by simp [List.getD]
theorem Own.dropFrame {base : Nat} {w : World} {V : Key → Value} {s : St} (h : Own base w V s) {i gF capF g cap : Nat} (hi : i < s.fibers.length)
    (hF : V .fibers = .slice (some ⟨gF, 0, none⟩) s.fibers.length capF) (hV : V (.frames i) = .slice (some ⟨g, 0, none⟩) (fibAt s i).frames.length cap) :
    Own base (w.setCell ⟨gF, i * 2, none⟩ (.slice (some ⟨g, 0, none⟩) ((fibAt s i).frames.length - 1) cap)) (upd V (.frames i) (.slice (some ⟨g, 0, none⟩) ((fibAt s i).frames.length - 1) cap)) (setFib s i { fibAt s i with frames := (fibAt s i).frames.dropLast }) := by
  have hgb : (V (.frames i)).ownBlock = some g := by rw [hV]; rfl
  have hFb : (V .fibers).ownBlock = some gF := by rw [hF]; rfl
  have hlvF : live s (.frames i) := hi
  have hlen := setFib_len s i { fibAt s i with frames := (fibAt s i).frames.dropLast }
  have hfl : ∀ t, (fibAt (setFib s i { fibAt s i with frames := (fibAt s i).frames.dropLast }) t).frames.length ≤ (fibAt s t).frames.length := fun t => by
    by_cases e : i = t
    · subst e; rw [fibAt_same _ hi]; simp
    · rw [fibAt_ne _ e]; exact Nat.le_refl _
  have hfa : ∀ t q, q < (fibAt (setFib s i { fibAt s i with frames := (fibAt s i).frames.dropLast }) t).frames.length → frAt (setFib s i { fibAt s i with frames := (fibAt s i).frames.dropLast }) t q = frAt s t q := fun t q hq => by
    unfold frAt
    by_cases e : i = t
    · subst e
      rw [fibAt_same _ hi] at hq ⊢
      simp at hq
      have hq' : q < (fibAt s i).frames.length := by omega
      simp [List.getD, hq, hq']
    · rw [fibAt_ne _ e]
  have hca : ∀ t, (fibAt (setFib s i { fibAt s i with frames := (fibAt s i).frames.dropLast }) t).caller = (fibAt s t).caller := fun t => by
    by_cases e : i = t
    · subst e; rw [fibAt_same _ hi]
    · rw [fibAt_ne _ e]
  have hlv : ∀ k, live (setFib s i { fibAt s i with frames := (fibAt s i).frames.dropLast }) k → live s k := by
    intro k hk
    cases k using Key.by with
    | fibers => trivial
    | out => trivial
    | frames t => simpa only [live, hlen] using hk
    | locals t q => simp only [live, hlen] at hk ⊢; exact ⟨hk.1, Nat.lt_of_lt_of_le hk.2 (hfl t)⟩
    | stack t q => simp only [live, hlen] at hk ⊢; exact ⟨hk.1, Nat.lt_of_lt_of_le hk.2 (hfl t)⟩
  have hbk : ∀ k, (upd V (.frames i) (.slice (some ⟨g, 0, none⟩) ((fibAt s i).frames.length - 1) cap) k).ownBlock = (V k).ownBlock := by
    intro k
    by_cases e : k = .frames i
    · subst e; rw [upd_same, hgb]; rfl
    · rw [upd_ne V _ e]
  refine h.turned (fun k hk => ?_) (fun k b hk e => .inl ⟨hlv k hk, by rw [← hbk]; exact e⟩) (fun k k' b hk _ ho e _ => absurd (by rw [← hbk]; exact e) (ho k (hlv k hk)))
  have hlk := hlv k hk
  by_cases hkF : k = .fibers
  · subst hkF
    left
    obtain ⟨xs, h1, h2⟩ := h.piece .fibers trivial
    rw [hF] at h1
    refine ⟨xs.set (i * 2) (.slice (some ⟨g, 0, none⟩) ((fibAt s i).frames.length - 1) cap), ?_, fun t ht => ?_⟩
    · rw [upd_ne V _ (by simp), hF, hlen]; exact (h1.stored _ _).1
    · rw [hlen] at ht
      obtain ⟨h3, h4⟩ := h2 t ht
      have hx : i * 2 < xs.length := by rw [h1.1]; omega
      refine ⟨?_, by rw [List.getElem?_set, if_neg (by omega), hca]; exact h4⟩
      by_cases e : i = t
      · subst e; rw [List.getElem?_set, if_pos rfl, if_pos hx, upd_same]
      · rw [List.getElem?_set, if_neg (by omega), upd_ne V _ (by simp; exact fun h => e h.symm)]; exact h3
  · have hgg : g ≠ gF := fun e => by have := h.apart _ .fibers g hlvF trivial hgb (by rw [hFb, e]); cases this
    by_cases hkf : k = .frames i
    · subst hkf
      left
      obtain ⟨xs, h1, h2⟩ := h.piece _ hlvF
      rw [hV] at h1
      have hnl : ((fibAt s i).frames.dropLast).length = (fibAt s i).frames.length - 1 := by simp
      refine ⟨xs.take (((fibAt s i).frames.length - 1) * 4), ?_, fun t ht => ?_⟩
      · rw [upd_same, fibAt_same _ hi]
        simp only [hnl]
        refine ownsRow_setCell_other ?_ (by simp [Value.ownBlock, hgg]) _
        refine ⟨by rw [List.length_take, h1.1]; omega, ?_⟩
        rcases h1.2 with ⟨h', _⟩ | ⟨g', cap', cur, h', hb, hgh, hnc, hcm, hcs, htake⟩
        · simp at h'
        · simp only [Value.slice.injEq, Option.some.injEq, Addr.mk.injEq, and_true, true_and] at h'
          obtain ⟨rfl, rfl⟩ := h'
          refine .inr ⟨g, cap, cur, rfl, hb, hgh, by omega, hcm, hcs, ?_⟩
          rw [← htake, List.take_take, Nat.min_eq_left (by omega)]
      · rw [hfa i t ht]
        rw [fibAt_same _ hi] at ht
        simp only [hnl] at ht
        obtain ⟨q0, q1, q2, q3⟩ := h2 t (by omega)
        rw [upd_ne V _ (by simp), upd_ne V _ (by simp)]
        refine ⟨?_, ?_, ?_, ?_⟩ <;> rw [List.getElem?_take, if_pos (by omega)] <;> assumption
    · right
      refine ⟨hlk, upd_ne V _ hkf, fun hp => ?_, fun b e => Below.heap_setCell w _ _ b (fun e' => hkF (h.apart k _ b hlk trivial e (by rw [hFb, e'])))⟩
      cases k using Key.by with
      | fibers => exact absurd rfl hkF
      | out => simp only [Piece] at hp ⊢; rw [upd_ne V _ (by simp)]; exact hp
      | frames t =>
        have hne : i ≠ t := fun e => hkf (by rw [e])
        obtain ⟨xs, r1, r2⟩ := hp
        refine ⟨xs, by rw [fibAt_ne _ hne, upd_ne V _ (by simp; exact fun h => hne h.symm)]; exact r1, fun q hq => ?_⟩
        rw [hfa t q hq]
        rw [fibAt_ne _ hne] at hq
        rw [upd_ne V _ (by simp), upd_ne V _ (by simp)]
        exact r2 q hq
      | locals t q => simp only [Piece] at hp ⊢; rw [upd_ne V _ (by simp), hfa t q hk.2]; exact hp
      | stack t q => simp only [Piece] at hp ⊢; rw [upd_ne V _ (by simp), hfa t q hk.2]; exact hp
theorem Own.addFrame {base : Nat} {w w1 : World} {V : Key → Value} {s : St} (h : Own base w V s) {i gF capF : Nat} (hi : i < s.fibers.length)
    (hF : V .fibers = .slice (some ⟨gF, 0, none⟩) s.fibers.length capF) (f : Fr) (vl vf : Value) (hst : f.stack = []) {gl : Nat} (hgl : vl.ownBlock = none ∨ vl.ownBlock = some gl) (hoff : Own.off V s gl) (hlt : gl < w.heap.size)
    (hloc : w1.ownsRow base 3 1 vl f.locals.length (ints f.locals))
    (hgrow : ∀ b, b < w.heap.size → (V (.frames i)).ownBlock ≠ some b → w1.heap[b]? = w.heap[b]?)
    (hown : ∀ xs, w.ownsRow base 92 4 (V (.frames i)) (fibAt s i).frames.length xs → w1.ownsRow base 92 4 vf ((fibAt s i).frames.length + 1) (xs ++ [.int .i64 f.fn, .int .i64 f.at_, vl, .slice none 0 0]))
    (hat : vf.ownBlock = (V (.frames i)).ownBlock ∨ vf.ownBlock = some w.heap.size) :
    Own base (w1.setCell ⟨gF, i * 2, none⟩ vf) (upd (upd (upd V (.frames i) vf) (.locals i (fibAt s i).frames.length) vl) (.stack i (fibAt s i).frames.length) (.slice none 0 0)) (setFib s i { fibAt s i with frames := (fibAt s i).frames ++ [f] }) := by
  generalize hn : (fibAt s i).frames.length = n at *
  have hFb : (V .fibers).ownBlock = some gF := by rw [hF]; rfl
  have hlvF : live s (.frames i) := hi
  have hlen := setFib_len s i { fibAt s i with frames := (fibAt s i).frames ++ [f] }
  have hfrn : (V (.frames i)).ownBlock ≠ some gF := fun e => by have := h.apart _ .fibers _ hlvF trivial e hFb; cases this
  have hgFw : gF < w.heap.size := ((h.piece .fibers trivial).block gF hFb).2
  have hvfF : vf.ownBlock ≠ some gF := by
    rcases hat with e | e
    · rw [e]; exact hfrn
    · rw [e]; intro e'; cases e'; omega
  have hvlF : vl.ownBlock ≠ some gF := by
    rcases hgl with e | e
    · rw [e]; simp
    · rw [e]; intro e'; cases e'; exact hoff .fibers trivial hFb
  have hfs : fibAt (setFib s i { fibAt s i with frames := (fibAt s i).frames ++ [f] }) i = { fibAt s i with frames := (fibAt s i).frames ++ [f] } := fibAt_same _ hi
  have hfn : ∀ t, i ≠ t → fibAt (setFib s i { fibAt s i with frames := (fibAt s i).frames ++ [f] }) t = fibAt s t := fun t e => fibAt_ne _ e
  have hold : ∀ t q, (i = t → q < n) → frAt (setFib s i { fibAt s i with frames := (fibAt s i).frames ++ [f] }) t q = frAt s t q := fun t q hq => by
    unfold frAt
    by_cases e : i = t
    · subst e; rw [hfs]; exact getD_append_left _ _ _ _ (by rw [hn]; exact hq rfl)
    · rw [hfn t e]
  have hnew : frAt (setFib s i { fibAt s i with frames := (fibAt s i).frames ++ [f] }) i n = f := by
    unfold frAt; rw [hfs, ← hn]; exact getD_append_len _ _ _
  have hlv : ∀ k, live (setFib s i { fibAt s i with frames := (fibAt s i).frames ++ [f] }) k → k = .locals i n ∨ k = .stack i n ∨ (live s k ∧ ∀ t q, (k = .locals t q ∨ k = .stack t q) → i = t → q < n) := by
    intro k hk
    cases k using Key.by with
    | fibers => exact .inr (.inr ⟨trivial, fun t q h => by simp at h⟩)
    | out => exact .inr (.inr ⟨trivial, fun t q h => by simp at h⟩)
    | frames t => exact .inr (.inr ⟨by simpa only [live, hlen] using hk, fun t q h => by simp at h⟩)
    | locals t q =>
      simp only [live, hlen] at hk
      by_cases e : i = t
      · subst e
        rw [hfs] at hk
        simp only [List.length_append, List.length_cons, List.length_nil, hn] at hk
        by_cases e : q = n
        · left; rw [e]
        · exact .inr (.inr ⟨⟨hi, by omega⟩, fun t' q' h _ => by simp at h; omega⟩)
      · rw [hfn t e] at hk
        exact .inr (.inr ⟨hk, fun t' q' h e' => by simp at h; omega⟩)
    | stack t q =>
      simp only [live, hlen] at hk
      by_cases e : i = t
      · subst e
        rw [hfs] at hk
        simp only [List.length_append, List.length_cons, List.length_nil, hn] at hk
        by_cases e : q = n
        · right; left; rw [e]
        · exact .inr (.inr ⟨⟨hi, by omega⟩, fun t' q' h _ => by simp at h; omega⟩)
      · rw [hfn t e] at hk
        exact .inr (.inr ⟨hk, fun t' q' h e' => by simp at h; omega⟩)
  have hdead1 : ¬ live s (.locals i n) := fun hh => by have := hh.2; omega
  have hdead2 : ¬ live s (.stack i n) := fun hh => by have := hh.2; omega
  have hVold : ∀ k, live s k → k ≠ .frames i → upd (upd (upd V (.frames i) vf) (.locals i n) vl) (.stack i n) (.slice none 0 0) k = V k := fun k hk e => by
    rw [upd_ne _ _ (fun (e : k = .stack i n) => hdead2 (e ▸ hk)), upd_ne _ _ (fun (e : k = .locals i n) => hdead1 (e ▸ hk)), upd_ne _ _ e]
  have hVf : upd (upd (upd V (.frames i) vf) (.locals i n) vl) (.stack i n) (.slice none 0 0) (.frames i) = vf := by
    rw [upd_ne _ _ (by simp), upd_ne _ _ (by simp), upd_same]
  have hVl : upd (upd (upd V (.frames i) vf) (.locals i n) vl) (.stack i n) (.slice none 0 0) (.locals i n) = vl := by
    rw [upd_ne _ _ (by simp), upd_same]
  have hVs : upd (upd (upd V (.frames i) vf) (.locals i n) vl) (.stack i n) (.slice none 0 0) (.stack i n) = .slice none 0 0 := upd_same _ _ _
  generalize upd (upd (upd V (.frames i) vf) (.locals i n) vl) (.stack i n) (.slice none 0 0) = V' at *
  refine h.turned (fun k hk => ?_) (fun k b hk e => ?_) (fun k k' b hk hk' ho e e' => ?_)
  · rcases hlv k hk with rfl | rfl | ⟨hlk, hq⟩
    · left
      show World.ownsRow _ _ _ _ _ _ _
      rw [hVl, hnew]
      exact ownsRow_setCell_other hloc hvlF _
    · left
      show World.ownsRow _ _ _ _ _ _ _
      rw [hVs, hnew, hst]
      exact World.ownsRow_nil _ _ _ _
    · by_cases hkF : k = .fibers
      · subst hkF
        left
        obtain ⟨xs, h1, h2⟩ := h.piece .fibers trivial
        rw [hF] at h1
        have h1' : w1.ownsRow base 95 2 (.slice (some ⟨gF, 0, none⟩) s.fibers.length capF) s.fibers.length xs := row_same h1 (fun b e => by cases e; exact hgrow gF hgFw hfrn)
        refine ⟨xs.set (i * 2) vf, ?_, fun t ht => ?_⟩
        · rw [hVold .fibers trivial (by simp), hF, hlen]; exact (h1'.stored _ _).1
        · rw [hlen] at ht
          obtain ⟨h3, h4⟩ := h2 t ht
          have hx : i * 2 < xs.length := by rw [h1.1]; omega
          by_cases e : i = t
          · subst e
            refine ⟨by rw [List.getElem?_set, if_pos rfl, if_pos hx, hVf], ?_⟩
            rw [List.getElem?_set, if_neg (by omega), hfs]
            exact h4
          · refine ⟨by rw [List.getElem?_set, if_neg (by omega), hVold (.frames t) ht (by simp; exact fun h => e h.symm)]; exact h3, ?_⟩
            rw [List.getElem?_set, if_neg (by omega), hfn t e]
            exact h4
      · by_cases hkf : k = .frames i
        · subst hkf
          left
          obtain ⟨xs, h1, h2⟩ := h.piece _ hlvF
          rw [hn] at h1 h2
          have h1' := hown xs h1
          refine ⟨_, by rw [hVf, hfs]; simp only [List.length_append, List.length_cons, List.length_nil, hn]; exact ownsRow_setCell_other h1' hvfF _, fun t ht => ?_⟩
          rw [hfs] at ht
          simp only [List.length_append, List.length_cons, List.length_nil, hn] at ht
          have hxl : xs.length = n * 4 := h1.1
          by_cases e : t = n
          · subst e
            rw [hnew, hVl, hVs]
            refine ⟨?_, ?_, ?_, ?_⟩ <;> rw [List.getElem?_append_right (by omega), hxl]
            · rw [show t * 4 - t * 4 = 0 by omega]; rfl
            · rw [show t * 4 + 1 - t * 4 = 1 by omega]; rfl
            · rw [show t * 4 + 2 - t * 4 = 2 by omega]; rfl
            · rw [show t * 4 + 3 - t * 4 = 3 by omega]; rfl
          · have htn : t < n := by omega
            obtain ⟨q0, q1, q2, q3⟩ := h2 t htn
            rw [hold i t (fun _ => htn), hVold (.locals i t) ⟨hi, by omega⟩ (by simp), hVold (.stack i t) ⟨hi, by omega⟩ (by simp)]
            refine ⟨?_, ?_, ?_, ?_⟩ <;> rw [List.getElem?_append_left (by omega)] <;> assumption
        · right
          refine ⟨hlk, hVold k hlk hkf, fun hp => ?_, fun b e => ?_⟩
          · cases k using Key.by with
            | fibers => exact absurd rfl hkF
            | out => simp only [Piece] at hp ⊢; rw [hVold .out trivial (by simp)]; exact hp
            | frames t =>
              have hne : i ≠ t := fun e => hkf (by rw [e])
              obtain ⟨xs, r1, r2⟩ := hp
              refine ⟨xs, by rw [hfn t hne, hVold _ hlk hkf]; exact r1, fun q hq' => ?_⟩
              rw [hfn t hne] at hq'
              rw [hold t q (fun e => absurd e hne), hVold (.locals t q) ⟨hlk, hq'⟩ (by simp), hVold (.stack t q) ⟨hlk, hq'⟩ (by simp)]
              exact r2 q hq'
            | locals t q => simp only [Piece] at hp ⊢; rw [hVold _ hlk (by simp), hold t q (hq t q (.inl rfl))]; exact hp
            | stack t q => simp only [Piece] at hp ⊢; rw [hVold _ hlk (by simp), hold t q (hq t q (.inr rfl))]; exact hp
          · rw [Below.heap_setCell w1 _ _ b (fun e' => hkF (h.apart k _ b hlk trivial e (by rw [hFb, e'])))]
            exact hgrow b ((h.piece k hlk).block b e).2 (fun e' => hkf (h.apart k _ b hlk hlvF e e'))
  · rcases hlv k hk with rfl | rfl | ⟨hlk, hq⟩
    · right
      rw [hVl] at e
      rcases hgl with e' | e'
      · rw [e'] at e; cases e
      · rw [e'] at e; cases e; exact hoff
    · rw [hVs] at e; cases e
    · by_cases hkf : k = .frames i
      · subst hkf
        rw [hVf] at e
        rcases hat with e' | e'
        · exact .inl ⟨hlk, by rw [← e', e]⟩
        · rw [e] at e'; cases e'
          exact .inr (h.new_off (.inl (Nat.le_refl _)))
      · rw [hVold k hlk hkf] at e
        exact .inl ⟨hlk, e⟩
  · have hwhich : ∀ k, live (setFib s i { fibAt s i with frames := (fibAt s i).frames ++ [f] }) k → (V' k).ownBlock = some b → (k = .locals i n ∧ b = gl) ∨ (k = .frames i ∧ b = w.heap.size) := by
      intro k hk e
      rcases hlv k hk with rfl | rfl | ⟨hlk, hq⟩
      · left
        rw [hVl] at e
        rcases hgl with e' | e'
        · rw [e'] at e; cases e
        · rw [e'] at e; cases e; exact ⟨rfl, rfl⟩
      · rw [hVs] at e; cases e
      · by_cases hkf : k = .frames i
        · subst hkf
          right
          rw [hVf] at e
          rcases hat with e' | e'
          · exact absurd (by rw [← e', e]) (ho (.frames i) hlk)
          · rw [e] at e'; cases e'; exact ⟨rfl, rfl⟩
        · rw [hVold k hlk hkf] at e
          exact absurd e (ho k hlk)
    rcases hwhich k hk e with ⟨h1, h2⟩ | ⟨h1, h2⟩ <;> rcases hwhich k' hk' e' with ⟨h3, h4⟩ | ⟨h3, h4⟩
    · rw [h1, h3]
    · omega
    · omega
    · rw [h1, h3]
end Go.Proofs.YtokhibfenccijaaGreatDoor
