/- OwnK, CloneA -/
import Derived.Test.YtlapliclhfpgkaaDoorRB14
import Derived.Test.YtlapliclhfpgkaaDoorRB25
import Derived.Test.YtlapliclhfpgkaaDoorRB24
import Derived.Test.YtlapliclhfpgkaaDoorRB26
import Derived.Laws.Cover3
namespace Go.Proofs.YtlapliclhfpgkaaDoor
open Go.RowKit
structure OwnOn (K : Key → Prop) (base : Nat) (w : World) (V : Key → Value) (s : St) : Prop where
  piece : ∀ k, K k → Piece base w V s k
  apart : ∀ k k' g, K k → K k' → (V k).ownBlock = some g → (V k').ownBlock = some g → k = k'
theorem row_base {w : World} {base base' : Nat} {e : TypeId} {size : Nat} {v : Value} {n : Nat} {xs : List Value} (h : w.ownsRow base' e size v n xs) (hb : base ≤ base') : w.ownsRow base e size v n xs := by
  refine ⟨h.1, ?_⟩
  rcases h.2 with hn | ⟨g, cap, cur, rfl, hg, rest⟩
  · exact .inl hn
  · exact .inr ⟨g, cap, cur, rfl, Nat.le_trans hb hg, rest⟩
theorem Piece.low {base base' : Nat} {w : World} {V : Key → Value} {s : St} {k : Key} (h : Piece base' w V s k) (hb : base ≤ base') : Piece base w V s k := by
  cases k using Key.by with
  | fibers => obtain ⟨xs, h1, h2⟩ := h; exact ⟨xs, row_base h1 hb, h2⟩
  | out => exact row_base h hb
  | frames i => obtain ⟨xs, h1, h2⟩ := h; exact ⟨xs, row_base h1 hb, h2⟩
  | locals i j => exact row_base h hb
  | stack i j => exact row_base h hb
def kidOf : Key → Key → Prop
  | none, some (some (.inl _)) => True
  | some (some (.inl i)), some (some (.inr (.inl (i', _)))) => i' = i
  | some (some (.inl i)), some (some (.inr (.inr (i', _)))) => i' = i
  | _, _ => False
theorem Piece.congr {base : Nat} {w : World} {V V' : Key → Value} {s : St} {k : Key} (h : Piece base w V s k) (h0 : V' k = V k) (hc : ∀ k', kidOf k k' → V' k' = V k') : Piece base w V' s k := by
  cases k using Key.by with
  | fibers =>
    obtain ⟨xs, h1, h2⟩ := h
    exact ⟨xs, by rw [h0]; exact h1, fun i hi => by rw [hc (.frames i) trivial]; exact h2 i hi⟩
  | out => show World.ownsRow _ _ _ _ _ _ _; rw [h0]; exact h
  | frames i =>
    obtain ⟨xs, h1, h2⟩ := h
    exact ⟨xs, by rw [h0]; exact h1, fun j hj => by rw [hc (.locals i j) rfl, hc (.stack i j) rfl]; exact h2 j hj⟩
  | locals i j => show World.ownsRow _ _ _ _ _ _ _; rw [h0]; exact h
  | stack i j => show World.ownsRow _ _ _ _ _ _ _; rw [h0]; exact h
section
variable {K K' : Key → Prop} {base : Nat} {w w1 w2 : World} {V V1 V2 : Key → Value} {s : St} {p : Key} {g : Nat}
theorem OwnOn.same (h : OwnOn K base w V s) (hs : ∀ k b, K k → (V k).ownBlock = some b → w2.heap[b]? = w.heap[b]?) : OwnOn K base w2 V s :=
  ⟨fun k hk => (h.piece k hk).same (fun b hb => hs k b hk hb), h.apart⟩
theorem OwnOn.kept (h : OwnOn K base w V s) (hk : Kept w w2) : OwnOn K base w2 V s :=
  h.same fun k b hK hb => hk.block b ((h.piece k hK).block b hb).2
theorem OwnOn.sub (h : OwnOn K base w V s) (hs : ∀ k, K' k → K k) : OwnOn K' base w V s :=
  ⟨fun k hk => h.piece k (hs k hk), fun k k' b hk hk' => h.apart k k' b (hs k hk) (hs k' hk')⟩
theorem OwnOn.into (h : OwnOn K base w V s) (hb : base ≤ w.heap.size) (hk : Kept w w1) (h1 : OwnOn K' w.heap.size w1 V1 s)
    (hp : K p) (hpg : (V p).ownBlock = some g) (h2 : ∀ b, b ≠ g → w2.heap[b]? = w1.heap[b]?) (e1 : ∀ k, K k → V2 k = V k) (e2 : ∀ k, K' k → V2 k = V1 k)
    (c1 : ∀ k k', K k → k ≠ p → kidOf k k' → V2 k' = V k') (c2 : ∀ k k', K' k → kidOf k k' → V2 k' = V1 k') (hpp : Piece base w2 V2 s p) :
    OwnOn (fun k => K k ∨ K' k) base w2 V2 s := by
  have hg := ((h.piece p hp).block g hpg).2
  refine ⟨fun k hkk => ?_, fun k k' b hk1 hk2 b1 b2 => ?_⟩
  · rcases hkk with hK | hK
    · by_cases e : k = p
      · rw [e]; exact hpp
      · refine ((h.piece k hK).congr (e1 k hK) (fun k' hc => c1 k k' hK e hc)).same (fun b hbb => ?_)
        rw [e1 k hK] at hbb
        have hlt := ((h.piece k hK).block b hbb).2
        have hne : b ≠ g := fun e' => e (h.apart k p b hK hp hbb (by rw [hpg, e']))
        rw [h2 b hne, hk.block b hlt]
    · refine (((h1.piece k hK).congr (e2 k hK) (fun k' hc => c2 k k' hK hc)).low hb).same (fun b hbb => ?_)
      rw [e2 k hK] at hbb
      have hge := ((h1.piece k hK).block b hbb).1
      exact h2 b (by omega)
  · rcases hk1 with hK1 | hK1 <;> rcases hk2 with hK2 | hK2
    · rw [e1 k hK1] at b1; rw [e1 k' hK2] at b2; exact h.apart k k' b hK1 hK2 b1 b2
    · rw [e1 k hK1] at b1; rw [e2 k' hK2] at b2
      have := ((h.piece k hK1).block b b1).2
      have := ((h1.piece k' hK2).block b b2).1
      omega
    · rw [e2 k hK1] at b1; rw [e1 k' hK2] at b2
      have := ((h.piece k' hK2).block b b2).2
      have := ((h1.piece k hK1).block b b1).1
      omega
    · rw [e2 k hK1] at b1; rw [e2 k' hK2] at b2; exact h1.apart k k' b hK1 hK2 b1 b2
theorem OwnOn.beside (h : OwnOn K base w V s) (hb : base ≤ w.heap.size) (hk : Kept w w1) (h1 : OwnOn K' w.heap.size w1 V1 s) (e1 : ∀ k, K k → V2 k = V k) (e2 : ∀ k, K' k → V2 k = V1 k)
    (c1 : ∀ k k', K k → kidOf k k' → V2 k' = V k') (c2 : ∀ k k', K' k → kidOf k k' → V2 k' = V1 k') : OwnOn (fun k => K k ∨ K' k) base w1 V2 s := by
  refine ⟨fun k hkk => ?_, fun k k' b hk1 hk2 b1 b2 => ?_⟩
  · rcases hkk with hK | hK
    · refine ((h.piece k hK).congr (e1 k hK) (fun k' hc => c1 k k' hK hc)).same (fun b hbb => ?_)
      rw [e1 k hK] at hbb
      exact hk.block b ((h.piece k hK).block b hbb).2
    · exact ((h1.piece k hK).congr (e2 k hK) (fun k' hc => c2 k k' hK hc)).low hb
  · rcases hk1 with hK1 | hK1 <;> rcases hk2 with hK2 | hK2
    · rw [e1 k hK1] at b1; rw [e1 k' hK2] at b2; exact h.apart k k' b hK1 hK2 b1 b2
    · rw [e1 k hK1] at b1; rw [e2 k' hK2] at b2
      have := ((h.piece k hK1).block b b1).2
      have := ((h1.piece k' hK2).block b b2).1
      omega
    · rw [e2 k hK1] at b1; rw [e1 k' hK2] at b2
      have := ((h.piece k' hK2).block b b2).2
      have := ((h1.piece k hK1).block b b1).1
      omega
    · rw [e2 k hK1] at b1; rw [e2 k' hK2] at b2; exact h1.apart k k' b hK1 hK2 b1 b2
end
def FK (t n : Nat) : Key → Prop
  | some (some (.inl i)) => i = t
  | some (some (.inr (.inl (i, j)))) => i = t ∧ j < n
  | some (some (.inr (.inr (i, j)))) => i = t ∧ j < n
  | _ => False
def RK (t j : Nat) : Key → Prop
  | some (some (.inr (.inl (i, q)))) => i = t ∧ q = j
  | some (some (.inr (.inr (i, q)))) => i = t ∧ q = j
  | _ => False
def LK (s : St) (n : Nat) : Key → Prop
  | none => True
  | some none => False
  | some (some (.inl i)) => i < n
  | some (some (.inr (.inl (i, j)))) => i < n ∧ j < (fibAt s i).frames.length
  | some (some (.inr (.inr (i, j)))) => i < n ∧ j < (fibAt s i).frames.length
def ofFib (t : Nat) : Key → Bool
  | some (some (.inl i)) => i == t
  | some (some (.inr (.inl (i, _)))) => i == t
  | some (some (.inr (.inr (i, _)))) => i == t
  | _ => false
def frV (V : Key → Value) (t j : Nat) (v1 v2 : Value) : Key → Value := fun k => if k = .locals t j then v1 else if k = .stack t j then v2 else V k
theorem frV_locals (V : Key → Value) (t j : Nat) (v1 v2 : Value) : frV V t j v1 v2 (.locals t j) = v1 := if_pos rfl
theorem frV_stack (V : Key → Value) (t j : Nat) (v1 v2 : Value) : frV V t j v1 v2 (.stack t j) = v2 := by unfold frV; rw [if_neg (by simp), if_pos rfl]
theorem frV_ne (V : Key → Value) {t j : Nat} {v1 v2 : Value} {k : Key} (h1 : k ≠ .locals t j) (h2 : k ≠ .stack t j) : frV V t j v1 v2 k = V k := by unfold frV; rw [if_neg h1, if_neg h2]
theorem OwnOn.frame {base : Nat} {w : World} {s : St} {t j : Nat} {v1 v2 : Value} {V : Key → Value} (h1 : w.ownsRow base 3 1 v1 (frAt s t j).locals.length (ints (frAt s t j).locals)) (h2 : w.ownsRow base 3 1 v2 (frAt s t j).stack.length (ints (frAt s t j).stack))
    (ha : ∀ b, v1.ownBlock = some b → v2.ownBlock ≠ some b) : OwnOn (RK t j) base w (frV V t j v1 v2) s := by
  have e1 := frV_locals V t j v1 v2
  have e2 := frV_stack V t j v1 v2
  refine ⟨fun k hk => ?_, fun k k' b hk hk' => ?_⟩
  · cases k using Key.by with
    | fibers => exact hk.elim
    | out => exact hk.elim
    | frames i => exact hk.elim
    | locals i q => obtain ⟨rfl, rfl⟩ := hk; show World.ownsRow _ _ _ _ _ _ _; rw [e1]; exact h1
    | stack i q => obtain ⟨rfl, rfl⟩ := hk; show World.ownsRow _ _ _ _ _ _ _; rw [e2]; exact h2
  · cases k using Key.by with
    | fibers => exact hk.elim
    | out => exact hk.elim
    | frames i => exact hk.elim
    | locals i q =>
      obtain ⟨rfl, rfl⟩ := hk
      cases k' using Key.by with
      | fibers => exact hk'.elim
      | out => exact hk'.elim
      | frames i => exact hk'.elim
      | locals i' q' => obtain ⟨rfl, rfl⟩ := hk'; exact fun _ _ => rfl
      | stack i' q' => obtain ⟨rfl, rfl⟩ := hk'; rw [e1, e2]; exact fun b1 b2 => absurd b2 (ha b b1)
    | stack i q =>
      obtain ⟨rfl, rfl⟩ := hk
      cases k' using Key.by with
      | fibers => exact hk'.elim
      | out => exact hk'.elim
      | frames i => exact hk'.elim
      | locals i' q' => obtain ⟨rfl, rfl⟩ := hk'; rw [e1, e2]; exact fun b2 b1 => absurd b2 (ha b b1)
      | stack i' q' => obtain ⟨rfl, rfl⟩ := hk'; exact fun _ _ => rfl
theorem OwnOn.frame_in {base : Nat} {w w1 : World} {V : Key → Value} {s : St} {t j g cap : Nat} {v1 v2 : Value} (h : OwnOn (FK t j) base w V s) (hb : base ≤ w.heap.size) (hk : Kept w w1)
    (hj : j < (fibAt s t).frames.length) (hV : V (.frames t) = .slice (some ⟨g, 0, none⟩) (fibAt s t).frames.length cap)
    (h1 : w1.ownsRow w.heap.size 3 1 v1 (frAt s t j).locals.length (ints (frAt s t j).locals)) (h2 : w1.ownsRow w.heap.size 3 1 v2 (frAt s t j).stack.length (ints (frAt s t j).stack))
    (ha : ∀ b, v1.ownBlock = some b → v2.ownBlock ≠ some b) :
    OwnOn (FK t (j + 1)) base ((((w1.setCell ⟨g, j * 4, none⟩ (.int .i64 (frAt s t j).fn)).setCell ⟨g, j * 4 + 1, none⟩ (.int .i64 (frAt s t j).at_)).setCell ⟨g, j * 4 + 2, none⟩ v1).setCell ⟨g, j * 4 + 3, none⟩ v2) (frV V t j v1 v2) s := by
  have hn := OwnOn.frame (V := V) h1 h2 ha
  have hf : FK t j (.frames t) := rfl
  have hfr : frV V t j v1 v2 (.frames t) = V (.frames t) := frV_ne V (by simp) (by simp)
  refine (h.into hb hk hn (p := .frames t) (g := g) hf (by rw [hV]; rfl) (fun b hne => ?_) (fun k hK => ?_) (fun _ _ => rfl) (fun k k' hK hne hc => ?_) (fun _ _ _ _ => rfl) ?_).sub (fun k hK => ?_)
  · rw [Below.heap_setCell _ _ _ _ hne, Below.heap_setCell _ _ _ _ hne, Below.heap_setCell _ _ _ _ hne, Below.heap_setCell _ _ _ _ hne]
  · refine frV_ne V (fun e => ?_) (fun e => ?_)
    · subst e; exact absurd hK.2 (by omega)
    · subst e; exact absurd hK.2 (by omega)
  · cases k using Key.by with
    | fibers => exact hK.elim
    | out => exact hK.elim
    | frames i => exact absurd (by rw [show i = t from hK]) hne
    | locals i q => cases k' using Key.by <;> exact hc.elim
    | stack i q => cases k' using Key.by <;> exact hc.elim
  · obtain ⟨xs, r1, r2⟩ := h.piece (.frames t) hf
    rw [hV] at r1
    have r3 := row_same (w' := w1) r1 (fun b hbb => hk.block b (r1.lt b hbb).2)
    have r4 := ((((r3.stored (j * 4) (.int .i64 (frAt s t j).fn)).1.stored (j * 4 + 1) (.int .i64 (frAt s t j).at_)).1.stored (j * 4 + 2) v1).1.stored (j * 4 + 3) v2).1
    refine ⟨_, by rw [hfr, hV]; exact r4, fun q hq => ?_⟩
    have hl : xs.length = (fibAt s t).frames.length * 4 := r1.1
    obtain ⟨x0, x1, x2, x3⟩ := r2 q hq
    by_cases e : q = j
    · subst e
      rw [frV_locals, frV_stack]
      refine ⟨?_, ?_, ?_, ?_⟩ <;> simp [List.getElem?_set] <;> omega
    · rw [frV_ne V (by simp [e]) (by simp), frV_ne V (by simp) (by simp [e])]
      simp only [List.getElem?_set]
      refine ⟨?_, ?_, ?_, ?_⟩
      · rw [if_neg (by omega), if_neg (by omega), if_neg (by omega), if_neg (by omega)]; exact x0
      · rw [if_neg (by omega), if_neg (by omega), if_neg (by omega), if_neg (by omega)]; exact x1
      · rw [if_neg (by omega), if_neg (by omega), if_neg (by omega), if_neg (by omega)]; exact x2
      · rw [if_neg (by omega), if_neg (by omega), if_neg (by omega), if_neg (by omega)]; exact x3
  · cases k using Key.by with
    | fibers => exact hK.elim
    | out => exact hK.elim
    | frames i => exact .inl hK
    | locals i q => exact (Nat.lt_succ_iff_lt_or_eq.1 hK.2).imp (fun e => ⟨hK.1, e⟩) (fun e => ⟨hK.1, e⟩)
    | stack i q => exact (Nat.lt_succ_iff_lt_or_eq.1 hK.2).imp (fun e => ⟨hK.1, e⟩) (fun e => ⟨hK.1, e⟩)
def fbV (V V1 : Key → Value) (t : Nat) : Key → Value := fun k => if ofFib t k = true then V1 k else V k
theorem fbV_of (V V1 : Key → Value) {t : Nat} {k : Key} (h : ofFib t k = true) : fbV V V1 t k = V1 k := if_pos h
theorem fbV_ne (V V1 : Key → Value) {t : Nat} {k : Key} (h : ofFib t k = false) : fbV V V1 t k = V k := if_neg (by rw [h]; exact Bool.false_ne_true)
theorem FK_of {t n : Nat} {k : Key} (h : FK t n k) : ofFib t k = true := by
  cases k using Key.by with
  | fibers => exact h.elim
  | out => exact h.elim
  | frames i => exact beq_iff_eq.2 h
  | locals i q => exact beq_iff_eq.2 h.1
  | stack i q => exact beq_iff_eq.2 h.1
theorem LK_of {s : St} {t : Nat} {k : Key} (h : LK s t k) : ofFib t k = false := by
  cases k using Key.by with
  | fibers => rfl
  | out => rfl
  | frames i => exact beq_eq_false_iff_ne.2 (Nat.ne_of_lt h)
  | locals i q => exact beq_eq_false_iff_ne.2 (Nat.ne_of_lt h.1)
  | stack i q => exact beq_eq_false_iff_ne.2 (Nat.ne_of_lt h.1)
theorem OwnOn.fiber_in {base : Nat} {w w1 : World} {V V1 : Key → Value} {s : St} {t g cap : Nat} (h : OwnOn (LK s t) base w V s) (hb : base ≤ w.heap.size) (hk : Kept w w1)
    (ht : t < s.fibers.length) (hV : V .fibers = .slice (some ⟨g, 0, none⟩) s.fibers.length cap) (h1 : OwnOn (FK t (fibAt s t).frames.length) w.heap.size w1 V1 s) :
    OwnOn (LK s (t + 1)) base ((w1.setCell ⟨g, t * 2, none⟩ (V1 (.frames t))).setCell ⟨g, t * 2 + 1, none⟩ (.int .i64 (fibAt s t).caller)) (fbV V V1 t) s := by
  have hf : LK s t .fibers := trivial
  refine (h.into hb hk h1 (V2 := fbV V V1 t) (p := .fibers) (g := g) hf (by rw [hV]; rfl) (fun b hne => ?_) (fun k hK => fbV_ne V V1 (LK_of hK)) (fun k hK => fbV_of V V1 (FK_of hK)) (fun k k' hK hne hc => ?_) (fun k k' hK hc => ?_) ?_).sub (fun k hK => ?_)
  · rw [Below.heap_setCell _ _ _ _ hne, Below.heap_setCell _ _ _ _ hne]
  · cases k using Key.by with
    | fibers => exact absurd rfl hne
    | out => exact hK.elim
    | frames i =>
      have hi : i < t := hK
      cases k' using Key.by with
      | fibers => exact hc.elim
      | out => exact hc.elim
      | frames q => exact hc.elim
      | locals a b => exact fbV_ne V V1 (beq_eq_false_iff_ne.2 (by rw [show a = i from hc]; omega))
      | stack a b => exact fbV_ne V V1 (beq_eq_false_iff_ne.2 (by rw [show a = i from hc]; omega))
    | locals i q => cases k' using Key.by <;> exact hc.elim
    | stack i q => cases k' using Key.by <;> exact hc.elim
  · cases k using Key.by with
    | fibers => exact hK.elim
    | out => exact hK.elim
    | frames i =>
      have hi : i = t := hK
      cases k' using Key.by with
      | fibers => exact hc.elim
      | out => exact hc.elim
      | frames q => exact hc.elim
      | locals a b => exact fbV_of V V1 (beq_iff_eq.2 (by rw [show a = i from hc]; exact hi))
      | stack a b => exact fbV_of V V1 (beq_iff_eq.2 (by rw [show a = i from hc]; exact hi))
    | locals i q => cases k' using Key.by <;> exact hc.elim
    | stack i q => cases k' using Key.by <;> exact hc.elim
  · obtain ⟨xs, r1, r2⟩ := h.piece .fibers hf
    rw [hV] at r1
    have r3 := row_same (w' := w1) r1 (fun b hbb => hk.block b (r1.lt b hbb).2)
    have r4 := ((r3.stored (t * 2) (V1 (.frames t))).1.stored (t * 2 + 1) (.int .i64 (fibAt s t).caller)).1
    refine ⟨_, by rw [fbV_ne V V1 rfl, hV]; exact r4, fun q hq => ?_⟩
    have hl : xs.length = s.fibers.length * 2 := r1.1
    obtain ⟨x0, x1⟩ := r2 q hq
    by_cases e : q = t
    · subst e
      rw [fbV_of V V1 (t := q) (k := .frames q) (beq_iff_eq.2 rfl)]
      refine ⟨?_, ?_⟩ <;> simp [List.getElem?_set] <;> omega
    · rw [fbV_ne V V1 (t := t) (k := .frames q) (beq_eq_false_iff_ne.2 e)]
      simp only [List.getElem?_set]
      refine ⟨?_, ?_⟩
      · rw [if_neg (by omega), if_neg (by omega)]; exact x0
      · rw [if_neg (by omega), if_neg (by omega)]; exact x1
  · cases k using Key.by with
    | fibers => exact .inl trivial
    | out => exact hK.elim
    | frames i => exact Nat.lt_succ_iff_lt_or_eq.1 hK
    | locals i q => exact (Nat.lt_succ_iff_lt_or_eq.1 hK.1).imp (fun e => ⟨e, hK.2⟩) (fun e => ⟨e, by rw [← e]; exact hK.2⟩)
    | stack i q => exact (Nat.lt_succ_iff_lt_or_eq.1 hK.1).imp (fun e => ⟨e, hK.2⟩) (fun e => ⟨e, by rw [← e]; exact hK.2⟩)
theorem OwnOn.whole {base : Nat} {w w1 : World} {V : Key → Value} {s : St} {vo : Value} (h : OwnOn (LK s s.fibers.length) base w V s) (hb : base ≤ w.heap.size) (hk : Kept w w1)
    (ho : w1.ownsRow w.heap.size 3 1 vo s.out.length (ints s.out)) : Own base w1 (upd V .out vo) s := by
  have h1 : OwnOn (fun k => k = .out) w.heap.size w1 (upd V .out vo) s :=
    ⟨fun k e => by subst e; show World.ownsRow _ _ _ _ _ _ _; rw [upd_same]; exact ho, fun k k' _ e e' _ _ => by rw [e, e']⟩
  have hno : ∀ k, LK s s.fibers.length k → k ≠ .out := fun k hK e => by subst e; exact hK
  have h2 := h.beside hb hk h1 (V2 := upd V .out vo) (fun k hK => upd_ne _ _ (hno k hK)) (fun _ _ => rfl) (fun k k' hK hc => upd_ne _ _ (fun e => by subst e; cases k using Key.by <;> exact hc)) (fun _ _ _ _ => rfl)
  have h3 : ∀ k, live s k → (LK s s.fibers.length k ∨ k = .out) := fun k hK => by
    cases k using Key.by with
    | fibers => exact .inl trivial
    | out => exact .inr rfl
    | frames i => exact .inl hK
    | locals i q => exact .inl hK
    | stack i q => exact .inl hK
  exact ⟨fun k hK => h2.piece k (h3 k hK), fun k k' g hK hK' => h2.apart k k' g (h3 k hK) (h3 k' hK')⟩
theorem OwnOn.frames_start {base : Nat} {w : World} {V : Key → Value} {s : St} {t : Nat} {xs : List Value} (h1 : w.ownsRow base 64 4 (V (.frames t)) (fibAt s t).frames.length xs)
    (h2 : ∀ j, j < (fibAt s t).frames.length → xs[j * 4]? = some (.int .i64 (frAt s t j).fn) ∧ xs[j * 4 + 1]? = some (.int .i64 (frAt s t j).at_) ∧ xs[j * 4 + 2]? = some (V (.locals t j)) ∧ xs[j * 4 + 3]? = some (V (.stack t j))) : OwnOn (FK t 0) base w V s := by
  have hk : ∀ k, FK t 0 k → k = .frames t := fun k hK => by
    cases k using Key.by with
    | fibers => exact hK.elim
    | out => exact hK.elim
    | frames i => rw [show i = t from hK]
    | locals i q => exact absurd hK.2 (Nat.not_lt_zero _)
    | stack i q => exact absurd hK.2 (Nat.not_lt_zero _)
  exact ⟨fun k hK => by rw [hk k hK]; exact ⟨xs, h1, h2⟩, fun k k' _ hK hK' _ _ => by rw [hk k hK, hk k' hK']⟩
theorem OwnOn.fibers_start {base : Nat} {w : World} {V : Key → Value} {s : St} {xs : List Value} (h1 : w.ownsRow base 62 2 (V .fibers) s.fibers.length xs)
    (h2 : ∀ i, i < s.fibers.length → xs[i * 2]? = some (V (.frames i)) ∧ xs[i * 2 + 1]? = some (.int .i64 (fibAt s i).caller)) : OwnOn (LK s 0) base w V s := by
  have hk : ∀ k, LK s 0 k → k = .fibers := fun k hK => by
    cases k using Key.by with
    | fibers => rfl
    | out => exact hK.elim
    | frames i => exact absurd hK (Nat.not_lt_zero _)
    | locals i q => exact absurd hK.1 (Nat.not_lt_zero _)
    | stack i q => exact absurd hK.1 (Nat.not_lt_zero _)
  exact ⟨fun k hK => by rw [hk k hK]; exact ⟨xs, h1, h2⟩, fun k k' _ hK hK' _ _ => by rw [hk k hK, hk k' hK']⟩
end Go.Proofs.YtlapliclhfpgkaaDoor
namespace Go.Proofs.YtlapliclhfpgkaaDoor
open Go.RowKit
theorem row_copied (t e : TypeId) (i : TypeInfo) (z : Value) (size bytes : Nat) (ht : Tryd.prog.underlying t = some (.slice e)) (hi : Tryd.prog.info? e = some i) (hz : i.zero = some z) (hsize : i.size = size) (hby : i.bytes = bytes) (hzs : z.cells.size = size) (hsz : 0 < size)
    (base B : Nat) (u : World) (a : Addr) (n cap : Nat) (xs : List Value) (hx : xs.length = n * size) (hc : ∀ j x, xs[j]? = some x → u.cell? (a.add j) = some x) (h1 : ∀ x ∈ xs, x.oneCell' = true) (hn : n ≤ maxLen) (hnb : n * bytes ≤ 140737488355328)
    (hB : u.heap[B]? = some (.cells #[] e)) (hb : base ≤ B) :
    ∃ v' u', (Builtin.append_ #[t, t] t #[.slice (some ⟨B, 0, none⟩) 0 0, .slice (some a) n cap]).run Tryd.prog u = .ok v' u' ∧ u'.ownsRow base e size v' n xs ∧ u.grownBy u' (some B) := by
  have hBl : B < u.heap.size := (Array.getElem?_eq_some_iff.1 hB).1
  have hrow : u.ownsRow base e size (.slice (some ⟨B, 0, none⟩) 0 0) 0 [] := ⟨by simp, .inr ⟨B, 0, #[], rfl, hb, hB, Nat.le_refl _, by decide, by simp, by simp⟩⟩
  obtain ⟨v', u', hrun, hown, hgrow, _⟩ := run_append_own (P := Tryd.prog) u base t t e i z size bytes ht hi hz hsize hby hzs hsz _ 0 [] hrow a n cap xs hx hc h1 (by simpa using hn) (by simpa using hnb) (by omega)
  exact ⟨v', u', hrun, by simpa using hown, hgrow⟩
def ClonePost (e : TypeId) (size n : Nat) (xs : List Value) (w : World) (en : Ending) (w' : World) : Prop :=
  ∃ v', en = .returned v' ∧ w'.ownsRow w.heap.size e size v' n xs ∧ Kept w w'
theorem run_isNil (w : World) (t e : TypeId) (a : Option Addr) (l c : Nat) (h : Tryd.prog.underlying t = some (.slice e)) : (binOp .eql t (.slice a l c) (.slice none 0 0)).run Tryd.prog w = .ok (.bool a.isNone) w := by
  simp [binOp, run_equal_slice_nil w t e a l c h]
structure Cells (w : World) (oa : Option Addr) (xs : List Value) : Prop where
  cell : ∀ j x, xs[j]? = some x → ∃ b o, oa = some ⟨b, o, none⟩ ∧ w.cell? ⟨b, o + j, none⟩ = some x
  one : ∀ x ∈ xs, x.oneCell' = true
theorem Cells.none {w : World} {xs : List Value} (h : Cells w Option.none xs) : xs = [] := by
  cases xs with
  | nil => rfl
  | cons x r => obtain ⟨b, o, e, _⟩ := h.cell 0 x rfl; cases e
theorem Cells.at {w : World} {a : Addr} {xs : List Value} (h : Cells w (some a) xs) : ∀ j x, xs[j]? = some x → w.cell? (a.add j) = some x := fun j x hj => by
  obtain ⟨b, o, e, hc⟩ := h.cell j x hj
  obtain rfl := Option.some.inj e
  have : ((⟨b, o, .none⟩ : Addr).add j) = ⟨b, o + j, .none⟩ := by unfold Addr.add; split <;> simp_all
  rw [this]; exact hc
theorem Cells.kept {w w' : World} {oa : Option Addr} {xs : List Value} (h : Cells w oa xs) (hk : Kept w w') : Cells w' oa xs :=
  ⟨fun j x hj => by obtain ⟨b, o, e, hc⟩ := h.cell j x hj; exact ⟨b, o, e, hk.cell hc⟩, h.one⟩
theorem clone_printed : True := trivial
set_option maxRecDepth 100000 in
set_option maxHeartbeats 2000000 in
theorem cloneInts_any (n : Nat) (oa : Option Addr) (cap : Nat) (xs : List Value) (w : World) (h : Cells w oa xs) (hx : xs.length = n * 1) (hn : n ≤ 1000) :
    Calls Tryd.prog 34 #[.slice oa n cap] w (ClonePost 3 1 n xs w) := by
  have hnil := fun u => run_isNil u 27 3 oa n cap Tryd.underlying27
  cases oa with
  | none =>
    obtain rfl := h.none
    obtain rfl : n = 0 := by simp at hx; omega
    go_enter Tryd.func34, Tryd.ntmps34
    go_wp2
    go_ret
    exact ⟨_, rfl, World.ownsRow_nil _ _ _ _, Kept.refl _⟩
  | some a =>
    obtain ⟨i0, hi0, hz0, hz1, hz2⟩ := info_parts infoInt
    have hk1 : Kept w (w.alloc (.cells #[] 3)) := (Kept.refl w).alloc _
    obtain ⟨v', u', hrun, hown, hg⟩ := row_copied 27 3 i0 _ 1 8 Tryd.underlying27 hi0 hz0 hz1 hz2 rfl (by decide) w.heap.size w.heap.size (w.alloc (.cells #[] 3)) a n cap xs hx (h.kept hk1).at h.one (by unfold maxLen; omega) (by omega) (lays_new rfl) (Nat.le_refl _)
    have hk2 : Kept w u' := Below.grown hk1 hg (by simp) (fun j hj => by cases hj; exact Nat.le_refl _)
    clear hi0 hz0 hz1 hz2 hg hk1 h hx
    go_enter Tryd.func34, Tryd.ntmps34
    go_wp2_with (at_builtin; refine wpList_appR (v := .slice (some ⟨w.heap.size, 0, none⟩) 0 0) (u := .slice (some a) n cap) _ rfl _ _ 27 rfl rfl rfl hrun ?_; clear hrun)
    go_ret
    exact ⟨v', rfl, hown, hk2⟩
set_option maxRecDepth 100000 in
set_option maxHeartbeats 2000000 in
theorem cloneFrames_any (n : Nat) (oa : Option Addr) (cap : Nat) (xs : List Value) (w : World) (h : Cells w oa xs) (hx : xs.length = n * 4) (hn : n ≤ 1000) :
    Calls Tryd.prog 82 #[.slice oa n cap] w (ClonePost 64 4 n xs w) := by
  have hnil := fun u => run_isNil u 60 64 oa n cap Tryd.underlying60
  cases oa with
  | none =>
    obtain rfl := h.none
    obtain rfl : n = 0 := by simp at hx; omega
    go_enter Tryd.func82, Tryd.ntmps82
    go_wp2
    go_ret
    exact ⟨_, rfl, World.ownsRow_nil _ _ _ _, Kept.refl _⟩
  | some a =>
    obtain ⟨i0, hi0, hz0, hz1, hz2⟩ := info_parts infoFrame
    have hk1 : Kept w (w.alloc (.cells #[] 64)) := (Kept.refl w).alloc _
    obtain ⟨v', u', hrun, hown, hg⟩ := row_copied 60 64 i0 _ 4 64 Tryd.underlying60 hi0 hz0 hz1 hz2 rfl (by decide) w.heap.size w.heap.size (w.alloc (.cells #[] 64)) a n cap xs hx (h.kept hk1).at h.one (by unfold maxLen; omega) (by omega) (lays_new rfl) (Nat.le_refl _)
    have hk2 : Kept w u' := Below.grown hk1 hg (by simp) (fun j hj => by cases hj; exact Nat.le_refl _)
    clear hi0 hz0 hz1 hz2 hg hk1 h hx
    go_enter Tryd.func82, Tryd.ntmps82
    go_wp2_with (at_builtin; refine wpList_appR (v := .slice (some ⟨w.heap.size, 0, none⟩) 0 0) (u := .slice (some a) n cap) _ rfl _ _ 60 rfl rfl rfl hrun ?_; clear hrun)
    go_ret
    exact ⟨v', rfl, hown, hk2⟩
set_option maxRecDepth 100000 in
set_option maxHeartbeats 2000000 in
theorem cloneFibers_any (n : Nat) (oa : Option Addr) (cap : Nat) (xs : List Value) (w : World) (h : Cells w oa xs) (hx : xs.length = n * 2) (hn : n ≤ 1000) :
    Calls Tryd.prog 50 #[.slice oa n cap] w (ClonePost 62 2 n xs w) := by
  have hnil := fun u => run_isNil u 33 62 oa n cap Tryd.underlying33
  cases oa with
  | none =>
    obtain rfl := h.none
    obtain rfl : n = 0 := by simp at hx; omega
    go_enter Tryd.func50, Tryd.ntmps50
    go_wp2
    go_ret
    exact ⟨_, rfl, World.ownsRow_nil _ _ _ _, Kept.refl _⟩
  | some a =>
    obtain ⟨i0, hi0, hz0, hz1, hz2⟩ := info_parts infoFiber
    have hk1 : Kept w (w.alloc (.cells #[] 62)) := (Kept.refl w).alloc _
    obtain ⟨v', u', hrun, hown, hg⟩ := row_copied 33 62 i0 _ 2 32 Tryd.underlying33 hi0 hz0 hz1 hz2 rfl (by decide) w.heap.size w.heap.size (w.alloc (.cells #[] 62)) a n cap xs hx (h.kept hk1).at h.one (by unfold maxLen; omega) (by omega) (lays_new rfl) (Nat.le_refl _)
    have hk2 : Kept w u' := Below.grown hk1 hg (by simp) (fun j hj => by cases hj; exact Nat.le_refl _)
    clear hi0 hz0 hz1 hz2 hg hk1 h hx
    go_enter Tryd.func50, Tryd.ntmps50
    go_wp2_with (at_builtin; refine wpList_appR (v := .slice (some ⟨w.heap.size, 0, none⟩) 0 0) (u := .slice (some a) n cap) _ rfl _ _ 33 rfl rfl rfl hrun ?_; clear hrun)
    go_ret
    exact ⟨v', rfl, hown, hk2⟩
end Go.Proofs.YtlapliclhfpgkaaDoor
