/- App, OwnJ, StepK, StepJ, StepH -/
import Derived.Test.YtohlefnljgkdcabDoorST01
import Derived.Test.YtohlefnljgkdcabDoorChecked
import Derived.Laws.AppendOwn
import Derived.Test.YtohlefnljgkdcabDoorST15
import Derived.Test.YtohlefnljgkdcabDoorST17
import Derived.Test.YtohlefnljgkdcabDoorST16
import Derived.Deep.RegionHeld3
import Derived.StillTailTactics
import Derived.Test.YtohlefnljgkdcabDoorST14
import Derived.Test.YtohlefnljgkdcabDoorST08
namespace Go.Proofs.YtohlefnljgkdcabDoor
open Go.RowKit
theorem wp_appR {o : Oper} {a : Act} {K : Act → World → Prop} {Q : Exit → Act → World → Prop} (w : World) (s x : Operand) (t : TypeId)
    (ho : o.op = .call { callee := .builtin .append, args := #[s, x], argTypes := #[t, t] }) {v u v' : Value} {w' : World} (hs : a.eval s = v) (hx : a.eval x = u)
    (hr : (Builtin.append_ #[t, t] o.type #[v, u]).run Tryd.prog w = .ok v' w') (h : K (a.put o.dst v') w') : o.wp Tryd.prog a w K Q := by
  unfold Oper.wp execOp
  simp only [ho, resolve, invoke, builtin, Sem.run_bind, Sem.run_pure, Result.andThen_ok, List.map_toArray, List.map_cons, List.map_nil, hs, hx, hr]
  exact h
theorem wpList_appR {ops : Array Oper} {rest : List Oper} {o : Oper} {a : Act} {Q : Exit → Act → World → Prop} (w : World) (hgd : o.guard = none) (s x : Operand) (t : TypeId)
    (ho : o.op = .call { callee := .builtin .append, args := #[s, x], argTypes := #[t, t] }) {v u v' : Value} {w' : World} (hs : a.eval s = v) (hx : a.eval x = u)
    (hr : (Builtin.append_ #[t, t] o.type #[v, u]).run Tryd.prog w = .ok v' w') (h : wpList Tryd.prog ops Q rest (a.put o.dst v') w') : wpList Tryd.prog ops Q (o :: rest) a w :=
  wpList_plain hgd fun _ hK => wp_appR w s x t ho hs hx hr (hK _ _ h)
theorem row_unique {w : World} {base base' : Nat} {e : TypeId} {size : Nat} {v : Value} {n : Nat} {xs ys : List Value} (h : w.ownsRow base e size v n xs) (h' : w.ownsRow base' e size v n ys) : xs = ys := by
  rcases h with ⟨l, ⟨rfl, rfl⟩ | ⟨g, cap, cur, rfl, _, hg, _, _, _, ht⟩⟩
  · have l' := h'.1
    simp at l l'
    rw [l, l']
  · rcases h' with ⟨_, ⟨h0, _⟩ | ⟨g', cap', cur', e', _, hg', _, _, _, ht'⟩⟩
    · cases h0
    · simp only [Value.slice.injEq, Option.some.injEq, Addr.mk.injEq] at e'
      obtain ⟨⟨rfl, _⟩, _⟩ := e'
      rw [hg] at hg'
      obtain rfl : cur = cur' := by simpa using hg'
      rw [← ht, ht']
end Go.Proofs.YtohlefnljgkdcabDoor
namespace Go.Proofs.YtohlefnljgkdcabDoor
open Go.RowKit
theorem infoFrame : (Tryd.prog.info? 76).map (fun i => (i.zero, i.size, i.bytes)) = some (some (.agg #[.int .i64 0, .int .i64 0, .slice none 0 0, .slice none 0 0]), 4, 64) := by kernel_rfl
theorem infoFiber : (Tryd.prog.info? 79).map (fun i => (i.zero, i.size, i.bytes)) = some (some (.agg #[.slice none 0 0, .int .i64 0]), 2, 32) := by kernel_rfl
theorem at_block (B j : Nat) : (⟨B, 0, none⟩ : Addr).add j = ⟨B, j, none⟩ := by unfold Addr.add; split <;> simp_all
theorem row_block {w : World} {base B : Nat} {l : List Int} (hb : base ≤ B) (hB : w.heap[B]? = some (.cells (ints l).toArray 3)) (hl : l.length ≤ 1000) : w.ownsRow base 3 1 (.slice (some ⟨B, 0, none⟩) l.length l.length) l.length (ints l) :=
  ⟨by simp [ints_len], .inr ⟨B, l.length, (ints l).toArray, rfl, hb, hB, Nat.le_refl _, by unfold maxLen; omega, by simp [ints_len], List.take_of_length_le (by simp [ints_len])⟩⟩
theorem frame_comes {base bs : Nat} {V : Key → Value} {s : St} {u : World} (h : OwnVar base u bs V s) {i gF capF BL B : Nat} (hi : i < s.fibers.length) (hF : V .fibers = .slice (some ⟨gF, 0, none⟩) s.fibers.length capF)
    (hfr : (fibAt s i).frames.length ≤ 1000) (f : Fr) (hst : f.stack = []) (hlo : f.locals.length ≤ 1000) (hBL : u.heap[BL]? = some (.cells (ints f.locals).toArray 3)) (hoff : Own.off V s BL) (hlow : base ≤ BL) (hbsL : bs ≠ BL)
    (hB : u.heap[B]? = some (.cells #[.int .i64 f.fn, .int .i64 f.at_, .slice (some ⟨BL, 0, none⟩) f.locals.length f.locals.length, .slice none 0 0] 76)) :
    ∃ v' w' V', (Builtin.append_ #[77, 77] 77 #[V (.frames i), .slice (some ⟨B, 0, none⟩) 1 1]).run Tryd.prog u = .ok v' w' ∧
      (∃ o c, v' = .slice o ((fibAt s i).frames.length + 1) c) ∧ OwnVar base (w'.setCell ⟨gF, i * 2, none⟩ v') bs V' (setFib s i { fibAt s i with frames := (fibAt s i).frames ++ [f] }) ∧ u.grownBy w' (V (.frames i)).ownBlock ∧
      ∀ k b, live (setFib s i { fibAt s i with frames := (fibAt s i).frames ++ [f] }) k → (V' k).ownBlock = some b → (∃ k', live s k' ∧ (V k').ownBlock = some b) ∨ b = BL ∨ b = u.heap.size := by
  obtain ⟨i0, hi0, hz0, hz1, hz2⟩ := info_parts infoFrame
  have hbw : bs < u.heap.size := lt_of_block h.var
  have hbase : base ≤ u.heap.size := by have := h.low; omega
  have hlB : BL < u.heap.size := (Array.getElem?_eq_some_iff.1 hBL).1
  obtain ⟨xs, hrow, _⟩ := h.own.piece (.frames i) hi
  obtain ⟨v', w', hrun, hown', hgrow, _, hat⟩ := run_append_own_at (P := Tryd.prog) u base 77 77 76 i0 _ 4 64 Tryd.underlying77 hi0 hz0 hz1 hz2 rfl (by decide) _ _ xs hrow ⟨B, 0, none⟩ 1 1
    [.int .i64 f.fn, .int .i64 f.at_, .slice (some ⟨BL, 0, none⟩) f.locals.length f.locals.length, .slice none 0 0] rfl (fun j x hj => by
      rw [at_block, cell_lays hB]
      simpa using hj) (by intro x hx; simp only [List.mem_cons, List.not_mem_nil, or_false] at hx; rcases hx with rfl | rfl | rfl | rfl <;> rfl) (by unfold maxLen; omega) (by omega) (by omega)
  have hFb : (V .fibers).ownBlock = some gF := by rw [hF]; rfl
  have hloc : w'.ownsRow base 3 1 (.slice (some ⟨BL, 0, none⟩) f.locals.length f.locals.length) f.locals.length (ints f.locals) :=
    row_block hlow ((hgrow.block BL hlB (fun e => hoff (.frames i) hi e.symm)).trans hBL) hlo
  have hadd := h.own.addFrame hi hF f (.slice (some ⟨BL, 0, none⟩) f.locals.length f.locals.length) v' hst (gl := BL) (.inr rfl) hoff hlB hloc (fun b hb hne => hgrow.block b hb (fun e => hne e.symm)) (fun ys hy => by
    rw [row_unique hy hrow]; exact hown') hat
  have hblk : ∀ k b, live (setFib s i { fibAt s i with frames := (fibAt s i).frames ++ [f] }) k → (upd (upd (upd V (.frames i) v') (.locals i (fibAt s i).frames.length) (.slice (some ⟨BL, 0, none⟩) f.locals.length f.locals.length)) (.stack i (fibAt s i).frames.length) (.slice none 0 0) k).ownBlock = some b → (∃ k', live s k' ∧ (V k').ownBlock = some b) ∨ b = BL ∨ b = u.heap.size := by
    intro k b hk e
    by_cases e1 : k = .stack i (fibAt s i).frames.length
    · rw [e1, upd_same] at e; cases e
    rw [upd_ne _ _ e1] at e
    by_cases e2 : k = .locals i (fibAt s i).frames.length
    · rw [e2, upd_same] at e; exact .inr (.inl (Option.some.inj e).symm)
    rw [upd_ne _ _ e2] at e
    by_cases e3 : k = .frames i
    · rw [e3, upd_same] at e
      rcases hat with h1 | h1
      · rw [h1] at e; exact .inl ⟨.frames i, hi, e⟩
      · rw [h1] at e; exact .inr (.inr (Option.some.inj e).symm)
    rw [upd_ne _ _ e3] at e
    refine .inl ⟨k, ?_, e⟩
    have hl := setFib_len s i { fibAt s i with frames := (fibAt s i).frames ++ [f] }
    have hfs : fibAt (setFib s i { fibAt s i with frames := (fibAt s i).frames ++ [f] }) i = { fibAt s i with frames := (fibAt s i).frames ++ [f] } := fibAt_same _ hi
    have hq : ∀ t q, q ≠ (fibAt s i).frames.length ∨ t ≠ i → t < s.fibers.length → q < (fibAt (setFib s i { fibAt s i with frames := (fibAt s i).frames ++ [f] }) t).frames.length → q < (fibAt s t).frames.length := fun t q hne _ hq => by
      by_cases e : i = t
      · subst e
        rw [hfs] at hq
        simp only [List.length_append, List.length_cons, List.length_nil] at hq
        rcases hne with h1 | h1 <;> omega
      · rwa [fibAt_ne _ e] at hq
    cases k using Key.by with
    | fibers => trivial
    | out => trivial
    | frames t => simpa only [live, hl] using hk
    | locals t q =>
      simp only [live, hl] at hk
      refine ⟨hk.1, hq t q ?_ hk.1 hk.2⟩
      by_cases et : t = i
      · subst et; exact .inl fun e => e2 (by rw [e])
      · exact .inr et
    | stack t q =>
      simp only [live, hl] at hk
      refine ⟨hk.1, hq t q ?_ hk.1 hk.2⟩
      by_cases et : t = i
      · subst et; exact .inl fun e => e1 (by rw [e])
      · exact .inr et
  refine ⟨v', w', _, hrun, ?_, h.turn hadd ?_ ?_ ?_ rfl ?_, hgrow, hblk⟩
  · obtain ⟨o, c, e, _⟩ := row_slice hown'
    exact ⟨o, c, e⟩
  · rw [Below.heap_setCell _ _ _ _ (fun e => h.off .fibers trivial (by rw [hFb, e]))]
    exact hgrow.block bs hbw (fun e => h.off (.frames i) hi e.symm)
  · rw [upd_ne _ _ (by simp), upd_ne _ _ (by simp), upd_ne _ _ (by simp)]
  · rw [upd_ne _ _ (by simp), upd_ne _ _ (by simp), upd_ne _ _ (by simp)]
  · intro k hk e
    rcases hblk k bs hk e with ⟨k', hk', e'⟩ | e' | e'
    · exact h.off k' hk' e'
    · exact hbsL e'
    · omega
theorem fiber_comes {base bs : Nat} {V : Key → Value} {s : St} {u : World} (h : OwnVar base u bs V s) {BL BF B : Nat} (hfr : s.fibers.length ≤ 1000) (f : Fr) (c : Int) (hst : f.stack = []) (hlo : f.locals.length ≤ 1000)
    (hBL : u.heap[BL]? = some (.cells (ints f.locals).toArray 3)) (hoff : Own.off V s BL) (hlow : base ≤ BL) (hbsL : bs ≠ BL)
    (hBF : u.heap[BF]? = some (.cells #[.int .i64 f.fn, .int .i64 f.at_, .slice (some ⟨BL, 0, none⟩) f.locals.length f.locals.length, .slice none 0 0] 76)) (hoffF : Own.off V s BF) (hlowF : base ≤ BF) (hbsF : bs ≠ BF) (hne : BL ≠ BF)
    (hB : u.heap[B]? = some (.cells #[.slice (some ⟨BF, 0, none⟩) 1 1, .int .i64 c] 79)) :
    ∃ v' w' V', (Builtin.append_ #[52, 52] 52 #[V .fibers, .slice (some ⟨B, 0, none⟩) 1 1]).run Tryd.prog u = .ok v' w' ∧
      (∃ o q, v' = .slice o (s.fibers.length + 1) q) ∧ OwnVar base (w'.setCell ⟨bs, 0, none⟩ v') bs V' { s with fibers := s.fibers ++ [⟨[f], c⟩] } ∧ u.grownBy w' (V .fibers).ownBlock ∧
      ∀ k b, live { s with fibers := s.fibers ++ [⟨[f], c⟩] } k → (V' k).ownBlock = some b → (∃ k', live s k' ∧ (V k').ownBlock = some b) ∨ b = BL ∨ b = BF ∨ b = u.heap.size := by
  obtain ⟨i0, hi0, hz0, hz1, hz2⟩ := info_parts infoFiber
  have hbw : bs < u.heap.size := lt_of_block h.var
  have hbase : base ≤ u.heap.size := by have := h.low; omega
  have hlB : BL < u.heap.size := (Array.getElem?_eq_some_iff.1 hBL).1
  have hlF : BF < u.heap.size := (Array.getElem?_eq_some_iff.1 hBF).1
  obtain ⟨xs, hrow, _⟩ := h.own.piece .fibers trivial
  obtain ⟨v', w', hrun, hown', hgrow, _, hat⟩ := run_append_own_at (P := Tryd.prog) u base 52 52 79 i0 _ 2 32 Tryd.underlying52 hi0 hz0 hz1 hz2 rfl (by decide) _ _ xs hrow ⟨B, 0, none⟩ 1 1
    [.slice (some ⟨BF, 0, none⟩) 1 1, .int .i64 c] rfl (fun j x hj => by
      rw [at_block, cell_lays hB]
      simpa using hj) (by intro x hx; simp only [List.mem_cons, List.not_mem_nil, or_false] at hx; rcases hx with rfl | rfl <;> rfl) (by unfold maxLen; omega) (by omega) (by omega)
  have hloc : w'.ownsRow base 3 1 (.slice (some ⟨BL, 0, none⟩) f.locals.length f.locals.length) f.locals.length (ints f.locals) :=
    row_block hlow ((hgrow.block BL hlB (fun e => hoff .fibers trivial e.symm)).trans hBL) hlo
  have hfrw : w'.ownsRow base 76 4 (.slice (some ⟨BF, 0, none⟩) 1 1) 1 [.int .i64 f.fn, .int .i64 f.at_, .slice (some ⟨BL, 0, none⟩) f.locals.length f.locals.length, .slice none 0 0] :=
    ⟨rfl, .inr ⟨BF, 1, #[.int .i64 f.fn, .int .i64 f.at_, .slice (some ⟨BL, 0, none⟩) f.locals.length f.locals.length, .slice none 0 0], rfl, hlowF, (hgrow.block BF hlF (fun e => hoffF .fibers trivial e.symm)).trans hBF, by omega, by decide, rfl, rfl⟩⟩
  have hadd := h.own.addFiber f c (.slice (some ⟨BL, 0, none⟩) f.locals.length f.locals.length) (.slice (some ⟨BF, 0, none⟩) 1 1) v' hst (gl := BL) (gf := BF) (.inr rfl) rfl hne hoff hoffF hlB hlF hloc hfrw
    (fun b hb hne => hgrow.block b hb (fun e => hne e.symm)) (fun ys hy => by rw [row_unique hy hrow]; exact hown') hat
  have hblk : ∀ k b, live { s with fibers := s.fibers ++ [⟨[f], c⟩] } k → (upd (upd (upd (upd V .fibers v') (.frames s.fibers.length) (.slice (some ⟨BF, 0, none⟩) 1 1)) (.locals s.fibers.length 0) (.slice (some ⟨BL, 0, none⟩) f.locals.length f.locals.length)) (.stack s.fibers.length 0) (.slice none 0 0) k).ownBlock = some b → (∃ k', live s k' ∧ (V k').ownBlock = some b) ∨ b = BL ∨ b = BF ∨ b = u.heap.size := by
    intro k b hk e
    by_cases e1 : k = .stack s.fibers.length 0
    · rw [e1, upd_same] at e; cases e
    rw [upd_ne _ _ e1] at e
    by_cases e2 : k = .locals s.fibers.length 0
    · rw [e2, upd_same] at e; exact .inr (.inl (Option.some.inj e).symm)
    rw [upd_ne _ _ e2] at e
    by_cases e3 : k = .frames s.fibers.length
    · rw [e3, upd_same] at e; exact .inr (.inr (.inl (Option.some.inj e).symm))
    rw [upd_ne _ _ e3] at e
    by_cases e4 : k = .fibers
    · rw [e4, upd_same] at e
      rcases hat with h1 | h1
      · rw [h1] at e; exact .inl ⟨.fibers, trivial, e⟩
      · rw [h1] at e; exact .inr (.inr (.inr (Option.some.inj e).symm))
    rw [upd_ne _ _ e4] at e
    refine .inl ⟨k, ?_, e⟩
    have hfo : ∀ t, t < s.fibers.length → fibAt { s with fibers := s.fibers ++ [⟨[f], c⟩] } t = fibAt s t := fun t ht => getD_append_left _ _ _ _ ht
    have hfn : fibAt { s with fibers := s.fibers ++ [⟨[f], c⟩] } s.fibers.length = ⟨[f], c⟩ := getD_append_len _ _ _
    have hq : ∀ t q, ¬ (t = s.fibers.length ∧ q = 0) → t < s.fibers.length + 1 → q < (fibAt { s with fibers := s.fibers ++ [⟨[f], c⟩] } t).frames.length → t < s.fibers.length ∧ q < (fibAt s t).frames.length := fun t q hn ht hq => by
      by_cases et : t = s.fibers.length
      · rw [et, hfn] at hq
        simp only [List.length_cons, List.length_nil] at hq
        exact absurd ⟨et, by omega⟩ hn
      · rw [hfo t (by omega)] at hq; exact ⟨by omega, hq⟩
    cases k using Key.by with
    | fibers => trivial
    | out => trivial
    | frames t =>
      simp only [live, List.length_append, List.length_cons, List.length_nil] at hk ⊢
      have : t ≠ s.fibers.length := fun e => e3 (by rw [e])
      omega
    | locals t q =>
      simp only [live, List.length_append, List.length_cons, List.length_nil] at hk ⊢
      exact hq t q (fun ⟨h1, h2⟩ => e2 (by rw [h1, h2])) hk.1 hk.2
    | stack t q =>
      simp only [live, List.length_append, List.length_cons, List.length_nil] at hk ⊢
      exact hq t q (fun ⟨h1, h2⟩ => e1 (by rw [h1, h2])) hk.1 hk.2
  have hoff' : Own.off (upd (upd (upd (upd V .fibers v') (.frames s.fibers.length) (.slice (some ⟨BF, 0, none⟩) 1 1)) (.locals s.fibers.length 0) (.slice (some ⟨BL, 0, none⟩) f.locals.length f.locals.length)) (.stack s.fibers.length 0) (.slice none 0 0)) { s with fibers := s.fibers ++ [⟨[f], c⟩] } bs := by
    intro k hk e
    rcases hblk k bs hk e with ⟨k', hk', e'⟩ | e' | e' | e'
    · exact h.off k' hk' e'
    · exact hbsL e'
    · exact hbsF e'
    · omega
  have hv : w'.heap[bs]? = some (.cells #[V .fibers, .int .i64 s.now, V .out] 54) := (hgrow.block bs hbw (fun e => h.off .fibers trivial e.symm)).trans h.var
  refine ⟨v', w', _, hrun, ?_, ⟨?_, hadd.setOff (a := ⟨bs, 0, none⟩) hoff' v', hoff', h.low⟩, hgrow, hblk⟩
  · obtain ⟨o, q, e, _⟩ := row_slice hown'
    exact ⟨o, q, e⟩
  · rw [lays_set hv 0 v', upd_ne _ _ (by simp), upd_ne _ _ (by simp), upd_ne _ _ (by simp), upd_same, upd_ne _ _ (by simp), upd_ne _ _ (by simp), upd_ne _ _ (by simp), upd_ne _ _ (by simp)]
    rfl
end Go.Proofs.YtohlefnljgkdcabDoor
namespace Go.Proofs.YtohlefnljgkdcabDoor
open Go.RowKit
theorem frame_added (base bs : Nat) (V : Key → Value) (s : St) (i gF capF BL lo : Nat) (w : World) (h : OwnVar base w bs V s) (hi : i < s.fibers.length) (hF : V .fibers = .slice (some ⟨gF, 0, none⟩) s.fibers.length capF)
    (hfr : (fibAt s i).frames.length ≤ 1000) (f : Fr) (hst : f.stack = []) (hlen : f.locals.length = lo) (hlo : lo ≤ 1000) (hBL : w.heap[BL]? = some (.cells (ints f.locals).toArray 3)) (hoff : Own.off V s BL) (hlow : base ≤ BL) (hbsL : bs ≠ BL) :
    ∃ v' w', (Builtin.append_ #[77, 77] 77 #[V (.frames i), .slice (some ⟨w.heap.size, 0, none⟩) 1 1]).run Tryd.prog (w.alloc (.cells #[.int .i64 f.fn, .int .i64 f.at_, .slice (some ⟨BL, 0, none⟩) lo lo, .slice none 0 0] 76)).drew = .ok v' w' ∧
      (∃ o c, v' = .slice o ((fibAt s i).frames.length + 1) c) ∧ (∃ V', OwnVar base (w'.setCell ⟨gF, i * 2, none⟩ v') bs V' (setFib s i { fibAt s i with frames := (fibAt s i).frames ++ [f] })) ∧ Below base w w' ∧
      (∀ b, b < w.heap.size → (V (.frames i)).ownBlock ≠ some b → w'.heap[b]? = w.heap[b]?) := by
  subst hlen
  have hku : Kept w (w.alloc (.cells #[.int .i64 f.fn, .int .i64 f.at_, .slice (some ⟨BL, 0, none⟩) f.locals.length f.locals.length, .slice none 0 0] 76)).drew := ((Kept.refl w).alloc _).drew
  have hu := h.kept hku
  obtain ⟨v', w', V', h1, h2, h3, h4, _⟩ := frame_comes hu hi hF hfr f hst hlo (lays_drew (lays_alloc hBL _)) hoff hlow hbsL (lays_drew (lays_new rfl))
  exact ⟨v', w', h1, h2, ⟨V', h3⟩, Below.grown (h.below hku) h4 (by have := h.low; have := lt_of_block hu.var; omega) (fun r hr => ((hu.own.piece (.frames i) hi).block r hr).1), fun b hb hne => (h4.block b (Nat.lt_of_lt_of_le hb hku.size) (fun e => hne e.symm)).trans (hku.block b hb)⟩
end Go.Proofs.YtohlefnljgkdcabDoor
namespace Go.Proofs.YtohlefnljgkdcabDoor
open Go.RowKit
set_option maxHeartbeats 8000000 in
set_option maxRecDepth 100000 in
theorem called_any (base bs : Nat) (V : Key → Value) (s : St) (i fi n cp bp op a lo : Nat) (w : World) (h : OwnVar base w bs V s) (hn : s.now = i) (hr : Runs s i)
  (hpc : ∀ u, Below base w u → u.cell? ⟨bp, op + fi * 3, none⟩ = some (.int .i64 a) ∧ u.cell? ⟨bp, op + fi * 3 + 1, none⟩ = some (.int .i64 lo)) (hfi : fi < n) (hal : a ≤ lo) (hlo : lo ≤ 1000) (hst : a ≤ (frAt s i ((fibAt s i).frames.length - 1)).stack.length) (hf6 : (fibAt s i).frames.length ≤ 6) (R : St × Int)
  (hR : (if (fibAt s i).frames.length = 6 then (St.zero, (2 : Int)) else (setFib (takeTop s i a) i { fibAt (takeTop s i a) i with frames := (fibAt (takeTop s i a) i).frames ++ [⟨fi, 0, (frAt s i ((fibAt s i).frames.length - 1)).stack.drop ((frAt s i ((fibAt s i).frames.length - 1)).stack.length - a) ++ List.replicate (lo - ((frAt s i ((fibAt s i).frames.length - 1)).stack.drop ((frAt s i ((fibAt s i).frames.length - 1)).stack.length - a)).length) 0, []⟩] }, 0)) = R) :
  Calls Tryd.prog 126 #[.slice (some ⟨bp, op, none⟩) n cp, .pointer (some ⟨bs, 0, none⟩), .int .i64 fi] w fun e w' => EndPost base bs R w e w' := by
 have hmk := make_ints lo (by omega)
 have hbw := lt_of_block h.var
 have hlow := h.low
 obtain ⟨p0, p1⟩ := hpc w (Below.refl _ _)
 have hlp := cell_lt p0
 simp only at hlp
 have HO := hide h
 have HR := hide hR
 have HRU := hide hr
 have HPC := hide hpc
 have hf1 : (fi : Int) < (n : Int) := by omega
 have hf0 : (0 : Int) ≤ (fi : Int) := by omega
 have hwa : IntKind.i64.wrap ((a : Int) - 1) = (a : Int) - 1 := by rw [IntKind.wrap_i64]; omega
 clear h hR hpc
 go_enter Tryd.func126, Tryd.ntmps126
 go_wp2
 have hrep : Array.replicate lo (Value.int .i64 0) = (ints (filled (frAt s i ((fibAt s i).frames.length - 1)).stack a lo 0)).toArray := by rw [filled_zero]; simp [ints]
 rw [hrep]
 generalize hw1 : (w.alloc (.cells (ints (filled (frAt s i ((fibAt s i).frames.length - 1)).stack a lo 0)).toArray 3)).alloc (.cells #[.int .i64 fi, .int .i64 0, .slice (some ⟨w.heap.size, 0, none⟩) lo lo, .slice none 0 0] 76) = w1 at *
 generalize hBL : w.heap.size = BL at *
 generalize hBX : BL + 1 = BX at *
 have L0 : w1.heap[BL]? = some (.cells (ints (filled (frAt s i ((fibAt s i).frames.length - 1)).stack a lo 0)).toArray 3) := by rw [← hw1]; exact lays_alloc (lays_new hBL) _
 have L1 : w1.heap[BX]? = some (.cells #[.int .i64 fi, .int .i64 0, .slice (some ⟨BL, 0, none⟩) lo lo, .slice none 0 0] 76) := by rw [← hw1]; exact lays_new (by simp [hBL, hBX])
 have ho1 : OwnVar base w1 bs V s := by rw [← hw1]; exact ((unhide HO).alloc _).alloc _
 have hb1 : Below base w w1 := by rw [← hw1]; exact Below.alloc (Below.alloc (Below.refl _ w) (by omega) _) (by simp; omega) _
 have hoffL : Own.off V s BL := (unhide HO).own.new_off (.inl (by omega))
 have HOL := hide hoffL
 have HL0 := hide L0
 have HL1 := hide L1
 have HO1 := hide ho1
 have HB1 := hide hb1
 have HBW : Hid (w.heap.size = BL ∧ BX = BL + 1) := hide ⟨hBL, hBX.symm⟩
 generalize hst' : (frAt s i ((fibAt s i).frames.length - 1)).stack = l at *
 have HST := hide hst'
 clear hw1 L0 L1 ho1 hb1 hoffL hrep hBL hBX hst' p0 p1 hlp
 go_loopw [8] (fun s8 wr => ∃ (t : Nat) (V' : Key → Value), t ≤ a ∧ s8 = .int .i64 ((a : Int) - 1 - t) ∧ Hid (OwnVar base wr bs V' (takeTop s i t)) ∧ Hid (V' (.frames i) = V (.frames i)) ∧ Hid (∀ k, (V' k).ownBlock = (V k).ownBlock) ∧ Hid (wr.heap[BL]? = some (.cells (ints (filled l a lo t)).toArray 3)) ∧ Hid (wr.heap[BX]? = some (.cells #[.int .i64 fi, .int .i64 0, .slice (some ⟨BL, 0, none⟩) lo lo, .slice none 0 0] 76)) ∧ Hid (Below base w wr)) (fun s8 _ => (intOf s8 + 1).toNat)
 case atStart => exact ⟨0, V, Nat.zero_le _, by simp, hide (by rw [takeTop_zero (unhide HRU)]; exact unhide HO1), rfl, hide (fun _ => rfl), HL0, HL1, HB1⟩
 case round =>
  obtain ⟨t, V2, hta, rfl, HO2, HVF, HVB, HL2, HX2, HB2⟩ := hrel
  obtain ⟨g, cap, eg, _⟩ := (unhide HO).own.fr (i := i) (j := 0) (unhide HRU).lt (unhide HRU).fr
  have hgw : g < w.heap.size := (((unhide HO).own.piece (.frames i) (unhide HRU).lt).block g (by rw [eg]; rfl)).2
  have hgL : g ≠ BL ∧ g ≠ BX := by have := unhide HBW; omega
  have hVg : (V2 (.frames i)).ownBlock = some g := by rw [unhide HVF, eg]; rfl
  have HGL := hide hgL
  have HVG := hide hVg
  obtain ⟨f1, f2, f3, f4, f5, f6⟩ := takeTop_facts (unhide HRU) t
  clear hgL hVg eg hgw
  by_cases hlt : t < a
  ·obtain ⟨k, hk⟩ : ∃ k : Nat, (a : Int) - 1 - t = k := ⟨a - 1 - t, by omega⟩
   have hka : k = a - 1 - t := by omega
   have hkl : k < lo := by omega
   obtain ⟨hpt, hlv⟩ := pull_take hn (unhide HRU) (t := t) (by rw [unhide HST]; omega)
   have hpull := fun (u : World) (hu : u.heap = wr.heap) => pull_sharp base bs V2 (takeTop s i t) i u ((unhide HO2).same hu) (by rw [f2]; exact hn) f6.lt f6.fr f6.frs f6.st (by rw [f4, f5, List.length_take, unhide HST]; omega)
   rw [hpt, hlv, unhide HST] at hpull
   have HPU := hide hpull
   have x2 : wr.cell? ⟨BX, 2, none⟩ = some (.slice (some ⟨BL, 0, none⟩) lo lo) := cell_at (unhide HX2) rfl
   have HX := hide x2
   have hk1 : (k : Int) < (lo : Int) := by omega
   have hkz : (0 : Int) ≤ (k : Int) := by omega
   have hwk : IntKind.i64.wrap ((k : Int) - 1) = (k : Int) - 1 := by rw [IntKind.wrap_i64]; omega
   have hfs := filled_step l (a := a) (lo := lo) (t := t) hlt (by rw [← unhide HST]; rw [unhide HST]; exact hst)
   rw [← hka] at hfs
   have HFS := hide hfs
   generalize hz : l.getD (l.length - t - 1) 0 = z at *
   rw [hk]
   have HKA := hide hka
   have HHK := hide hk
   clear hpull hpt hlv x2 hfs f1 f2 f3 f4 f5 f6 hz hka hk
   go_wp2_with fail
   go_region_held3 (fun u => u.cell? ⟨BX, 2, none⟩ = some (.slice (some ⟨BL, 0, none⟩) lo lo))
    (first | exact (cell_other (cell_at hXA rfl) (by have := unhide HBW; omega) _) | exact cell_at hXA rfl | exact unhide HX)
    (first | (go_at_call 125; refine ((unhide HPU) wr.drew rfl).mono ?_; rintro e wA ⟨rfl, VA, hoA, hbA, hvfA, hvbA, hheap⟩; have hXA : wA.heap[BX]? = _ := (hheap BX (by rw [unhide HVG]; intro e; exact (unhide HGL).2 (by cases e; rfl))).trans (unhide HX2); have hLA : wA.heap[BL]? = _ := (hheap BL (by rw [unhide HVG]; intro e; exact (unhide HGL).1 (by cases e; rfl))).trans (unhide HL2); have yk : wA.cell? ⟨BL, k, none⟩ = some (.int .i64 ((filled l a lo t).getD k 0)) := cell_at hLA (ints_arr (getD_of_lt _ _ 0 (by rw [filled_len]; exact hkl))); have zk := frozen_lays hLA k))
   all_goals go_wp2_with fail
   have hoff : Own.off VA (takeTop s i (t + 1)) BL := fun kk hkk e => by
    rw [hvbA, unhide HVB] at e
    exact (unhide HOL) kk ((setFr_live _ (unhide HRU).lt kk).1 hkk) e
   have hbsL : bs ≠ BL := by have := unhide HBW; omega
   refine ⟨⟨t + 1, VA, by omega, by have := unhide HHK; congr 1; omega, hide (hoA.setOff hoff hbsL _), hide (hvfA.trans (unhide HVF)), hide (fun kk => (hvbA kk).trans ((unhide HVB) kk)), hide ?_, hide ?_, hide ?_⟩, ?_⟩
   ·have := lays_set hLA k (.int .i64 z)
    rw [this, ← unhide HFS]
    simp [ints, List.map_set]
   ·rw [Below.heap_setCell _ _ _ _ (by have := unhide HBW; simp only; omega)]
    exact hXA
   ·exact Below.setCell (Below.trans (unhide HB2) (Below.trans (Below.drew (Below.refl _ wr)) hbA)) (by have := unhide HBW; simp only; omega) _
   ·simp only [intOf]; omega
  ·obtain rfl : t = a := by omega
   obtain ⟨c0, c1, _, fz⟩ := (unhide HO2).cells
   obtain ⟨gF, capF, eF, _, k0, k1, fzF, hbF⟩ := (unhide HO2).own.fib (i := i) f6.lt
   obtain ⟨g', cap', eg', hcap, _⟩ := (unhide HO2).own.fr (i := i) (j := 0) f6.lt f6.fr
   rw [eF, f1] at c0
   rw [f2, hn] at c1
   rw [eg', f4] at k0
   have hi1 : (i : Int) < (s.fibers.length : Int) := by have := (unhide HRU).lt; omega
   have hi0 : (0 : Int) ≤ (i : Int) := by omega
   have hge : decide ((0 : Int) ≤ (t : Int) - 1 - (t : Int)) = false := decide_eq_false (by omega)
   have hR := unhide HR
   generalize hq : (fibAt s i).frames.length = q at *
   have HQ := hide hq
   by_cases h6 : q = 6
   ·subst h6
    rw [if_pos rfl] at hR
    subst hR
    go_wp2
    go_quiet (fail)
    go_wp2
    go_ret
    exact ⟨rfl, below_drewN (unhide HB2) _, fun e => by cases e⟩
   ·rw [if_neg h6] at hR
    have hb6 : ((q : Int) == 6) = false := by rw [beq_eq_false_iff_ne]; omega
    have HR2 := hide hR
    clear hR
    go_wp2
    go_quiet (fail)
    go_wp2
    generalize hw3 : wr.drewN nq = w3
    have hsm : w3.heap = wr.heap := by rw [← hw3]; rfl
    have ho3 : OwnVar base w3 bs V2 (takeTop s i t) := (unhide HO2).same hsm
    have hb3 : Below base w w3 := by rw [← hw3]; exact below_drewN (unhide HB2) nq
    have d0 : w3.cell? ⟨bs, 0, none⟩ = some (.slice (some ⟨gF, 0, none⟩) s.fibers.length capF) := by rw [← hw3]; exact c0
    have d1 : w3.cell? ⟨bs, 1, none⟩ = some (.int .i64 i) := by rw [← hw3]; exact c1
    have e0 : w3.cell? ⟨gF, i * 2, none⟩ = some (.slice (some ⟨g', 0, none⟩) q cap') := by rw [← hw3]; exact k0
    have LX : w3.heap[BX]? = some (.cells #[.int .i64 fi, .int .i64 0, .slice (some ⟨BL, 0, none⟩) lo lo, .slice none 0 0] 76) := by rw [hsm]; exact unhide HX2
    have x0 : w3.cell? ⟨BX, 0, none⟩ = some (.int .i64 fi) := cell_at LX rfl
    have x1 : w3.cell? ⟨BX, 1, none⟩ = some (.int .i64 0) := cell_at LX rfl
    have x2 : w3.cell? ⟨BX, 2, none⟩ = some (.slice (some ⟨BL, 0, none⟩) lo lo) := cell_at LX rfl
    have x3 : w3.cell? ⟨BX, 3, none⟩ = some (.slice none 0 0) := cell_at LX rfl
    clear hw3 c0 c1 k0 LX
    have HYS : Hid (∀ u, Kept w3 u → u.cell? ⟨bs, 0, none⟩ = some (.slice (some ⟨gF, 0, none⟩) s.fibers.length capF) ∧ u.cell? ⟨bs, 1, none⟩ = some (.int .i64 i) ∧ u.cell? ⟨BX, 0, none⟩ = some (.int .i64 fi) ∧ u.cell? ⟨BX, 1, none⟩ = some (.int .i64 0) ∧ u.cell? ⟨BX, 2, none⟩ = some (.slice (some ⟨BL, 0, none⟩) lo lo) ∧ u.cell? ⟨BX, 3, none⟩ = some (.slice none 0 0) ∧ u.cell? ⟨gF, i * 2, none⟩ = some (.slice (some ⟨g', 0, none⟩) q cap')) := hide (fun u hu => ⟨hu.cell d0, hu.cell d1, hu.cell x0, hu.cell x1, hu.cell x2, hu.cell x3, hu.cell e0⟩)
    have hoffL3 : Own.off V2 (takeTop s i t) BL := fun kk hkk e => by
     rw [unhide HVB] at e
     exact (unhide HOL) kk ((setFr_live _ (unhide HRU).lt kk).1 hkk) e
    have hF3 : V2 .fibers = .slice (some ⟨gF, 0, none⟩) (takeTop s i t).fibers.length capF := eF
    have hgb : (V2 (.frames i)).ownBlock = some g' := by rw [eg']; rfl
    have hg1 : g' ≠ bs := fun e => ho3.off (.frames i) f6.lt (by rw [hgb, e])
    have hg2 : g' ≠ gF := fun e => by have := ho3.own.apart (.frames i) .fibers gF f6.lt trivial (by rw [hgb, e]) (by rw [eF]; rfl); cases this
    have hgw : g < BL := by have := (((unhide HO).own.piece (.frames i) (unhide HRU).lt).block g (by rw [← unhide HVB]; exact unhide HVG)).2; have := unhide HBW; omega
    have hgg : g' = g := by have := unhide HVG; rw [hgb] at this; exact Option.some.inj this
    have hg3 : g' ≠ BX := by have := unhide HBW; omega
    have hlbs := cell_lt d0
    have hlBX := cell_lt x0
    have hlgF := cell_lt e0
    simp only at hlbs hlBX hlgF
    obtain ⟨v5, w5, hr5, ⟨o5, c5, rfl⟩, ho5, hb5, hk5⟩ := frame_added base bs V2 (takeTop s i t) i gF capF BL lo w3 ho3 f6.lt hF3 (by rw [f4]; omega) ⟨fi, 0, filled l t lo t, []⟩ rfl (filled_len _ _ _ _) hlo (by rw [hsm]; exact unhide HL2) hoffL3 (by have := unhide HBW; omega) (by have := unhide HBW; omega)
    rw [hgb] at hk5
    rw [f4] at ho5 hr5
    rw [eg', f4] at hr5
    dsimp only at hr5
    have HR5 := hide hr5
    have HO5 := hide ho5
    have HB5 := hide (Below.trans hb3 hb5)
    have sm : ∀ {b j : Nat} {vv : Value}, b < w3.heap.size → g' ≠ b → w3.cell? ⟨b, j, none⟩ = some vv → w5.cell? ⟨b, j, none⟩ = some vv := fun h1 h2 h3 => (World.cell?_of_block (w := w3) (hk5 _ h1 (fun e => h2 (Option.some.inj e)))).trans h3
    have HS5 : Hid (w5.cell? ⟨bs, 0, none⟩ = some (.slice (some ⟨gF, 0, none⟩) s.fibers.length capF) ∧ w5.cell? ⟨bs, 1, none⟩ = some (.int .i64 i) ∧ w5.cell? ⟨BX, 0, none⟩ = some (.int .i64 fi) ∧ w5.cell? ⟨BX, 1, none⟩ = some (.int .i64 0) ∧ w5.cell? ⟨BX, 2, none⟩ = some (.slice (some ⟨BL, 0, none⟩) lo lo) ∧ w5.cell? ⟨BX, 3, none⟩ = some (.slice none 0 0) ∧ w5.cell? ⟨gF, i * 2, none⟩ = some (.slice (some ⟨g', 0, none⟩) q cap')) := hide ⟨sm hlbs hg1 d0, sm hlbs hg1 d1, sm hlBX hg3 x0, sm hlBX hg3 x1, sm hlBX hg3 x2, sm hlBX hg3 x3, sm hlgF hg2 e0⟩
    have fz5 : w5.frozen? ⟨gF, i * 2, none⟩ = false := (World.frozen?_of_block (w := w3) (hk5 gF hlgF (fun e => hg2 (Option.some.inj e)))).trans ((World.frozen?_of_block (w := wr) (a := ⟨gF, i * 2, none⟩) (by rw [hsm])).trans (fzF _))
    have HFZ := hide fz5
    have HFA : Hid (filled l t lo t = l.drop (l.length - t) ++ List.replicate (lo - (l.drop (l.length - t)).length) 0) := hide (filled_all l hal hst)
    clear hsm
    clear hr5 ho5 hb5 hk5 sm fz5 hoffL3 hF3 hgb hg1 hg2 hg3 hgw hgg hlbs hlBX hlgF
    refine wp_regionT 24 (fun u => u.cell? ⟨bs, 0, none⟩ = some (.slice (some ⟨gF, 0, none⟩) s.fibers.length capF) ∧ u.cell? ⟨bs, 1, none⟩ = some (.int .i64 i) ∧ u.cell? ⟨BX, 0, none⟩ = some (.int .i64 fi) ∧ u.cell? ⟨BX, 1, none⟩ = some (.int .i64 0) ∧ u.cell? ⟨BX, 2, none⟩ = some (.slice (some ⟨BL, 0, none⟩) lo lo) ∧ u.cell? ⟨BX, 3, none⟩ = some (.slice none 0 0) ∧ u.cell? ⟨gF, i * 2, none⟩ = some (.slice (some ⟨g', 0, none⟩) q cap')) (by kernel_rfl) ?_
    have hHeld := (unhide HYS) _ (Kept.refl w3).drew
    refine takeT (i := 0) (v := ?_) rfl (by kernel_rfl) (by kernel_rfl) (by kernel_rfl) (by kernel_rfl) (fun _ _ _ h => h) (by rfl) (fun u hSu => ?_) hHeld ?_
    rotate_left
    ·((try dsimp only at hSu); go_simp) <;> with_reducible rfl
    simp only [Act.put, List.setIfInBounds_toArray, List.set_cons_zero, List.set_cons_succ]
    refine takeT (i := 1) (v := ?_) rfl (by kernel_rfl) (by kernel_rfl) (by kernel_rfl) (by kernel_rfl) (fun _ _ _ h => h) (by rfl) (fun u hSu => ?_) hHeld ?_
    rotate_left
    ·((try dsimp only at hSu); go_simp) <;> with_reducible rfl
    simp only [Act.put, List.setIfInBounds_toArray, List.set_cons_zero, List.set_cons_succ]
    refine takeT (i := 2) (v := ?_) rfl (by kernel_rfl) (by kernel_rfl) (by kernel_rfl) (by kernel_rfl) (fun _ _ _ h => h) (by rfl) (fun u hSu => ?_) hHeld ?_
    rotate_left
    ·((try dsimp only at hSu); go_simp) <;> with_reducible rfl
    simp only [Act.put, List.setIfInBounds_toArray, List.set_cons_zero, List.set_cons_succ]
    refine takeT (i := 3) (v := ?_) rfl (by kernel_rfl) (by kernel_rfl) (by kernel_rfl) (by kernel_rfl) (fun _ _ _ h => h) (by rfl) (fun u hSu => ?_) hHeld ?_
    rotate_left
    ·((try dsimp only at hSu); go_simp) <;> with_reducible rfl
    simp only [Act.put, List.setIfInBounds_toArray, List.set_cons_zero, List.set_cons_succ]
    refine takeT (i := 4) (v := ?_) rfl (by kernel_rfl) (by kernel_rfl) (by kernel_rfl) (by kernel_rfl) (fun _ _ _ h => h) (by rfl) (fun u hSu => ?_) hHeld ?_
    rotate_left
    ·((try dsimp only at hSu); go_simp) <;> with_reducible rfl
    simp only [Act.put, List.setIfInBounds_toArray, List.set_cons_zero, List.set_cons_succ]
    refine takeT (i := 5) (v := ?_) rfl (by kernel_rfl) (by kernel_rfl) (by kernel_rfl) (by kernel_rfl) (fun _ _ _ h => h) (by rfl) (fun u hSu => ?_) hHeld ?_
    rotate_left
    ·((try dsimp only at hSu); go_simp) <;> with_reducible rfl
    simp only [Act.put, List.setIfInBounds_toArray, List.set_cons_zero, List.set_cons_succ]
    refine takeT (i := 6) (v := ?_) rfl (by kernel_rfl) (by kernel_rfl) (by kernel_rfl) (by kernel_rfl) (fun _ _ _ h => h) (by rfl) (fun u hSu => ?_) hHeld ?_
    rotate_left
    ·((try dsimp only at hSu); go_simp) <;> with_reducible rfl
    simp only [Act.put, List.setIfInBounds_toArray, List.set_cons_zero, List.set_cons_succ]
    refine takeT (i := 7) (v := ?_) rfl (by kernel_rfl) (by kernel_rfl) (by kernel_rfl) (by kernel_rfl) (fun _ _ _ h => h) (by rfl) (fun u hSu => ?_) hHeld ?_
    rotate_left
    ·((try dsimp only at hSu); go_simp) <;> with_reducible rfl
    simp only [Act.put, List.setIfInBounds_toArray, List.set_cons_zero, List.set_cons_succ]
    refine takeT (i := 8) (v := ?_) rfl (by kernel_rfl) (by kernel_rfl) (by kernel_rfl) (by kernel_rfl) (fun _ _ _ h => h) (by rfl) (fun u hSu => ?_) hHeld ?_
    rotate_left
    ·((try dsimp only at hSu); go_simp) <;> with_reducible rfl
    simp only [Act.put, List.setIfInBounds_toArray, List.set_cons_zero, List.set_cons_succ]
    refine takeT (i := 9) (v := ?_) rfl (by kernel_rfl) (by kernel_rfl) (by kernel_rfl) (by kernel_rfl) (fun _ _ _ h => h) (by rfl) (fun u hSu => ?_) hHeld ?_
    rotate_left
    ·((try dsimp only at hSu); go_simp) <;> with_reducible rfl
    simp only [Act.put, List.setIfInBounds_toArray, List.set_cons_zero, List.set_cons_succ]
    refine takeT (i := 10) (v := ?_) rfl (by kernel_rfl) (by kernel_rfl) (by kernel_rfl) (by kernel_rfl) (fun _ _ _ h => h) (by rfl) (fun u hSu => ?_) hHeld ?_
    rotate_left
    ·((try dsimp only at hSu); go_simp) <;> with_reducible rfl
    simp only [Act.put, List.setIfInBounds_toArray, List.set_cons_zero, List.set_cons_succ]
    refine takeT (i := 11) (v := ?_) rfl (by kernel_rfl) (by kernel_rfl) (by kernel_rfl) (by kernel_rfl) (fun _ _ _ h => h) (by rfl) (fun u hSu => ?_) hHeld ?_
    rotate_left
    ·((try dsimp only at hSu); go_simp) <;> with_reducible rfl
    simp only [Act.put, List.setIfInBounds_toArray, List.set_cons_zero, List.set_cons_succ]
    refine takeT (i := 12) (v := ?_) rfl (by kernel_rfl) (by kernel_rfl) (by kernel_rfl) (by kernel_rfl) (fun _ _ _ h => h) (by rfl) (fun u hSu => ?_) hHeld ?_
    rotate_left
    ·((try dsimp only at hSu); go_simp) <;> with_reducible rfl
    simp only [Act.put, List.setIfInBounds_toArray, List.set_cons_zero, List.set_cons_succ]
    refine takeT (i := 13) (v := ?_) rfl (by kernel_rfl) (by kernel_rfl) (by kernel_rfl) (by kernel_rfl) (fun _ _ _ h => h) (by rfl) (fun u hSu => ?_) hHeld ?_
    rotate_left
    ·((try dsimp only at hSu); go_simp) <;> with_reducible rfl
    simp only [Act.put, List.setIfInBounds_toArray, List.set_cons_zero, List.set_cons_succ]
    refine takeT (i := 14) (v := ?_) rfl (by kernel_rfl) (by kernel_rfl) (by kernel_rfl) (by kernel_rfl) (fun _ _ _ h => h) (by rfl) (fun u hSu => ?_) hHeld ?_
    rotate_left
    ·((try dsimp only at hSu); go_simp) <;> with_reducible rfl
    simp only [Act.put, List.setIfInBounds_toArray, List.set_cons_zero, List.set_cons_succ]
    refine takeT (i := 15) (v := ?_) rfl (by kernel_rfl) (by kernel_rfl) (by kernel_rfl) (by kernel_rfl) (fun _ _ _ h => h) (by rfl) (fun u hSu => ?_) hHeld ?_
    rotate_left
    ·((try dsimp only at hSu); go_simp) <;> with_reducible rfl
    simp only [Act.put, List.setIfInBounds_toArray, List.set_cons_zero, List.set_cons_succ]
    refine takeT (i := 16) (v := ?_) rfl (by kernel_rfl) (by kernel_rfl) (by kernel_rfl) (by kernel_rfl) (fun _ _ _ h => h) (by rfl) (fun u hSu => ?_) hHeld ?_
    rotate_left
    ·((try dsimp only at hSu); go_simp) <;> with_reducible rfl
    simp only [Act.put, List.setIfInBounds_toArray, List.set_cons_zero, List.set_cons_succ]
    refine takeT (i := 17) (v := ?_) rfl (by kernel_rfl) (by kernel_rfl) (by kernel_rfl) (by kernel_rfl) (fun _ _ _ h => h) (by rfl) (fun u hSu => ?_) hHeld ?_
    rotate_left
    ·((try dsimp only at hSu); go_simp) <;> with_reducible rfl
    simp only [Act.put, List.setIfInBounds_toArray, List.set_cons_zero, List.set_cons_succ]
    refine takeT (i := 18) (v := ?_) rfl (by kernel_rfl) (by kernel_rfl) (by kernel_rfl) (by kernel_rfl) (fun _ _ _ h => h) (by rfl) (fun u hSu => ?_) hHeld ?_
    rotate_left
    ·((try dsimp only at hSu); go_simp) <;> with_reducible rfl
    simp only [Act.put, List.setIfInBounds_toArray, List.set_cons_zero, List.set_cons_succ]
    refine takeT (i := 19) (v := ?_) rfl (by kernel_rfl) (by kernel_rfl) (by kernel_rfl) (by kernel_rfl) (fun _ _ _ h => h) (by rfl) (fun u hSu => ?_) hHeld ?_
    rotate_left
    ·((try dsimp only at hSu); go_simp) <;> with_reducible rfl
    simp only [Act.put, List.setIfInBounds_toArray, List.set_cons_zero, List.set_cons_succ]
    refine takeT_one (i := 20) rfl (by kernel_rfl) (fun K hK => ?_)
    go_simp
    refine hK.out _ _ (fun _ => (unhide HYS) _ (((Kept.refl w3).alloc _).drew)) ?_
    clear hK K
    try simp only [Act.put, List.setIfInBounds_toArray, List.set_cons_zero, List.set_cons_succ]
    refine takeT_one (i := 21) rfl (by kernel_rfl) (fun K hK => ?_)
    rw [if_pos (by rfl)]
    refine wp_appR (v := .slice (some ⟨g', 0, none⟩) q cap') _ _ _ 77 rfl rfl rfl (unhide HR5) ?_
    refine hK.out _ _ (fun _ => unhide HS5) ?_
    clear hK K
    try simp only [Act.put, List.setIfInBounds_toArray, List.set_cons_zero, List.set_cons_succ]
    refine takeT_one (i := 22) rfl (by kernel_rfl) (fun K hK => ?_)
    go_simp
    refine hK.out _ _ (fun _ => unhide HS5) ?_
    clear hK K
    try simp only [Act.put, List.setIfInBounds_toArray, List.set_cons_zero, List.set_cons_succ]
    refine takeT_one (i := 23) rfl (by kernel_rfl) (fun K hK => ?_)
    go_simp
    refine hK.out _ _ (fun _ => unhide HS5) ?_
    clear hK K
    try simp only [Act.put, List.setIfInBounds_toArray, List.set_cons_zero, List.set_cons_succ]
    have g5 := (unhide HS5).2.2.2.2.2.2
    have fz5 := unhide HFZ
    refine takeT_one (i := 24) rfl (by kernel_rfl) (fun K hK => ?_)
    go_simp
    refine hK.out _ _ (fun h => absurd rfl h) ?_
    clear hK K
    refine takeT_done (by kernel_rfl) ?_ _
    clear g5 fz5
    go_wp2
    go_ret
    obtain ⟨V5, hov⟩ := unhide HO5
    refine ⟨?_, ?_, fun _ => ⟨V5, ?_⟩⟩
    ·rw [← unhide HR2]; rfl
    ·exact Below.setCell (unhide HB5) hbF _
    ·rw [← unhide HR2, ← unhide HFA]
     exact hov
end Go.Proofs.YtohlefnljgkdcabDoor
namespace Go.Proofs.YtohlefnljgkdcabDoor
open Go.RowKit
theorem truth_any (b : Bool) (w : World) : Calls Tryd.prog 132 #[.bool b] w fun e w' => e = .returned (.int .i64 (truthS b)) ∧ w = w' := by
  cases b with
  | true =>
    go_enter Tryd.func132, Tryd.ntmps132
    go_wp2
    go_ret
    exact ⟨rfl, rfl⟩
  | false =>
    go_enter Tryd.func132, Tryd.ntmps132
    go_wp2
    go_ret
    exact ⟨rfl, rfl⟩
set_option maxHeartbeats 1000000 in
theorem reckoned_any (kd a b : Int) (w : World) : Calls Tryd.prog 131 #[.int .i64 kd, .int .i64 a, .int .i64 b] w fun e w' => e = .returned (.int .i64 (reckonS kd a b)) ∧ w = w' := by
  unfold reckonS
  by_cases h4 : kd = 4
  · subst h4
    rw [if_pos rfl, ← wrap64_S]
    go_enter Tryd.func131, Tryd.ntmps131
    go_wp2
    go_ret
    exact ⟨rfl, rfl⟩
  rw [if_neg h4]
  have b4 : (kd == 4) = false := by rw [beq_eq_false_iff_ne]; exact h4
  clear h4
  by_cases h5 : kd = 5
  · subst h5
    rw [if_pos rfl, ← wrap64_S]
    go_enter Tryd.func131, Tryd.ntmps131
    go_wp2
    go_ret
    exact ⟨rfl, rfl⟩
  rw [if_neg h5]
  have b5 : (kd == 5) = false := by rw [beq_eq_false_iff_ne]; exact h5
  clear h5
  by_cases h6 : kd = 6
  · subst h6
    rw [if_pos rfl, ← wrap64_S]
    go_enter Tryd.func131, Tryd.ntmps131
    go_wp2
    go_ret
    exact ⟨rfl, rfl⟩
  rw [if_neg h6]
  have b6 : (kd == 6) = false := by rw [beq_eq_false_iff_ne]; exact h6
  clear h6
  by_cases h7 : kd = 7
  · subst h7
    rw [if_pos rfl]
    go_enter Tryd.func131, Tryd.ntmps131
    go_wp2_with (go_at_call 132; refine (truth_any _ _).mono ?_; rintro e w' ⟨rfl, rfl⟩)
    go_ret
    exact ⟨rfl, rfl⟩
  rw [if_neg h7]
  have b7 : (kd == 7) = false := by rw [beq_eq_false_iff_ne]; exact h7
  clear h7
  go_enter Tryd.func131, Tryd.ntmps131
  go_wp2_with (go_at_call 132; refine (truth_any _ _).mono ?_; rintro e w' ⟨rfl, rfl⟩)
  go_ret
  exact ⟨rfl, rfl⟩
end Go.Proofs.YtohlefnljgkdcabDoor
