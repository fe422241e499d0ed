/- OwnJ, EngJ, EngK -/
import Derived.Test.YtokhibfenccijaaGreatDoorKB24
import Derived.Test.YtokhibfenccijaaGreatDoorKB01
import Derived.Test.YtokhibfenccijaaGreatDoorKB26
import Derived.Test.YtokhibfenccijaaGreatDoorKB04
set_option maxRecDepth 100000
set_option maxHeartbeats 8000000
namespace Go.Proofs.YtokhibfenccijaaGreatDoor
open Go.RowKit
theorem infoFrame : (Tryz.prog.info? 92).map (fun i => (i.zero, i.size, i.bytes)) = some (some (.agg #[.int .i64 0, .int .i64 0, .slice none 0 0, .slice none 0 0]), 4, 64) := by kernel_rfl
theorem infoFiber : (Tryz.prog.info? 95).map (fun i => (i.zero, i.size, i.bytes)) = some (some (.agg #[.slice none 0 0, .int .i64 0]), 2, 32) := by kernel_rfl
theorem at_block (B j : Nat) : (⟨B, 0, none⟩ : Addr).add j = ⟨B, j, none⟩ := by unfold Addr.add; split <;> simp_all
theorem row_block {w : World} {base B : Nat} {l : List Int} (hb : base ≤ B) (hB : w.heap[B]? = some (.cells (ints l).toArray 3)) (hl : l.length ≤ 1000) : w.ownsRow base 3 1 (.slice (some ⟨B, 0, none⟩) l.length l.length) l.length (ints l) :=
  ⟨by simp [ints_len], .inr ⟨B, l.length, (ints l).toArray, rfl, hb, hB, Nat.le_refl _, by unfold maxLen; omega, by simp [ints_len], List.take_of_length_le (by simp [ints_len])⟩⟩
theorem frame_comes {base bs : Nat} {V : Key → Value} {s : St} {u : World} (h : OwnVar base u bs V s) {i gF capF BL B : Nat} (hi : i < s.fibers.length) (hF : V .fibers = .slice (some ⟨gF, 0, none⟩) s.fibers.length capF)
    (hfr : (fibAt s i).frames.length ≤ 1000) (f : Fr) (hst : f.stack = []) (hlo : f.locals.length ≤ 1000) (hBL : u.heap[BL]? = some (.cells (ints f.locals).toArray 3)) (hoff : Own.off V s BL) (hlow : base ≤ BL) (hbsL : bs ≠ BL)
    (hB : u.heap[B]? = some (.cells #[.int .i64 f.fn, .int .i64 f.at_, .slice (some ⟨BL, 0, none⟩) f.locals.length f.locals.length, .slice none 0 0] 92)) :
    ∃ v' w' V', (Builtin.append_ #[93, 93] 93 #[V (.frames i), .slice (some ⟨B, 0, none⟩) 1 1]).run Tryz.prog u = .ok v' w' ∧
      (∃ o c, v' = .slice o ((fibAt s i).frames.length + 1) c) ∧ OwnVar base (w'.setCell ⟨gF, i * 2, none⟩ v') bs V' (setFib s i { fibAt s i with frames := (fibAt s i).frames ++ [f] }) ∧ u.grownBy w' (V (.frames i)).ownBlock ∧
      ∀ k b, live (setFib s i { fibAt s i with frames := (fibAt s i).frames ++ [f] }) k → (V' k).ownBlock = some b → (∃ k', live s k' ∧ (V k').ownBlock = some b) ∨ b = BL ∨ b = u.heap.size := by
  obtain ⟨i0, hi0, hz0, hz1, hz2⟩ := info_parts infoFrame
  have hbw : bs < u.heap.size := lt_of_block h.var
  have hbase : base ≤ u.heap.size := by have := h.low; omega
  have hlB : BL < u.heap.size := (Array.getElem?_eq_some_iff.1 hBL).1
  obtain ⟨xs, hrow, _⟩ := h.own.piece (.frames i) hi
  obtain ⟨v', w', hrun, hown', hgrow, _, hat⟩ := run_append_own_at (P := Tryz.prog) u base 93 93 92 i0 _ 4 64 Tryz.underlying93 hi0 hz0 hz1 hz2 rfl (by decide) _ _ xs hrow ⟨B, 0, none⟩ 1 1
    [.int .i64 f.fn, .int .i64 f.at_, .slice (some ⟨BL, 0, none⟩) f.locals.length f.locals.length, .slice none 0 0] rfl (fun j x hj => by
      rw [at_block, cell_lays hB]
      simpa using hj) (by intro x hx; simp only [List.mem_cons, List.not_mem_nil, or_false] at hx; rcases hx with rfl | rfl | rfl | rfl <;> rfl) (by unfold maxLen; omega) (by omega) (by omega)
  have hFb : (V .fibers).ownBlock = some gF := by rw [hF]; rfl
  have hloc : w'.ownsRow base 3 1 (.slice (some ⟨BL, 0, none⟩) f.locals.length f.locals.length) f.locals.length (ints f.locals) :=
    row_block hlow ((hgrow.block BL hlB (fun e => hoff (.frames i) hi e.symm)).trans hBL) hlo
  have hadd := h.own.addFrame hi hF f (.slice (some ⟨BL, 0, none⟩) f.locals.length f.locals.length) v' hst (gl := BL) (.inr rfl) hoff hlB hloc (fun b hb hne => hgrow.block b hb (fun e => hne e.symm)) (fun ys hy => by
    rw [row_unique hy hrow]; exact hown') hat
  have hblk : ∀ k b, live (setFib s i { fibAt s i with frames := (fibAt s i).frames ++ [f] }) k → (upd (upd (upd V (.frames i) v') (.locals i (fibAt s i).frames.length) (.slice (some ⟨BL, 0, none⟩) f.locals.length f.locals.length)) (.stack i (fibAt s i).frames.length) (.slice none 0 0) k).ownBlock = some b → (∃ k', live s k' ∧ (V k').ownBlock = some b) ∨ b = BL ∨ b = u.heap.size := by
    intro k b hk e
    by_cases e1 : k = .stack i (fibAt s i).frames.length
    · rw [e1, upd_same] at e; cases e
    rw [upd_ne _ _ e1] at e
    by_cases e2 : k = .locals i (fibAt s i).frames.length
    · rw [e2, upd_same] at e; exact .inr (.inl (Option.some.inj e).symm)
    rw [upd_ne _ _ e2] at e
    by_cases e3 : k = .frames i
    · rw [e3, upd_same] at e
      rcases hat with h1 | h1
      · rw [h1] at e; exact .inl ⟨.frames i, hi, e⟩
      · rw [h1] at e; exact .inr (.inr (Option.some.inj e).symm)
    rw [upd_ne _ _ e3] at e
    refine .inl ⟨k, ?_, e⟩
    have hl := setFib_len s i { fibAt s i with frames := (fibAt s i).frames ++ [f] }
    have hfs : fibAt (setFib s i { fibAt s i with frames := (fibAt s i).frames ++ [f] }) i = { fibAt s i with frames := (fibAt s i).frames ++ [f] } := fibAt_same _ hi
    have hq : ∀ t q, q ≠ (fibAt s i).frames.length ∨ t ≠ i → t < s.fibers.length → q < (fibAt (setFib s i { fibAt s i with frames := (fibAt s i).frames ++ [f] }) t).frames.length → q < (fibAt s t).frames.length := fun t q hne _ hq => by
      by_cases e : i = t
      · subst e
        rw [hfs] at hq
        simp only [List.length_append, List.length_cons, List.length_nil] at hq
        rcases hne with h1 | h1 <;> omega
      · rwa [fibAt_ne _ e] at hq
    cases k using Key.by with
    | fibers => trivial
    | out => trivial
    | frames t => simpa only [live, hl] using hk
    | locals t q =>
      simp only [live, hl] at hk
      refine ⟨hk.1, hq t q ?_ hk.1 hk.2⟩
      by_cases et : t = i
      · subst et; exact .inl fun e => e2 (by rw [e])
      · exact .inr et
    | stack t q =>
      simp only [live, hl] at hk
      refine ⟨hk.1, hq t q ?_ hk.1 hk.2⟩
      by_cases et : t = i
      · subst et; exact .inl fun e => e1 (by rw [e])
      · exact .inr et
  refine ⟨v', w', _, hrun, ?_, h.turn hadd ?_ ?_ ?_ rfl ?_, hgrow, hblk⟩
  · obtain ⟨o, c, e, _⟩ := row_slice hown'
    exact ⟨o, c, e⟩
  · rw [Below.heap_setCell _ _ _ _ (fun e => h.off .fibers trivial (by rw [hFb, e]))]
    exact hgrow.block bs hbw (fun e => h.off (.frames i) hi e.symm)
  · rw [upd_ne _ _ (by simp), upd_ne _ _ (by simp), upd_ne _ _ (by simp)]
  · rw [upd_ne _ _ (by simp), upd_ne _ _ (by simp), upd_ne _ _ (by simp)]
  · intro k hk e
    rcases hblk k bs hk e with ⟨k', hk', e'⟩ | e' | e'
    · exact h.off k' hk' e'
    · exact hbsL e'
    · omega
theorem fiber_comes {base bs : Nat} {V : Key → Value} {s : St} {u : World} (h : OwnVar base u bs V s) {BL BF B : Nat} (hfr : s.fibers.length ≤ 1000) (f : Fr) (c : Int) (hst : f.stack = []) (hlo : f.locals.length ≤ 1000)
    (hBL : u.heap[BL]? = some (.cells (ints f.locals).toArray 3)) (hoff : Own.off V s BL) (hlow : base ≤ BL) (hbsL : bs ≠ BL)
    (hBF : u.heap[BF]? = some (.cells #[.int .i64 f.fn, .int .i64 f.at_, .slice (some ⟨BL, 0, none⟩) f.locals.length f.locals.length, .slice none 0 0] 92)) (hoffF : Own.off V s BF) (hlowF : base ≤ BF) (hbsF : bs ≠ BF) (hne : BL ≠ BF)
    (hB : u.heap[B]? = some (.cells #[.slice (some ⟨BF, 0, none⟩) 1 1, .int .i64 c] 95)) :
    ∃ v' w' V', (Builtin.append_ #[42, 42] 42 #[V .fibers, .slice (some ⟨B, 0, none⟩) 1 1]).run Tryz.prog u = .ok v' w' ∧
      (∃ o q, v' = .slice o (s.fibers.length + 1) q) ∧ OwnVar base (w'.setCell ⟨bs, 0, none⟩ v') bs V' { s with fibers := s.fibers ++ [⟨[f], c⟩] } ∧ u.grownBy w' (V .fibers).ownBlock ∧
      ∀ k b, live { s with fibers := s.fibers ++ [⟨[f], c⟩] } k → (V' k).ownBlock = some b → (∃ k', live s k' ∧ (V k').ownBlock = some b) ∨ b = BL ∨ b = BF ∨ b = u.heap.size := by
  obtain ⟨i0, hi0, hz0, hz1, hz2⟩ := info_parts infoFiber
  have hbw : bs < u.heap.size := lt_of_block h.var
  have hbase : base ≤ u.heap.size := by have := h.low; omega
  have hlB : BL < u.heap.size := (Array.getElem?_eq_some_iff.1 hBL).1
  have hlF : BF < u.heap.size := (Array.getElem?_eq_some_iff.1 hBF).1
  obtain ⟨xs, hrow, _⟩ := h.own.piece .fibers trivial
  obtain ⟨v', w', hrun, hown', hgrow, _, hat⟩ := run_append_own_at (P := Tryz.prog) u base 42 42 95 i0 _ 2 32 Tryz.underlying42 hi0 hz0 hz1 hz2 rfl (by decide) _ _ xs hrow ⟨B, 0, none⟩ 1 1
    [.slice (some ⟨BF, 0, none⟩) 1 1, .int .i64 c] rfl (fun j x hj => by
      rw [at_block, cell_lays hB]
      simpa using hj) (by intro x hx; simp only [List.mem_cons, List.not_mem_nil, or_false] at hx; rcases hx with rfl | rfl <;> rfl) (by unfold maxLen; omega) (by omega) (by omega)
  have hloc : w'.ownsRow base 3 1 (.slice (some ⟨BL, 0, none⟩) f.locals.length f.locals.length) f.locals.length (ints f.locals) :=
    row_block hlow ((hgrow.block BL hlB (fun e => hoff .fibers trivial e.symm)).trans hBL) hlo
  have hfrw : w'.ownsRow base 92 4 (.slice (some ⟨BF, 0, none⟩) 1 1) 1 [.int .i64 f.fn, .int .i64 f.at_, .slice (some ⟨BL, 0, none⟩) f.locals.length f.locals.length, .slice none 0 0] :=
    ⟨rfl, .inr ⟨BF, 1, #[.int .i64 f.fn, .int .i64 f.at_, .slice (some ⟨BL, 0, none⟩) f.locals.length f.locals.length, .slice none 0 0], rfl, hlowF, (hgrow.block BF hlF (fun e => hoffF .fibers trivial e.symm)).trans hBF, by omega, by decide, rfl, rfl⟩⟩
  have hadd := h.own.addFiber f c (.slice (some ⟨BL, 0, none⟩) f.locals.length f.locals.length) (.slice (some ⟨BF, 0, none⟩) 1 1) v' hst (gl := BL) (gf := BF) (.inr rfl) rfl hne hoff hoffF hlB hlF hloc hfrw
    (fun b hb hne => hgrow.block b hb (fun e => hne e.symm)) (fun ys hy => by rw [row_unique hy hrow]; exact hown') hat
  have hblk : ∀ k b, live { s with fibers := s.fibers ++ [⟨[f], c⟩] } k → (upd (upd (upd (upd V .fibers v') (.frames s.fibers.length) (.slice (some ⟨BF, 0, none⟩) 1 1)) (.locals s.fibers.length 0) (.slice (some ⟨BL, 0, none⟩) f.locals.length f.locals.length)) (.stack s.fibers.length 0) (.slice none 0 0) k).ownBlock = some b → (∃ k', live s k' ∧ (V k').ownBlock = some b) ∨ b = BL ∨ b = BF ∨ b = u.heap.size := by
    intro k b hk e
    by_cases e1 : k = .stack s.fibers.length 0
    · rw [e1, upd_same] at e; cases e
    rw [upd_ne _ _ e1] at e
    by_cases e2 : k = .locals s.fibers.length 0
    · rw [e2, upd_same] at e; exact .inr (.inl (Option.some.inj e).symm)
    rw [upd_ne _ _ e2] at e
    by_cases e3 : k = .frames s.fibers.length
    · rw [e3, upd_same] at e; exact .inr (.inr (.inl (Option.some.inj e).symm))
    rw [upd_ne _ _ e3] at e
    by_cases e4 : k = .fibers
    · rw [e4, upd_same] at e
      rcases hat with h1 | h1
      · rw [h1] at e; exact .inl ⟨.fibers, trivial, e⟩
      · rw [h1] at e; exact .inr (.inr (.inr (Option.some.inj e).symm))
    rw [upd_ne _ _ e4] at e
    refine .inl ⟨k, ?_, e⟩
    have hfo : ∀ t, t < s.fibers.length → fibAt { s with fibers := s.fibers ++ [⟨[f], c⟩] } t = fibAt s t := fun t ht => getD_append_left _ _ _ _ ht
    have hfn : fibAt { s with fibers := s.fibers ++ [⟨[f], c⟩] } s.fibers.length = ⟨[f], c⟩ := getD_append_len _ _ _
    have hq : ∀ t q, ¬ (t = s.fibers.length ∧ q = 0) → t < s.fibers.length + 1 → q < (fibAt { s with fibers := s.fibers ++ [⟨[f], c⟩] } t).frames.length → t < s.fibers.length ∧ q < (fibAt s t).frames.length := fun t q hn ht hq => by
      by_cases et : t = s.fibers.length
      · rw [et, hfn] at hq
        simp only [List.length_cons, List.length_nil] at hq
        exact absurd ⟨et, by omega⟩ hn
      · rw [hfo t (by omega)] at hq; exact ⟨by omega, hq⟩
    cases k using Key.by with
    | fibers => trivial
    | out => trivial
    | frames t =>
      simp only [live, List.length_append, List.length_cons, List.length_nil] at hk ⊢
      have : t ≠ s.fibers.length := fun e => e3 (by rw [e])
      omega
    | locals t q =>
      simp only [live, List.length_append, List.length_cons, List.length_nil] at hk ⊢
      exact hq t q (fun ⟨h1, h2⟩ => e2 (by rw [h1, h2])) hk.1 hk.2
    | stack t q =>
      simp only [live, List.length_append, List.length_cons, List.length_nil] at hk ⊢
      exact hq t q (fun ⟨h1, h2⟩ => e1 (by rw [h1, h2])) hk.1 hk.2
  have hoff' : Own.off (upd (upd (upd (upd V .fibers v') (.frames s.fibers.length) (.slice (some ⟨BF, 0, none⟩) 1 1)) (.locals s.fibers.length 0) (.slice (some ⟨BL, 0, none⟩) f.locals.length f.locals.length)) (.stack s.fibers.length 0) (.slice none 0 0)) { s with fibers := s.fibers ++ [⟨[f], c⟩] } bs := by
    intro k hk e
    rcases hblk k bs hk e with ⟨k', hk', e'⟩ | e' | e' | e'
    · exact h.off k' hk' e'
    · exact hbsL e'
    · exact hbsF e'
    · omega
  have hv : w'.heap[bs]? = some (.cells #[V .fibers, .int .i64 s.now, V .out] 44) := (hgrow.block bs hbw (fun e => h.off .fibers trivial e.symm)).trans h.var
  refine ⟨v', w', _, hrun, ?_, ⟨?_, hadd.setOff (a := ⟨bs, 0, none⟩) hoff' v', hoff', h.low⟩, hgrow, hblk⟩
  · obtain ⟨o, q, e, _⟩ := row_slice hown'
    exact ⟨o, q, e⟩
  · rw [lays_set hv 0 v', upd_ne _ _ (by simp), upd_ne _ _ (by simp), upd_ne _ _ (by simp), upd_same, upd_ne _ _ (by simp), upd_ne _ _ (by simp), upd_ne _ _ (by simp), upd_ne _ _ (by simp)]
    rfl
theorem Moved.grew {base bs : Nat} {V V' : Key → Value} {s s' : St} {w0 u w2 : World} (hk : Kept w0 u) {K : Key} (hK : live s K) (hgrow : u.grownBy w2 (V K).ownBlock) {g i : Nat} {v : Value} (h' : OwnVar base (w2.setCell ⟨g, i, none⟩ v) bs V' s') (hg : g = bs ∨ ∃ k, live s k ∧ (V k).ownBlock = some g)
    (ho : ∀ k b, live s' k → (V' k).ownBlock = some b → b < w0.heap.size → ∃ k', live s k' ∧ (V k').ownBlock = some b) : Moved base bs V s w0 V' s' (w2.setCell ⟨g, i, none⟩ v) := by
  refine ⟨h', hgrow.os.trans hk.os, hgrow.tape.trans hk.tape, hgrow.output.trans hk.output, Nat.le_trans hk.size (by simpa [World.setCell] using hgrow.size), fun b hb hn hoff => ?_, fun b hb hoff k hk e => ?_⟩
  · rw [Below.heap_setCell _ _ _ _ (fun e => ?_)]
    · exact (hgrow.block b (Nat.lt_of_lt_of_le hb hk.size) (fun e => hoff K hK e.symm)).trans (hk.block b hb)
    · have e : b = g := e
      rcases hg with hg | ⟨k, hk, hg⟩
      · exact hn (e.trans hg)
      · exact hoff k hk (by rw [hg, e])
  · obtain ⟨k', hk', e'⟩ := ho k b hk e hb
    exact hoff k' hk' e'
theorem call_frame {base bs : Nat} {V : Key → Value} {s : St} {w w3 : World} (h : OwnVar base w bs V s) (hk : Kept w w3) {i gF capF g q cap BL : Nat} (hi : i < s.fibers.length) (hF : V .fibers = .slice (some ⟨gF, 0, none⟩) s.fibers.length capF) (hf : V (.frames i) = .slice (some ⟨g, 0, none⟩) q cap) (hq : (fibAt s i).frames.length = q) (hfr : q ≤ 1000)
    (f : Fr) (hst : f.stack = []) (hlo : f.locals.length ≤ 1000) (hBL : w3.heap[BL]? = some (.cells (ints f.locals).toArray 3)) (hB : w.heap.size ≤ BL) :
    ∃ o c w4 V4, (Builtin.append_ #[93, 93] 93 #[.slice (some ⟨g, 0, none⟩) q cap, .slice (some ⟨w3.heap.size, 0, none⟩) 1 1]).run Tryz.prog (w3.alloc (.cells #[.int .i64 f.fn, .int .i64 f.at_, .slice (some ⟨BL, 0, none⟩) f.locals.length f.locals.length, .slice none 0 0] 92)) = .ok (.slice o (q + 1) c) w4 ∧
      w4.cell? ⟨gF, i * 2, none⟩ = some (.slice (some ⟨g, 0, none⟩) q cap) ∧ w4.frozen? ⟨gF, i * 2, none⟩ = false ∧ (∀ {p : Addr} {x : Value}, w3.cell? p = some x → (V (.frames i)).ownBlock ≠ some p.block → w4.cell? p = some x) ∧ Below base w w4 ∧ Moved base bs V s w V4 (setFib s i { fibAt s i with frames := (fibAt s i).frames ++ [f] }) (w4.setCell ⟨gF, i * 2, none⟩ (.slice o (q + 1) c)) := by
  have hku : Kept w (w3.alloc (.cells #[.int .i64 f.fn, .int .i64 f.at_, .slice (some ⟨BL, 0, none⟩) f.locals.length f.locals.length, .slice none 0 0] 92)) := hk.alloc _
  have hu := h.kept hku
  obtain ⟨hbn, hbo⟩ := h.new hB
  have hlow := h.low
  have hbw := lt_of_block h.var
  obtain ⟨v', w4, V4, hrun, ⟨o, c, rfl⟩, hov, hgr, hbl⟩ := frame_comes hu hi hF (by omega) f hst hlo (lays_alloc hBL _) hbo (by omega) (fun e => hbn e.symm) (lays_new rfl)
  have hFb : (V .fibers).ownBlock = some gF := by rw [hF]; rfl
  have hgF : (V (.frames i)).ownBlock ≠ some gF := fun e => by have := h.own.apart (.frames i) .fibers gF hi trivial e hFb; cases this
  obtain ⟨gF', capF', eF', _, k0, _, kz, _⟩ := hu.own.fib hi
  rw [hF] at eF'
  obtain ⟨⟨rfl⟩, -, rfl⟩ := (by simpa using eF' : (gF = gF') ∧ True ∧ capF = capF')
  rw [hf, hq] at hrun
  rw [hq] at hov
  refine ⟨o, c, w4, V4, hrun, ?_, ?_, fun {p x} hc hne => hgr.cell (((Kept.refl w3).alloc _).cell hc) (fun e => hne e.symm), Below.grown (h.below hku) hgr (by have := hku.size; omega) (fun r hr => ((hu.own.piece (.frames i) hi).block r hr).1), ?_⟩
  · have := hgr.cell k0 (fun e => hgF e.symm)
    rw [hf] at this
    exact this
  · exact (World.frozen?_of_block (hgr.block gF (((hu.own.piece .fibers trivial).block gF hFb).2) (fun e => hgF e.symm))).trans (kz _)
  · refine .grew hku (K := .frames i) hi hgr hov (.inr ⟨.fibers, trivial, hFb⟩) (fun k b hk' e hb => ?_)
    rcases hbl k b hk' e with h1 | h1 | h1
    · exact h1
    · omega
    · have := hku.size; omega
theorem call_any (base bs : Nat) (V : Key → Value) (s : St) (i n cp bp op f a lo : Nat) (w : World) (h : OwnVar base w bs V s) (hn : s.now = i) (hr : Runs s i) (h6 : (fibAt s i).frames.length ≤ 6) (hf : f < n) (hlo : lo ≤ 1000) (hal : a ≤ lo) (ha : a ≤ (frAt s i ((fibAt s i).frames.length - 1)).stack.length)
    (hp : ∀ u, Below base w u → u.cell? ⟨bp, op + f * 3, none⟩ = some (.int .i64 a) ∧ u.cell? ⟨bp, op + f * 3 + 1, none⟩ = some (.int .i64 lo)) :
    Calls Tryz.prog 173 #[eng bs (.slice (some ⟨bp, op, none⟩) n cp), .int .i64 f] w (EngPost base bs V s (callS s i f a lo) w) := by
  have hi := hr.lt
  obtain ⟨gF, capF, eF, hrun⟩ := running_own h hn hi (some ⟨bp, op, none⟩) n cp
  obtain ⟨g, cap, eg, hqc, _⟩ := h.own.fr hi (j := 0) hr.fr
  have HT := hide hrun
  have HO := hide h
  have HEF := hide eF
  have HEG := hide eg
  have HPC := hide hp
  have hf0 : (0 : Int) ≤ (f : Int) := by omega
  have hf1 : (f : Int) < (n : Int) := by omega
  clear hrun h hp
  by_cases hq6 : (fibAt s i).frames.length = 6
  · have hR : callS s i f a lo = (St.zero, 2) := by unfold callS; rw [if_pos hq6]
    rw [hR]
    rw [hq6] at eg
    have HEG6 := hide eg
    clear hR eg
    go_enter Tryz.func173, Tryz.ntmps173
    go_wp2_with fail
    generalize hwb : w.alloc (.cells #[.pointer (some ⟨bs, 0, none⟩), .slice (some ⟨bp, op, none⟩) n cp] 170) = wb
    have hkb : Kept w wb := by rw [← hwb]; exact (Kept.refl w).alloc _
    have hob : OwnVar base wb bs V s := (unhide HO).kept hkb
    refine ((unhide HT) wb hob).mono ?_
    rintro e w1 ⟨rfl, hk1⟩
    have ho1 := hob.kept hk1
    obtain ⟨gF', capF', eF', _, k0, k1, kz, _⟩ := ho1.own.fib hi
    rw [unhide HEF] at eF'
    obtain ⟨⟨rfl⟩, -, rfl⟩ := (by simpa using eF' : (gF = gF') ∧ True ∧ capF = capF')
    rw [unhide HEG6] at k0
    have HB : Hid (Past bs V s w w1) := hide (Past.of_kept (hkb.trans hk1))
    clear hwb hob hkb hk1 ho1 kz k1 eF'
    go_wp2
    exact ⟨rfl, Or.inr ⟨by decide, rfl, unhide HB⟩⟩
  · have hb6 : (((fibAt s i).frames.length : Int) == 6) = false := by rw [beq_eq_false_iff_ne]; omega
    have hR : callS s i f a lo = (setFib (takeTop s i a) i { fibAt (takeTop s i a) i with frames := (fibAt (takeTop s i a) i).frames ++ [callFr f lo ((frAt s i ((fibAt s i).frames.length - 1)).stack.drop ((frAt s i ((fibAt s i).frames.length - 1)).stack.length - a))] }, 0) := by unfold callS; rw [if_neg hq6]
    rw [hR]
    obtain ⟨f1, f2, f3, f4, f5, f6⟩ := takeTop_facts hr a
    have hvl : ((frAt s i ((fibAt s i).frames.length - 1)).stack.drop ((frAt s i ((fibAt s i).frames.length - 1)).stack.length - a)).length = a := by rw [List.length_drop]; omega
    have HTA : Hid (∀ u V', OwnVar base u bs V' s → Calls Tryz.prog 192 #[eng bs (.slice (some ⟨bp, op, none⟩) n cp), .int .i64 a] u (fun e w' => ∃ ov cv V2, e = .returned (.slice ov a cv) ∧ IntsW w' (.slice ov a cv) ((frAt s i ((fibAt s i).frames.length - 1)).stack.drop ((frAt s i ((fibAt s i).frames.length - 1)).stack.length - a)) ∧ Moved base bs V' s u V2 (takeTop s i a) w' ∧ V2 (.frames i) = V' (.frames i) ∧ V2 .fibers = V' .fibers)) := hide (fun u V' hu =>
      (takeAll_any base bs V' s i a n cp (some ⟨bp, op, none⟩) u hu hn hr ha).mono (by
        rintro e w' ⟨v, V2, rfl, hv, hm, hV⟩
        obtain ⟨ov, cv, rfl, hb, hc⟩ := hv
        refine ⟨ov, cv, V2, by rw [hvl], ⟨ov, cv, by rw [hvl], hb, hc⟩, hm, hV _ (by simp), hV _ (by simp)⟩))
    generalize (frAt s i ((fibAt s i).frames.length - 1)).stack.drop ((frAt s i ((fibAt s i).frames.length - 1)).stack.length - a) = vals at *
    generalize hs1 : takeTop s i a = s1 at *
    generalize hq : (fibAt s i).frames.length = q at *
    have hcl : (callFr f lo vals).locals.length = lo := by unfold callFr; simp [hvl]; omega
    have HBG : Hid (∀ u ov cv, Below base w u → IntsW u (.slice ov a cv) vals → Calls Tryz.prog 194 #[eng bs (.slice (some ⟨bp, op, none⟩) n cp), .int .i64 f, .slice ov a cv] u (BegunPost f lo (callFr f lo vals).locals u)) := hide (fun u ov cv hb hv => begun_any bs f lo n cp bp op _ vals u hf hlo hv (by omega) ((unhide HPC) u hb).2)
    have HCF : Hid (∀ w2 V2 w3 BL, OwnVar base w2 bs V2 s1 → Kept w2 w3 → V2 .fibers = V .fibers → V2 (.frames i) = V (.frames i) → w3.heap[BL]? = some (.cells (ints (callFr f lo vals).locals).toArray 3) → w2.heap.size ≤ BL → ∃ o c w4 V4, (Builtin.append_ #[93, 93] 93 #[.slice (some ⟨g, 0, none⟩) q cap, .slice (some ⟨w3.heap.size, 0, none⟩) 1 1]).run Tryz.prog (w3.alloc (.cells #[.int .i64 f, .int .i64 0, .slice (some ⟨BL, 0, none⟩) lo lo, .slice none 0 0] 92)) = .ok (.slice o (q + 1) c) w4 ∧
      w4.cell? ⟨gF, i * 2, none⟩ = some (.slice (some ⟨g, 0, none⟩) q cap) ∧ w4.frozen? ⟨gF, i * 2, none⟩ = false ∧ (∀ {p : Addr} {x : Value}, w3.cell? p = some x → (V2 (.frames i)).ownBlock ≠ some p.block → w4.cell? p = some x) ∧ Below base w2 w4 ∧ Moved base bs V2 s1 w2 V4 (setFib s1 i { fibAt s1 i with frames := (fibAt s1 i).frames ++ [callFr f lo vals] }) (w4.setCell ⟨gF, i * 2, none⟩ (.slice o (q + 1) c))) := hide (fun w2 V2 w3 BL hu hk hVF hVf hBL hB => by
      have := call_frame hu hk (i := i) (gF := gF) (capF := capF) (g := g) (q := q) (cap := cap) (BL := BL) (by rw [f1]; exact hi) (by rw [hVF, f1]; exact unhide HEF) (by rw [hVf]; exact unhide HEG) f4 (by omega) (callFr f lo vals) rfl (by omega) hBL hB
      rw [hcl] at this
      exact this)
    have HS2 : Hid (∀ (w2 : World) (V2 : Key → Value), OwnVar base w2 bs V2 s1 → V2 .fibers = V .fibers → V2 (.frames i) = V (.frames i) → w2.cell? ⟨gF, i * 2, none⟩ = some (.slice (some ⟨g, 0, none⟩) q cap)) := hide (fun w2 V2 hu hVF hVf => by
      obtain ⟨gF', capF', eF', _, k0, _⟩ := hu.own.fib (i := i) (by rw [f1]; exact hi)
      rw [hVF, f1, unhide HEF] at eF'
      obtain ⟨⟨rfl⟩, -, rfl⟩ := (by simpa using eF' : (gF = gF') ∧ True ∧ capF = capF')
      rw [hVf, unhide HEG] at k0
      exact k0)
    generalize setFib s1 i { fibAt s1 i with frames := (fibAt s1 i).frames ++ [callFr f lo vals] } = s2 at *
    generalize (callFr f lo vals).locals = L at *
    clear hR f1 f2 f3 f4 f5 f6 hs1 hcl hr eg eF
    go_enter Tryz.func173, Tryz.ntmps173
    go_wp2_with fail
    generalize hwb : w.alloc (.cells #[.pointer (some ⟨bs, 0, none⟩), .slice (some ⟨bp, op, none⟩) n cp] 170) = wb
    have hkb : Kept w wb := by rw [← hwb]; exact (Kept.refl w).alloc _
    have lB : wb.heap[w.heap.size]? = some (.cells #[.pointer (some ⟨bs, 0, none⟩), .slice (some ⟨bp, op, none⟩) n cp] 170) := by rw [← hwb]; exact lays_new rfl
    have hob : OwnVar base wb bs V s := (unhide HO).kept hkb
    refine ((unhide HT) wb hob).mono ?_
    rintro e w1 ⟨rfl, hk1⟩
    have ho1 := hob.kept hk1
    have hk01 := hkb.trans hk1
    have l1 := lays_kept hk1 lB
    have b0 : w1.cell? ⟨w.heap.size, 0, none⟩ = some (.pointer (some ⟨bs, 0, none⟩)) := cell_lays l1 0
    have b1 : w1.cell? ⟨w.heap.size, 1, none⟩ = some (.slice (some ⟨bp, op, none⟩) n cp) := cell_lays l1 1
    obtain ⟨gF', capF', eF', _, k0, _, _, _⟩ := ho1.own.fib hi
    rw [unhide HEF] at eF'
    obtain ⟨⟨rfl⟩, -, rfl⟩ := (by simpa using eF' : (gF = gF') ∧ True ∧ capF = capF')
    rw [unhide HEG] at k0
    obtain ⟨hBn, hBo⟩ := (unhide HO).new (b := w.heap.size) (by omega)
    obtain ⟨p0, p1⟩ := (unhide HPC) w1 ((unhide HO).below hk01)
    have HM1 := hide ((Moved.of_kept (unhide HO) hk01).drew)
    have HL1 := hide (lays_drew l1)
    have HBO := hide hBo
    clear hwb hob hkb hk1 ho1 eF' hk01 lB l1 hBo HT
    go_upto_region 4 with fail
    refine wp_regionP 20 [0, 1, 2, 3, 4, 5, 6, 7, 8, 9, 10, 11, 12, 13] (fun u => u.cell? ⟨gF, i * 2, none⟩ = some (.slice (some ⟨g, 0, none⟩) q cap) ∧ u.cell? ⟨w.heap.size, 0, none⟩ = some (.pointer (some ⟨bs, 0, none⟩)) ∧ u.cell? ⟨w.heap.size, 1, none⟩ = some (.slice (some ⟨bp, op, none⟩) n cp) ∧ u.cell? ⟨bp, op + f * 3, none⟩ = some (.int .i64 a)) (by kernel_rfl) ?_
    have hHeld := And.intro k0 (And.intro b0 (And.intro b1 p0))
    repeat
      refine takeP (v := ?_) hHeld (fun u hSu => ?_) ?_
      rotate_left
      · ((try dsimp only at hSu); go_simp) <;> with_reducible rfl
      simp only [Act.put, List.setIfInBounds_toArray, List.set_cons_zero, List.set_cons_succ]
    refine takeP_end ?_
    refine takeT_one (i := 14) rfl (by kernel_rfl) (fun K hK => ?_)
    go_simp
    refine ((unhide HTA) _ V (unhide HM1).own).mono ?_
    rintro e w2 ⟨ov, cv, V2, rfl, hv2, hm2, hVf2, hVF2⟩
    have l2 := hm2.lays (unhide HL1) hBn (unhide HBO)
    have hS2 := And.intro ((unhide HS2) w2 V2 hm2.own hVF2 hVf2) (And.intro (show w2.cell? ⟨w.heap.size, 0, none⟩ = some (.pointer (some ⟨bs, 0, none⟩)) from cell_lays l2 0) (And.intro (show w2.cell? ⟨w.heap.size, 1, none⟩ = some (.slice (some ⟨bp, op, none⟩) n cp) from cell_lays l2 1) ((unhide HPC) w2 (((unhide HM1).trans hm2).below (unhide HO))).1))
    refine hK.out _ _ (fun _ => hS2) ?_
    clear hK K
    try simp only [Act.put, List.setIfInBounds_toArray, List.set_cons_zero, List.set_cons_succ]
    refine takeT_one (i := 15) rfl (by kernel_rfl) (fun K hK => ?_)
    go_simp
    refine ((unhide HBG) _ ov cv (((unhide HM1).trans hm2).below (unhide HO)) hv2).mono ?_
    rintro e w3 ⟨BL, rfl, lBL, hBL, hk3⟩
    obtain ⟨o4, c4, w4, V4, hrun, hc4, hz4, hcl4, hb4, hm4⟩ := (unhide HCF) w2 V2 w3 BL hm2.own hk3 hVF2 hVf2 lBL hBL
    have HM4 := hide (((unhide HM1).trans hm2).trans hm4)
    refine hK.out _ _ (fun _ => ⟨hk3.cell hS2.1, hk3.cell hS2.2.1, hk3.cell hS2.2.2.1, hk3.cell hS2.2.2.2⟩) ?_
    clear hK K
    try simp only [Act.put, List.setIfInBounds_toArray, List.set_cons_zero, List.set_cons_succ]
    refine takeT_one (i := 16) rfl (by kernel_rfl) (fun K hK => ?_)
    go_simp
    refine hK.out _ _ (fun _ => ⟨(hk3.alloc _).cell hS2.1, (hk3.alloc _).cell hS2.2.1, (hk3.alloc _).cell hS2.2.2.1, (hk3.alloc _).cell hS2.2.2.2⟩) ?_
    clear hK K
    try simp only [Act.put, List.setIfInBounds_toArray, List.set_cons_zero, List.set_cons_succ]
    have hS4 : w4.cell? ⟨gF, i * 2, none⟩ = some (.slice (some ⟨g, 0, none⟩) q cap) ∧ w4.cell? ⟨w.heap.size, 0, none⟩ = some (.pointer (some ⟨bs, 0, none⟩)) ∧ w4.cell? ⟨w.heap.size, 1, none⟩ = some (.slice (some ⟨bp, op, none⟩) n cp) ∧ w4.cell? ⟨bp, op + f * 3, none⟩ = some (.int .i64 a) := by
      have hne : (V2 (.frames i)).ownBlock ≠ some w.heap.size := by rw [hVf2]; exact (unhide HBO) (.frames i) hi
      exact ⟨hc4, hcl4 (hk3.cell hS2.2.1) hne, hcl4 (hk3.cell hS2.2.2.1) hne, ((unhide HPC) w4 (Below.trans (((unhide HM1).trans hm2).below (unhide HO)) hb4)).1⟩
    refine takeT_one (i := 17) rfl (by kernel_rfl) (fun K hK => ?_)
    rw [if_pos (by rfl)]
    refine wp_appR (v := .slice (some ⟨g, 0, none⟩) q cap) _ _ _ 93 rfl rfl rfl hrun ?_
    refine hK.out _ _ (fun _ => hS4) ?_
    clear hK K
    try simp only [Act.put, List.setIfInBounds_toArray, List.set_cons_zero, List.set_cons_succ]
    refine takeT_one (i := 18) rfl (by kernel_rfl) (fun K hK => ?_)
    go_simp
    refine hK.out _ _ (fun _ => hS4) ?_
    clear hK K
    try simp only [Act.put, List.setIfInBounds_toArray, List.set_cons_zero, List.set_cons_succ]
    refine takeT_one (i := 19) rfl (by kernel_rfl) (fun K hK => ?_)
    go_simp
    refine hK.out _ _ (fun _ => hS4) ?_
    clear hK K
    try simp only [Act.put, List.setIfInBounds_toArray, List.set_cons_zero, List.set_cons_succ]
    refine takeT_one (i := 20) rfl (by kernel_rfl) (fun K hK => ?_)
    go_simp
    refine hK.out _ _ (fun h => absurd rfl h) ?_
    clear hK K
    refine takeT_done (by kernel_rfl) ?_ _
    go_wp2
    go_end0
    exact Or.inl ⟨rfl, rfl, V4, unhide HM4⟩
theorem made_fiber {base bs : Nat} {V : Key → Value} {s : St} {w w3 : World} (h : OwnVar base w bs V s) (hk : Kept w w3) {capF BL : Nat} {oF : Option Addr} (hF : V .fibers = .slice oF s.fibers.length capF) (hfr : s.fibers.length ≤ 1000)
    (f : Fr) (hst : f.stack = []) (hlo : f.locals.length ≤ 1000) (hBL : w3.heap[BL]? = some (.cells (ints f.locals).toArray 3)) (hB : w.heap.size ≤ BL) :
    ∃ o c w4 V4, (Builtin.append_ #[42, 42] 42 #[.slice oF s.fibers.length capF, .slice (some ⟨w3.heap.size + 1, 0, none⟩) 1 1]).run Tryz.prog ((w3.alloc (.cells #[.int .i64 f.fn, .int .i64 f.at_, .slice (some ⟨BL, 0, none⟩) f.locals.length f.locals.length, .slice none 0 0] 92)).alloc (.cells #[.slice (some ⟨w3.heap.size, 0, none⟩) 1 1, .int .i64 (-1)] 95)) = .ok (.slice o (s.fibers.length + 1) c) w4 ∧
      w4.cell? ⟨bs, 0, none⟩ = some (.slice oF s.fibers.length capF) ∧ w4.frozen? ⟨bs, 0, none⟩ = false ∧ (∀ {p : Addr} {x : Value}, w3.cell? p = some x → (V .fibers).ownBlock ≠ some p.block → w4.cell? p = some x) ∧ Below base w w4 ∧ Moved base bs V s w V4 { s with fibers := s.fibers ++ [⟨[f], -1⟩] } (w4.setCell ⟨bs, 0, none⟩ (.slice o (s.fibers.length + 1) c)) := by
  have hku : Kept w ((w3.alloc (.cells #[.int .i64 f.fn, .int .i64 f.at_, .slice (some ⟨BL, 0, none⟩) f.locals.length f.locals.length, .slice none 0 0] 92)).alloc (.cells #[.slice (some ⟨w3.heap.size, 0, none⟩) 1 1, .int .i64 (-1)] 95)) := (hk.alloc _).alloc _
  have hu := h.kept hku
  obtain ⟨hbn, hbo⟩ := h.new hB
  have hsz := hk.size
  obtain ⟨hbn', hbo'⟩ := h.new (b := w3.heap.size) hsz
  have hlow := h.low
  have hbw := lt_of_block h.var
  have hlB : BL < w3.heap.size := (Array.getElem?_eq_some_iff.1 hBL).1
  obtain ⟨v', w4, V4, hrun, ⟨o, c, rfl⟩, hov, hgr, hbl⟩ := fiber_comes (B := w3.heap.size + 1) hu hfr f (-1) hst hlo (lays_alloc (lays_alloc hBL _) _) hbo (by omega) (fun e => hbn e.symm) (lays_alloc (lays_new rfl) _) hbo' (by omega) (fun e => hbn' e.symm) (by omega) (lays_new (by simp))
  rw [hF] at hrun
  refine ⟨o, c, w4, V4, hrun, ?_, ?_, fun {p x} hc hne => hgr.cell ((((Kept.refl w3).alloc _).alloc _).cell hc) (fun e => hne e.symm), Below.grown (h.below hku) hgr (by have := hku.size; omega) (fun r hr => ((hu.own.piece .fibers trivial).block r hr).1), ?_⟩
  · have := hgr.cell hu.cells.1 (fun e => h.off .fibers trivial e.symm)
    rw [hF] at this
    exact this
  · exact (World.frozen?_of_block (hgr.block bs (lt_of_block hu.var) (fun e => h.off .fibers trivial e.symm))).trans (hu.cells.2.2.2 0)
  · refine .grew hku (K := .fibers) trivial hgr hov (.inl rfl) (fun k b hk' e hb => ?_)
    rcases hbl k b hk' e with h1 | h1 | h1 | h1
    · exact h1
    · omega
    · omega
    · have := hku.size; omega
theorem makeFiber_any (base bs : Nat) (V : Key → Value) (s : St) (i n cp bp op f lo : Nat) (w : World) (h : OwnVar base w bs V s) (hn : s.now = i) (hr : Runs s i) (h5 : s.fibers.length ≤ 5) (hf : f < n) (hlo : lo ≤ 1000)
    (hp : ∀ u, Below base w u → u.cell? ⟨bp, op + f * 3 + 1, none⟩ = some (.int .i64 lo)) :
    Calls Tryz.prog 175 #[eng bs (.slice (some ⟨bp, op, none⟩) n cp), .int .i64 f] w (EngPost base bs V s (makeS s i f lo) w) := by
  have hi := hr.lt
  obtain ⟨c0, _, _, _⟩ := h.cells
  obtain ⟨xs, hrow, _⟩ := h.own.piece .fibers trivial
  obtain ⟨oF, capF, eF, _⟩ := row_slice hrow
  rw [eF] at c0
  have HO := hide h
  have HEF := hide eF
  have HPC := hide hp
  have hbw := lt_of_block h.var
  have hlow := h.low
  have d0 : ∀ o, (w.alloc o).cell? ⟨bs, 0, none⟩ = some (.slice oF s.fibers.length capF) := fun o => ((Kept.refl w).alloc o).cell c0
  clear hrow h hp eF
  by_cases hq5 : s.fibers.length = 5
  · have hR : makeS s i f lo = (St.zero, 2) := by unfold makeS; rw [if_pos hq5]
    rw [hR]
    rw [hq5] at d0
    clear hR c0
    go_enter Tryz.func175, Tryz.ntmps175
    go_wp2
    exact ⟨rfl, Or.inr ⟨by decide, rfl, Past.of_kept ((Kept.refl w).alloc _)⟩⟩
  · have hb5 : ((s.fibers.length : Int) == 5) = false := by rw [beq_eq_false_iff_ne]; omega
    have hR : makeS s i f lo = (pushV { s with fibers := s.fibers ++ [⟨[callFr f lo []], -1⟩] } i s.fibers.length, 0) := by unfold makeS; rw [if_neg hq5]
    rw [hR]
    have hs1f : fibAt { s with fibers := s.fibers ++ [⟨[callFr f lo []], -1⟩] } i = fibAt s i := getD_append_left _ _ _ _ hi
    have hr1 : Runs { s with fibers := s.fibers ++ [⟨[callFr f lo []], -1⟩] } i := by
      have hfr : ∀ j, frAt { s with fibers := s.fibers ++ [⟨[callFr f lo []], -1⟩] } i j = frAt s i j := fun j => by unfold frAt; rw [hs1f]
      exact ⟨by simp; omega, by rw [hs1f]; exact hr.fr, by rw [hs1f]; exact hr.frs, by rw [hfr, hs1f]; exact hr.st⟩
    have hn1 : ({ s with fibers := s.fibers ++ [⟨[callFr f lo []], -1⟩] } : St).now = i := hn
    have hl1 : ({ s with fibers := s.fibers ++ [⟨[callFr f lo []], -1⟩] } : St).fibers.length = s.fibers.length + 1 := by simp
    have hcl : (callFr f lo []).locals.length = lo := by unfold callFr; simp
    have HBG : Hid (∀ u, Below base w u → Calls Tryz.prog 194 #[eng bs (.slice (some ⟨bp, op, none⟩) n cp), .int .i64 f, .slice none 0 0] u (BegunPost f lo (callFr f lo []).locals u)) := hide (fun u hb => begun_any bs f lo n cp bp op _ [] u hf hlo (IntsW.nil _) (by simp) ((unhide HPC) u hb))
    have HCF : Hid (∀ w2 w3 BL, OwnVar base w2 bs V s → Kept w2 w3 → w3.heap[BL]? = some (.cells (ints (callFr f lo []).locals).toArray 3) → w2.heap.size ≤ BL → ∃ o c w4 V4, (Builtin.append_ #[42, 42] 42 #[.slice oF s.fibers.length capF, .slice (some ⟨w3.heap.size + 1, 0, none⟩) 1 1]).run Tryz.prog ((w3.alloc (.cells #[.int .i64 f, .int .i64 0, .slice (some ⟨BL, 0, none⟩) lo lo, .slice none 0 0] 92)).alloc (.cells #[.slice (some ⟨w3.heap.size, 0, none⟩) 1 1, .int .i64 (-1)] 95)) = .ok (.slice o (s.fibers.length + 1) c) w4 ∧
      w4.cell? ⟨bs, 0, none⟩ = some (.slice oF s.fibers.length capF) ∧ w4.frozen? ⟨bs, 0, none⟩ = false ∧ (∀ {p : Addr} {x : Value}, w3.cell? p = some x → (V .fibers).ownBlock ≠ some p.block → w4.cell? p = some x) ∧ Below base w2 w4 ∧ Moved base bs V s w2 V4 { s with fibers := s.fibers ++ [⟨[callFr f lo []], -1⟩] } (w4.setCell ⟨bs, 0, none⟩ (.slice o (s.fibers.length + 1) c))) := hide (fun w2 w3 BL hu hk hBL hB => by
      have := made_fiber hu hk (unhide HEF) (by omega) (callFr f lo []) rfl (by omega) hBL hB
      rw [hcl] at this
      exact this)
    generalize hs1 : ({ s with fibers := s.fibers ++ [⟨[callFr f lo []], -1⟩] } : St) = s1 at *
    generalize hN : s.fibers.length = N at *
    have HPUT : Hid (∀ V2 u, OwnVar base u bs V2 s1 → Calls Tryz.prog 163 #[eng bs (.slice (some ⟨bp, op, none⟩) n cp), .slice (some ⟨u.heap.size, 0, none⟩) 1 1] (u.alloc (.cells #[.int .i64 N] 3)).drew (OnePost base bs V2 s1 (pushV s1 i N) (.tuple #[]) (u.alloc (.cells #[.int .i64 N] 3)).drew)) := hide (fun V2 u hu =>
      engPut_any base bs V2 s1 i n cp u.heap.size (some ⟨bp, op, none⟩) N _ ((hu.alloc _).kept (Kept.refl _).drew) hn1 hr1 (cell_lays (lays_drew (lays_new rfl)) 0))
    generalize (callFr f lo []).locals = L at *
    have HL1 := hide hl1
    clear hR hs1 hcl hr hr1 hn1 hl1 hs1f hN
    go_enter Tryz.func175, Tryz.ntmps175
    go_upto_region 3 with fail
    generalize hwb : w.alloc (.cells #[.pointer (some ⟨bs, 0, none⟩), .slice (some ⟨bp, op, none⟩) n cp] 170) = wb
    have hkb : Kept w wb := by rw [← hwb]; exact (Kept.refl w).alloc _
    have lB : wb.heap[w.heap.size]? = some (.cells #[.pointer (some ⟨bs, 0, none⟩), .slice (some ⟨bp, op, none⟩) n cp] 170) := by rw [← hwb]; exact lays_new rfl
    have b0 : wb.cell? ⟨w.heap.size, 0, none⟩ = some (.pointer (some ⟨bs, 0, none⟩)) := cell_lays lB 0
    have b1 : wb.cell? ⟨w.heap.size, 1, none⟩ = some (.slice (some ⟨bp, op, none⟩) n cp) := cell_lays lB 1
    have k0 : wb.cell? ⟨bs, 0, none⟩ = some (.slice oF N capF) := by rw [← hwb]; exact d0 _
    obtain ⟨hBn, hBo⟩ := (unhide HO).new (b := w.heap.size) (by omega)
    have HM1 := hide ((Moved.of_kept (unhide HO) hkb).drew)
    clear hwb d0 c0
    refine wp_regionP 16 [0, 1, 2, 3, 4, 5, 6, 7, 8] (fun u => u.cell? ⟨bs, 0, none⟩ = some (.slice oF N capF) ∧ u.cell? ⟨w.heap.size, 0, none⟩ = some (.pointer (some ⟨bs, 0, none⟩)) ∧ u.cell? ⟨w.heap.size, 1, none⟩ = some (.slice (some ⟨bp, op, none⟩) n cp)) (by kernel_rfl) ?_
    have hHeld := And.intro k0 (And.intro b0 b1)
    repeat
      refine takeP (v := ?_) hHeld (fun u hSu => ?_) ?_
      rotate_left
      · ((try dsimp only at hSu); go_simp) <;> with_reducible rfl
      try simp only [Act.put, List.setIfInBounds_toArray, List.set_cons_zero, List.set_cons_succ]
    refine takeP_end ?_
    refine takeT_one (i := 9) rfl (by kernel_rfl) (fun K hK => ?_)
    go_simp
    refine ((unhide HBG) _ ((unhide HM1).below (unhide HO))).mono ?_
    rintro e w3 ⟨BL, rfl, lBL, hBL, hk3⟩
    obtain ⟨o4, c4, w4, V4, hrun, hc4, hz4, hcl4, hb4, hm4⟩ := (unhide HCF) wb.drew w3 BL (unhide HM1).own hk3 lBL hBL
    have HM4 := hide ((unhide HM1).trans hm4)
    have hS3 := And.intro (hk3.cell k0) (And.intro (hk3.cell b0) (hk3.cell b1))
    refine hK.out _ _ (fun _ => hS3) ?_
    clear hK K
    try simp only [Act.put, List.setIfInBounds_toArray, List.set_cons_zero, List.set_cons_succ]
    refine takeT_one (i := 10) rfl (by kernel_rfl) (fun K hK => ?_)
    go_simp
    refine hK.out _ _ (fun _ => ⟨((Kept.refl w3).alloc _).cell hS3.1, ((Kept.refl w3).alloc _).cell hS3.2.1, ((Kept.refl w3).alloc _).cell hS3.2.2⟩) ?_
    clear hK K
    try simp only [Act.put, List.setIfInBounds_toArray, List.set_cons_zero, List.set_cons_succ]
    refine takeT_one (i := 11) rfl (by kernel_rfl) (fun K hK => ?_)
    go_simp
    refine hK.out _ _ (fun _ => ⟨((Kept.refl w3).alloc _).cell hS3.1, ((Kept.refl w3).alloc _).cell hS3.2.1, ((Kept.refl w3).alloc _).cell hS3.2.2⟩) ?_
    clear hK K
    try simp only [Act.put, List.setIfInBounds_toArray, List.set_cons_zero, List.set_cons_succ]
    refine takeT_one (i := 12) rfl (by kernel_rfl) (fun K hK => ?_)
    go_simp
    refine hK.out _ _ (fun _ => ⟨(((Kept.refl w3).alloc _).alloc _).cell hS3.1, (((Kept.refl w3).alloc _).alloc _).cell hS3.2.1, (((Kept.refl w3).alloc _).alloc _).cell hS3.2.2⟩) ?_
    clear hK K
    try simp only [Act.put, List.setIfInBounds_toArray, List.set_cons_zero, List.set_cons_succ]
    have hne : (V .fibers).ownBlock ≠ some w.heap.size := hBo .fibers trivial
    have hS4 := And.intro hc4 (And.intro (hcl4 hS3.2.1 hne) (hcl4 hS3.2.2 hne))
    refine takeT_one (i := 13) rfl (by kernel_rfl) (fun K hK => ?_)
    rw [if_pos (by rfl)]
    refine wp_appR (v := .slice oF N capF) _ _ _ 42 rfl rfl rfl hrun ?_
    refine hK.out _ _ (fun _ => hS4) ?_
    clear hK K
    try simp only [Act.put, List.setIfInBounds_toArray, List.set_cons_zero, List.set_cons_succ]
    refine takeT_one (i := 14) rfl (by kernel_rfl) (fun K hK => ?_)
    go_simp
    refine hK.out _ _ (fun _ => hS4) ?_
    clear hK K
    try simp only [Act.put, List.setIfInBounds_toArray, List.set_cons_zero, List.set_cons_succ]
    refine takeT_one (i := 15) rfl (by kernel_rfl) (fun K hK => ?_)
    go_simp
    refine hK.out _ _ (fun _ => hS4) ?_
    clear hK K
    try simp only [Act.put, List.setIfInBounds_toArray, List.set_cons_zero, List.set_cons_succ]
    refine takeT_one (i := 16) rfl (by kernel_rfl) (fun K hK => ?_)
    go_simp
    refine hK.out _ _ (fun h => absurd rfl h) ?_
    clear hK K
    refine takeT_done (by kernel_rfl) ?_ _
    have l5 : (w4.setCell ⟨bs, 0, none⟩ (.slice o4 (N + 1) c4)).heap[w.heap.size]? = some (.cells #[.pointer (some ⟨bs, 0, none⟩), .slice (some ⟨bp, op, none⟩) n cp] 170) := hm4.lays (lays_drew lB) hBn hBo
    have hc5 : (w4.setCell ⟨bs, 0, none⟩ (.slice o4 (N + 1) c4)).cell? ⟨bs, 0, none⟩ = some (.slice o4 (N + 1) c4) := World.cell?_setCell_same _ _ _ hc4
    generalize w4.setCell ⟨bs, 0, none⟩ (.slice o4 (N + 1) c4) = w5 at *
    have q0 : w5.cell? ⟨w.heap.size, 0, none⟩ = some (.pointer (some ⟨bs, 0, none⟩)) := cell_lays l5 0
    have q1 : w5.cell? ⟨w.heap.size, 1, none⟩ = some (.slice (some ⟨bp, op, none⟩) n cp) := cell_lays l5 1
    have hwn : IntKind.i64.wrap (N : Int) = (N : Int) := by rw [IntKind.wrap_i64]; omega
    have hwn1 : IntKind.i64.wrap ((N : Int) + 1 - 1) = (N : Int) := by rw [IntKind.wrap_i64]; omega
    clear hm4 hcl4 hb4 hS4 hS3 hrun hc4 hz4 hne lBL hBL hk3 hHeld k0 b0 b1 lB l5 hkb HCF HBG
    go_upto_region 4 with fail
    refine wp_regionP 9 [0, 1, 2, 3, 4, 5, 6, 7] (fun u => u.cell? ⟨bs, 0, none⟩ = some (.slice o4 (N + 1) c4) ∧ u.cell? ⟨w.heap.size, 0, none⟩ = some (.pointer (some ⟨bs, 0, none⟩)) ∧ u.cell? ⟨w.heap.size, 1, none⟩ = some (.slice (some ⟨bp, op, none⟩) n cp)) (by kernel_rfl) ?_
    have hHeld := And.intro hc5 (And.intro q0 q1)
    repeat
      refine takeP (v := ?_) hHeld (fun u hSu => ?_) ?_
      rotate_left
      · ((try dsimp only at hSu); go_simp) <;> with_reducible rfl
      try simp only [Act.put, List.setIfInBounds_toArray, List.set_cons_zero, List.set_cons_succ]
    refine takeP_end ?_
    refine takeT_one (i := 8) rfl (by kernel_rfl) (fun K hK => ?_)
    go_simp
    refine hK.out _ _ (fun _ => ⟨((Kept.refl w5).alloc _).cell hHeld.1, ((Kept.refl w5).alloc _).cell hHeld.2.1, ((Kept.refl w5).alloc _).cell hHeld.2.2⟩) ?_
    clear hK K
    try simp only [Act.put, List.setIfInBounds_toArray, List.set_cons_zero, List.set_cons_succ]
    refine takeT_one (i := 9) rfl (by kernel_rfl) (fun K hK => ?_)
    go_simp
    refine ((unhide HPUT) V4 w5 (unhide HM4).own).mono ?_
    rintro e w6 ⟨rfl, V6, hm6⟩
    have HM6 := hide ((unhide HM4).trans (hm6.pre (unhide HM4).own ((Kept.refl _).alloc _).drew))
    refine hK.out _ _ (fun h => absurd rfl h) ?_
    clear hK K
    refine takeT_done (by kernel_rfl) ?_ _
    go_wp2
    go_end0
    exact Or.inl ⟨rfl, rfl, V6, unhide HM6⟩
end Go.Proofs.YtokhibfenccijaaGreatDoor
