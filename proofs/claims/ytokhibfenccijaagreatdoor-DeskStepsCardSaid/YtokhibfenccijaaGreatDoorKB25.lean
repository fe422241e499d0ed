/- Moved, EngB, EngC, EngD, EngE, EngF -/
import Derived.Test.YtokhibfenccijaaGreatDoorKB24
import Derived.StillTailTactics
import Derived.Deep.RegionHeld3
import Derived.Laws.CopyOwn
set_option maxRecDepth 100000
set_option maxHeartbeats 8000000
namespace Go.Proofs.YtokhibfenccijaaGreatDoor
open Go.RowKit
structure Moved (base bs : Nat) (V : Key → Value) (s : St) (w : World) (V' : Key → Value) (s' : St) (w' : World) : Prop where
  own : OwnVar base w' bs V' s'
  os : w'.os = w.os
  tape : w'.tape = w.tape
  output : w'.output = w.output
  size : w.heap.size ≤ w'.heap.size
  keep : ∀ b, b < w.heap.size → b ≠ bs → Own.off V s b → w'.heap[b]? = w.heap[b]?
  off : ∀ b, b < w.heap.size → Own.off V s b → Own.off V' s' b
section
variable {base bs : Nat} {V V' V'' : Key → Value} {s s' s'' : St} {w w' w'' : World}
theorem Moved.of_kept (h : OwnVar base w bs V s) (k : Kept w w') : Moved base bs V s w V s w' :=
  ⟨h.kept k, k.os, k.tape, k.output, k.size, fun b hb _ _ => k.block b hb, fun _ _ h => h⟩
theorem Moved.refl (h : OwnVar base w bs V s) : Moved base bs V s w V s w := .of_kept h (Kept.refl w)
theorem Moved.trans (h : Moved base bs V s w V' s' w') (k : Moved base bs V' s' w' V'' s'' w'') : Moved base bs V s w V'' s'' w'' :=
  ⟨k.own, k.os.trans h.os, k.tape.trans h.tape, k.output.trans h.output, Nat.le_trans h.size k.size, fun b hb hn ho => (k.keep b (Nat.lt_of_lt_of_le hb h.size) hn (h.off b hb ho)).trans (h.keep b hb hn ho), fun b hb ho => k.off b (Nat.lt_of_lt_of_le hb h.size) (h.off b hb ho)⟩
theorem Moved.kept (h : Moved base bs V s w V' s' w') (k : Kept w' w'') : Moved base bs V s w V' s' w'' := h.trans (.of_kept h.own k)
theorem Moved.pre {w0 : World} (h : Moved base bs V s w V' s' w') (h0 : OwnVar base w0 bs V s) (k : Kept w0 w) : Moved base bs V s w0 V' s' w' := (Moved.of_kept h0 k).trans h
theorem Moved.below (h : Moved base bs V s w V' s' w') (h0 : OwnVar base w bs V s) : Below base w w' :=
  ⟨h.os, h.tape, h.output, h.size, fun b hb => h.keep b (by have := h0.low; have := lt_of_block h0.var; omega) (by have := h0.low; omega) (fun k hk e => by have := ((h0.own.piece k hk).block b e).1; omega)⟩
theorem Moved.lays (h : Moved base bs V s w V' s' w') {b : Nat} {o : Obj} (hb : w.heap[b]? = some o) (hn : b ≠ bs) (ho : Own.off V s b) : w'.heap[b]? = some o :=
  (h.keep b (Array.getElem?_eq_some_iff.1 hb).1 hn ho).trans hb
theorem Moved.set {g i : Nat} {v : Value} (h' : OwnVar base (w.setCell ⟨g, i, none⟩ v) bs V' s') (hg : g = bs ∨ ∃ k, live s k ∧ (V k).ownBlock = some g)
    (ho : ∀ k b, live s' k → (V' k).ownBlock = some b → ∃ k', live s k' ∧ (V k').ownBlock = some b) : Moved base bs V s w V' s' (w.setCell ⟨g, i, none⟩ v) := by
  refine ⟨h', rfl, rfl, rfl, by simp [World.setCell], fun b hb hn hoff => Below.heap_setCell _ _ _ _ (fun e => ?_), fun b hb hoff k hk e => ?_⟩
  · have e : b = g := e
    rcases hg with hg | ⟨k, hk, hg⟩
    · exact hn (e.trans hg)
    · exact hoff k hk (by rw [hg, e])
  · obtain ⟨k', hk', e'⟩ := ho k b hk e
    exact hoff k' hk' e'
theorem Moved.grow {w2 : World} {K : Key} (hK : live s K) (hgrow : w.grownBy w2 (V K).ownBlock) {g i : Nat} {v : Value} (h' : OwnVar base (w2.setCell ⟨g, i, none⟩ v) bs V' s') (hg : g = bs ∨ ∃ k, live s k ∧ (V k).ownBlock = some g)
    (ho : ∀ k b, live s' k → (V' k).ownBlock = some b → b < w.heap.size → ∃ k', live s k' ∧ (V k').ownBlock = some b) : Moved base bs V s w V' s' (w2.setCell ⟨g, i, none⟩ v) := by
  refine ⟨h', hgrow.os, hgrow.tape, hgrow.output, by simpa [World.setCell] using hgrow.size, fun b hb hn hoff => ?_, fun b hb hoff k hk e => ?_⟩
  · rw [Below.heap_setCell _ _ _ _ (fun e => ?_)]
    · exact hgrow.block b hb (fun e => hoff K hK e.symm)
    · have e : b = g := e
      rcases hg with hg | ⟨k, hk, hg⟩
      · exact hn (e.trans hg)
      · exact hoff k hk (by rw [hg, e])
  · obtain ⟨k', hk', e'⟩ := ho k b hk e hb
    exact hoff k' hk' e'
theorem OwnVar.new (h : OwnVar base w bs V s) {b : Nat} (hb : w.heap.size ≤ b) : b ≠ bs ∧ Own.off V s b :=
  ⟨by have := lt_of_block h.var; omega, h.own.new_off (.inl hb)⟩
theorem Moved.scratch (h : Moved base bs V s w V' s' w') {b i : Nat} {v : Value} (hw : w.heap.size ≤ b) (hn : b ≠ bs) (ho : Own.off V' s' b) : Moved base bs V s w V' s' (w'.setCell ⟨b, i, none⟩ v) := by
  refine ⟨⟨(Below.heap_setCell _ _ _ _ (fun e => hn e.symm)).trans h.own.var, h.own.own.setOff (a := ⟨b, i, none⟩) ho v, h.own.off, h.own.low⟩, h.os, h.tape, h.output, by simpa [World.setCell] using h.size, fun c hc hn' hoff => ?_, h.off⟩
  rw [Below.heap_setCell _ _ _ _ (by show c ≠ b; omega)]
  exact h.keep c hc hn' hoff
theorem Moved.drew (h : Moved base bs V s w V' s' w') : Moved base bs V s w V' s' w'.drew := h.kept (Kept.refl _).drew
theorem Moved.setAt (h : OwnVar base w bs V s) {i j g cap : Nat} (hi : i < s.fibers.length) (hj : j < (fibAt s i).frames.length) (hV : V (.frames i) = .slice (some ⟨g, 0, none⟩) (fibAt s i).frames.length cap) (a : Int) :
    Moved base bs V s w V (setFr s i j { frAt s i j with at_ := a }) (w.setCell ⟨g, j * 4 + 1, none⟩ (.int .i64 a)) :=
  .set (h.setAt hi hj hV a).1 (.inr ⟨.frames i, hi, by rw [hV]; rfl⟩) (fun k b hk e => ⟨k, (setFr_live _ hi k).1 hk, e⟩)
theorem Moved.setLocal (h : OwnVar base w bs V s) {i j g cap q : Nat} (hi : i < s.fibers.length) (hj : j < (fibAt s i).frames.length) (hV : V (.locals i j) = .slice (some ⟨g, 0, none⟩) (frAt s i j).locals.length cap) (z : Int) :
    Moved base bs V s w V (setFr s i j { frAt s i j with locals := (frAt s i j).locals.set q z }) (w.setCell ⟨g, q, none⟩ (.int .i64 z)) :=
  .set (h.setLocal hi hj hV z).1 (.inr ⟨.locals i j, ⟨hi, hj⟩, by rw [hV]; rfl⟩) (fun k b hk e => ⟨k, (setFr_live _ hi k).1 hk, e⟩)
theorem Moved.setNow (h : OwnVar base w bs V s) (n : Int) : Moved base bs V s w V { s with now := n } (w.setCell ⟨bs, 1, none⟩ (.int .i64 n)) :=
  .set (h.setNow n) (.inl rfl) (fun k b hk e => ⟨k, by cases k using Key.by <;> exact hk, e⟩)
theorem setFib_live_frames {s : St} {i : Nat} {b : Fb} (hi : i < s.fibers.length) (hb : b.frames.length ≤ (fibAt s i).frames.length) (k : Key) (hk : live (setFib s i b) k) : live s k := by
  have hfl : ∀ t, (fibAt (setFib s i b) t).frames.length ≤ (fibAt s t).frames.length := fun t => by
    by_cases e : i = t
    · subst e; rw [fibAt_same _ hi]; exact hb
    · rw [fibAt_ne _ e]; exact Nat.le_refl _
  cases k using Key.by with
  | fibers => trivial
  | out => trivial
  | frames t => simpa only [live, setFib_len] using hk
  | locals t q => simp only [live, setFib_len] at hk ⊢; exact ⟨hk.1, Nat.lt_of_lt_of_le hk.2 (hfl t)⟩
  | stack t q => simp only [live, setFib_len] at hk ⊢; exact ⟨hk.1, Nat.lt_of_lt_of_le hk.2 (hfl t)⟩
theorem Moved.setCaller (h : OwnVar base w bs V s) {i g cap : Nat} (hi : i < s.fibers.length) (hV : V .fibers = .slice (some ⟨g, 0, none⟩) s.fibers.length cap) (c : Int) :
    Moved base bs V s w V (setFib s i { fibAt s i with caller := c }) (w.setCell ⟨g, i * 2 + 1, none⟩ (.int .i64 c)) :=
  .set (h.setCaller hi hV c).1 (.inr ⟨.fibers, trivial, by rw [hV]; rfl⟩) (fun k b hk e => ⟨k, setFib_live_frames (b := { fibAt s i with caller := c }) hi (Nat.le_refl _) k hk, e⟩)
theorem Moved.dropFrame (h : OwnVar base w bs V s) {i gF capF g cap : Nat} (hi : i < s.fibers.length)
    (hF : V .fibers = .slice (some ⟨gF, 0, none⟩) s.fibers.length capF) (hV : V (.frames i) = .slice (some ⟨g, 0, none⟩) (fibAt s i).frames.length cap) :
    Moved base bs V s w (upd V (.frames i) (.slice (some ⟨g, 0, none⟩) ((fibAt s i).frames.length - 1) cap)) (setFib s i { fibAt s i with frames := (fibAt s i).frames.dropLast }) (w.setCell ⟨gF, i * 2, none⟩ (.slice (some ⟨g, 0, none⟩) ((fibAt s i).frames.length - 1) cap)) := by
  refine .set (h.dropFrame hi hF hV).1 (.inr ⟨.fibers, trivial, by rw [hF]; rfl⟩) (fun k b hk e => ?_)
  have hl := setFib_live_frames (b := { fibAt s i with frames := (fibAt s i).frames.dropLast }) hi (by simp) k hk
  by_cases hkf : k = .frames i
  · subst hkf
    rw [upd_same] at e
    exact ⟨_, hl, by rw [hV]; exact e⟩
  · rw [upd_ne V _ hkf] at e
    exact ⟨k, hl, e⟩
theorem Moved.turnStack {w2 : World} (h : OwnVar base w bs V s) {i j g cap : Nat} (hi : i < s.fibers.length) (hj : j < (fibAt s i).frames.length) (hV : V (.frames i) = .slice (some ⟨g, 0, none⟩) (fibAt s i).frames.length cap) (vs : Value) (l : List Int)
    (hgrow : w.grownBy w2 (V (.stack i j)).ownBlock) (hown : w2.ownsRow base 3 1 vs l.length (ints l)) (hat : vs.ownBlock = (V (.stack i j)).ownBlock ∨ vs.ownBlock = some w.heap.size) :
    Moved base bs V s w (upd V (.stack i j) vs) (setFr s i j { frAt s i j with stack := l }) (w2.setCell ⟨g, j * 4 + 3, none⟩ vs) := by
  refine .grow (K := .stack i j) ⟨hi, hj⟩ hgrow (h.turnStack hi hj hV vs l hgrow hown hat).1 (.inr ⟨.frames i, hi, by rw [hV]; rfl⟩) (fun k b hk e hb => ?_)
  have hl := (setFr_live _ hi k).1 hk
  by_cases hks : k = .stack i j
  · subst hks
    rw [upd_same] at e
    rcases hat with h1 | h1
    · exact ⟨_, hl, by rw [← h1]; exact e⟩
    · rw [e] at h1; cases h1; omega
  · rw [upd_ne V _ hks] at e
    exact ⟨k, hl, e⟩
theorem Moved.turnOut {w2 : World} (h : OwnVar base w bs V s) (l : List Int) (vo : Value) (hgrow : w.grownBy w2 (V .out).ownBlock) (hown : w2.ownsRow base 3 1 vo l.length (ints l)) (hat : vo.ownBlock = (V .out).ownBlock ∨ vo.ownBlock = some w.heap.size) :
    Moved base bs V s w (upd V .out vo) { s with out := l } (w2.setCell ⟨bs, 2, none⟩ vo) := by
  refine .grow (K := .out) trivial hgrow (h.turnOut l vo hgrow hown hat).1 (.inl rfl) (fun k b hk e hb => ?_)
  have hl : live s k := by cases k using Key.by <;> exact hk
  by_cases hks : k = .out
  · subst hks
    rw [upd_same] at e
    rcases hat with h1 | h1
    · exact ⟨_, hl, by rw [← h1]; exact e⟩
    · rw [e] at h1; cases h1; omega
  · rw [upd_ne V _ hks] at e
    exact ⟨k, hl, e⟩
structure Past (bs : Nat) (V : Key → Value) (s : St) (w w' : World) : Prop where
  os : w'.os = w.os
  tape : w'.tape = w.tape
  output : w'.output = w.output
  size : w.heap.size ≤ w'.heap.size
  keep : ∀ b, b < w.heap.size → b ≠ bs → Own.off V s b → w'.heap[b]? = w.heap[b]?
theorem Past.of_kept (k : Kept w w') : Past bs V s w w' := ⟨k.os, k.tape, k.output, k.size, fun b hb _ _ => k.block b hb⟩
theorem Moved.past (h : Moved base bs V s w V' s' w') (k : Past bs V' s' w' w'') : Past bs V s w w'' :=
  ⟨k.os.trans h.os, k.tape.trans h.tape, k.output.trans h.output, Nat.le_trans h.size k.size, fun b hb hn ho => (k.keep b (Nat.lt_of_lt_of_le hb h.size) hn (h.off b hb ho)).trans (h.keep b hb hn ho)⟩
theorem Past.below (h : Past bs V s w w') (h0 : OwnVar base w bs V s) : Below base w w' :=
  ⟨h.os, h.tape, h.output, h.size, fun b hb => h.keep b (by have := h0.low; have := lt_of_block h0.var; omega) (by have := h0.low; omega) (fun k hk e => by have := ((h0.own.piece k hk).block b e).1; omega)⟩
theorem Past.lays (h : Past bs V s w w') {b : Nat} {o : Obj} (hb : w.heap[b]? = some o) (hn : b ≠ bs) (ho : Own.off V s b) : w'.heap[b]? = some o :=
  (h.keep b (Array.getElem?_eq_some_iff.1 hb).1 hn ho).trans hb
end
end Go.Proofs.YtokhibfenccijaaGreatDoor
namespace Go.Proofs.YtokhibfenccijaaGreatDoor
open Go.RowKit
theorem engTop_own {base bs : Nat} {w : World} {V : Key → Value} {s : St} (h : OwnVar base w bs V s) {i : Nat} (hn : s.now = i) (hr : Runs s i) (oa : Option Addr) (n cp : Nat) :
    ∃ g cap, V (.frames i) = .slice (some ⟨g, 0, none⟩) (fibAt s i).frames.length cap ∧ ∀ u, OwnVar base u bs V s → Calls Tryz.prog 165 #[eng bs (.slice oa n cp)] u fun e w' => e = .returned (.pointer (some ⟨g, ((fibAt s i).frames.length - 1) * 4, none⟩)) ∧ Kept u w' := by
  obtain ⟨g, cap, eg, _, _⟩ := h.own.fr hr.lt (j := 0) hr.fr
  refine ⟨g, cap, eg, fun u hu => ?_⟩
  obtain ⟨gF, capF, eF, _, k0, _⟩ := hu.own.fib hr.lt
  obtain ⟨c0, c1, _⟩ := hu.cells
  rw [eF] at c0
  rw [eg] at k0
  rw [hn] at c1
  exact engTop_any bs _ capF gF i _ cap g n cp oa u hr.lt hr.fr hr.frs c0 c1 k0
theorem running_own {base bs : Nat} {w : World} {V : Key → Value} {s : St} (h : OwnVar base w bs V s) {i : Nat} (hn : s.now = i) (hi : i < s.fibers.length) (oa : Option Addr) (n cp : Nat) :
    ∃ gF capF, V .fibers = .slice (some ⟨gF, 0, none⟩) s.fibers.length capF ∧ ∀ u, OwnVar base u bs V s → Calls Tryz.prog 193 #[eng bs (.slice oa n cp)] u fun e w' => e = .returned (.pointer (some ⟨gF, i * 2, none⟩)) ∧ Kept u w' := by
  obtain ⟨gF, capF, eF, _, _⟩ := h.own.fib hi
  refine ⟨gF, capF, eF, fun u hu => ?_⟩
  obtain ⟨c0, c1, _⟩ := hu.cells
  rw [eF] at c0
  rw [hn] at c1
  exact running_any bs _ capF gF i n cp oa u hi c0 c1
def NextPost (base bs : Nat) (V : Key → Value) (s s' : St) (kd a : Int) (w : World) (e : Ending) (w' : World) : Prop := e = .returned (.agg #[.int .i64 kd, .int .i64 a]) ∧ Moved base bs V s w V s' w'
theorem engNext_any (base bs : Nat) (V : Key → Value) (s : St) (i cp bp op n fi ai cb co cl cc : Nat) (kd a : Int) (w : World) (h : OwnVar base w bs V s) (hd : DoAt base w s i bp op n fi ai cb co cl cc kd a) :
    Calls Tryz.prog 133 #[eng bs (.slice (some ⟨bp, op, none⟩) n cp)] w (NextPost base bs V s (nextS s i ai) kd a w) := by
  obtain ⟨g, cap, eg, htop⟩ := engTop_own h hd.now hd.runs (some ⟨bp, op, none⟩) n cp
  unfold nextS
  generalize hj : (fibAt s i).frames.length - 1 = j at *
  have hjl : j < (fibAt s i).frames.length := by have := hd.runs.fr; omega
  have hi := hd.runs.lt
  have hfn : (frAt s i j).fn = fi := by rw [← hj]; exact hd.fn
  have hat : (frAt s i j).at_ = ai := by rw [← hj]; exact hd.at_
  have hfin := hd.fin
  have hain := hd.ain
  have hmost := hd.most
  have HC := hide hd.cells
  have HT := hide htop
  have HO := hide h
  have HEG := hide eg
  have hbw := lt_of_block h.var
  have hlow := h.low
  have hgw := ((h.own.piece (.frames i) hi).block g (by rw [eg]; rfl)).2
  have hglow := ((h.own.piece (.frames i) hi).block g (by rw [eg]; rfl)).1
  have hw1 : IntKind.i64.wrap ((ai : Int) + 1) = (ai : Int) + 1 := by rw [IntKind.wrap_i64]; omega
  have hw2 : IntKind.i64.wrap ((ai : Int) + 1 - 1) = (ai : Int) := by rw [IntKind.wrap_i64]; omega
  have hw3 : IntKind.i64.wrap (ai : Int) = (ai : Int) := by rw [IntKind.wrap_i64]; omega
  have ha1 : (ai : Int) + 1 - 1 = (ai : Int) := by omega
  have ha0 : (0 : Int) ≤ (ai : Int) := by omega
  have ha2 : (ai : Int) < (cl : Int) := by omega
  have hf0 : (0 : Int) ≤ (fi : Int) := by omega
  have hf2 : (fi : Int) < (n : Int) := by omega
  clear htop h hd eg hj
  go_enter Tryz.func133, Tryz.ntmps133
  go_wp2_with fail
  generalize hwb : (w.alloc (.cells #[.pointer (some ⟨bs, 0, none⟩), .slice (some ⟨bp, op, none⟩) n cp] 170)).alloc (.cells #[.int .i64 0, .int .i64 0] 72) = wb
  have hkb : Kept w wb := by rw [← hwb]; exact ((Kept.refl w).alloc _).alloc _
  have lB0 : wb.heap[w.heap.size]? = some (.cells #[.pointer (some ⟨bs, 0, none⟩), .slice (some ⟨bp, op, none⟩) n cp] 170) := by rw [← hwb]; exact lays_alloc (lays_new rfl) _
  have lB1 : wb.heap[w.heap.size + 1]? = some (.cells #[.int .i64 0, .int .i64 0] 72) := by rw [← hwb]; exact lays_new (by simp)
  have hob : OwnVar base wb bs V s := (unhide HO).kept hkb
  refine ((unhide HT) wb hob).mono ?_
  rintro e w1 ⟨rfl, hk1⟩
  have ho1 := hob.kept hk1
  have l10 := lays_kept hk1 lB0
  have l11 := lays_kept hk1 lB1
  have hk01 := hkb.trans hk1
  obtain ⟨g', cap', eg', _, f0, f1, f2, f3, ffz, _⟩ := ho1.own.fr hi hjl
  rw [unhide HEG] at eg'
  obtain ⟨⟨rfl⟩, -, rfl⟩ := (by simpa using eg' : (g = g') ∧ True ∧ cap = cap')
  rw [hfn] at f0
  rw [hat] at f1
  have hfz := ffz (j * 4 + 1)
  have HM := hide (Moved.setAt ho1 hi hjl (unhide HEG) ((ai : Int) + 1))
  have HK01 := hide hk01
  have HL10 := hide l10
  have HL11 := hide l11
  clear hwb hob hk01 hk1 ho1 eg' ffz f2 f3 hkb lB0 lB1
  go_upto_region 3 with fail
  generalize hW2 : w1.setCell ⟨g, j * 4 + 1, none⟩ (.int .i64 ((ai : Int) + 1)) = w2 at *
  have g0 : w2.cell? ⟨g, j * 4, none⟩ = some (.int .i64 fi) := by rw [← hW2]; exact (World.cell?_setCell_other _ _ _ _ (by simp)).trans f0
  have g1 : w2.cell? ⟨g, j * 4 + 1, none⟩ = some (.int .i64 ((ai : Int) + 1)) := by rw [← hW2]; exact World.cell?_setCell_same _ _ _ f1
  have m0 : w2.heap[w.heap.size]? = some (.cells #[.pointer (some ⟨bs, 0, none⟩), .slice (some ⟨bp, op, none⟩) n cp] 170) := by rw [← hW2]; exact lays_other (unhide HL10) (by simp only; omega) _
  have m1 : w2.heap[w.heap.size + 1]? = some (.cells #[.int .i64 0, .int .i64 0] 72) := by rw [← hW2]; exact lays_other (unhide HL11) (by simp only; omega) _
  have HM2 := hide ((unhide HM).pre (unhide HO) (unhide HK01))
  obtain ⟨p0, p1, p2⟩ := (unhide HC) w2 ((unhide HM2).below (unhide HO))
  have b1 : w2.cell? ⟨w.heap.size, 1, none⟩ = some (.slice (some ⟨bp, op, none⟩) n cp) := cell_lays m0 1
  have r0 : w2.cell? ⟨w.heap.size + 1, 0, none⟩ = some (.int .i64 0) := cell_lays m1 0
  have r1 : w2.cell? ⟨w.heap.size + 1, 1, none⟩ = some (.int .i64 0) := cell_lays m1 1
  have z0 := frozen_lays m1 0
  have z1 := frozen_lays m1 1
  have HM1 := hide m1
  clear hW2 m0 m1 f0 f1 hfz HC HT
  go_still_tail 16, (by kernel_rfl)
  go_wp2
  have hB1 := (unhide HO).new (b := w.heap.size + 1) (by omega)
  have hoff := (unhide HM).off (w.heap.size + 1) (Array.getElem?_eq_some_iff.1 (unhide HL11)).1 hB1.2
  have q0 := cell_lays (lays_set (lays_set (unhide HM1) 0 (.int .i64 kd)) 1 (.int .i64 a)) 0
  have q1 := cell_lays (lays_set (lays_set (unhide HM1) 0 (.int .i64 kd)) 1 (.int .i64 a)) 1
  refine bodyPost_ret (v := .agg #[.int .i64 kd, .int .i64 a]) (by simp [results, Tryz.results133, go_sem, q0, q1]) rfl ⟨rfl, ?_⟩
  exact (((unhide HM2).scratch (by omega) hB1.1 hoff).scratch (by omega) hB1.1 hoff).drew
def TakePost (base bs : Nat) (V : Key → Value) (s : St) (i j t : Nat) (l : List Int) (w : World) (e : Ending) (w' : World) : Prop :=
  ∃ v V', e = .returned v ∧ IntsW w' v (l.drop t) ∧ Moved base bs V s w V' (setFr s i j { frAt s i j with stack := l.take t }) w' ∧ ∀ K, K ≠ .stack i j → V' K = V K
theorem row_nil {w : World} {base : Nat} {n cap : Nat} {l : List Int} (h : w.ownsRow base 3 1 (.slice none n cap) l.length (ints l)) : l = [] ∧ n = 0 ∧ cap = 0 := by
  obtain ⟨oa, c, e, h1⟩ := row_slice h
  simp only [Value.slice.injEq] at e
  obtain ⟨rfl, rfl, rfl⟩ := e
  rcases h1 with ⟨_, h0⟩ | ⟨g, hg, _⟩
  · rcases h.2 with ⟨e, _⟩ | ⟨g, cap, cur, e, _⟩
    · simp only [Value.slice.injEq] at e
      exact ⟨List.length_eq_zero_iff.1 h0, e.2.1, e.2.2⟩
    · simp at e
  · cases hg
theorem takeAll_any (base bs : Nat) (V : Key → Value) (s : St) (i k n cp : Nat) (oa : Option Addr) (w : World) (h : OwnVar base w bs V s) (hn : s.now = i) (hr : Runs s i) (hk : k ≤ (frAt s i ((fibAt s i).frames.length - 1)).stack.length) :
    Calls Tryz.prog 192 #[eng bs (.slice oa n cp), .int .i64 k] w (TakePost base bs V s i ((fibAt s i).frames.length - 1) ((frAt s i ((fibAt s i).frames.length - 1)).stack.length - k) (frAt s i ((fibAt s i).frames.length - 1)).stack w) := by
  obtain ⟨g, cap, eg, htop⟩ := engTop_own h hn hr oa n cp
  generalize hj : (fibAt s i).frames.length - 1 = j at *
  have hjl : j < (fibAt s i).frames.length := by have := hr.fr; omega
  have hi := hr.lt
  have hst : (frAt s i j).stack.length ≤ 1000 := by rw [← hj]; exact hr.st
  generalize hl : (frAt s i j).stack = l at *
  obtain ⟨t, ht⟩ : ∃ t, l.length = t + k := ⟨l.length - k, by omega⟩
  have hsub : l.length - k = t := by omega
  rw [hsub]
  have HT := hide htop
  have HO := hide h
  have HEG := hide eg
  have HL := hide hl
  have HTL := hide ht
  have hgw := ((h.own.piece (.frames i) hi).block g (by rw [eg]; rfl)).2
  have hw1 : IntKind.i64.wrap (((t + k : Nat) : Int) - (k : Int)) = (t : Int) := by rw [IntKind.wrap_i64]; omega
  have hw2 : IntKind.i64.wrap ((t : Int) + (k : Int) - (k : Int)) = (t : Int) := by rw [IntKind.wrap_i64]; omega
  have hw3 : IntKind.i64.wrap (t : Int) = (t : Int) := by rw [IntKind.wrap_i64]; omega
  have ht0 : (0 : Int) ≤ (t : Int) := by omega
  have ht1 : (t : Int) ≤ ((t + k : Nat) : Int) := by omega
  have ht2 : (t : Int) ≤ (t : Int) + (k : Int) := by omega
  clear htop h eg hj hl
  go_enter Tryz.func192, Tryz.ntmps192
  go_wp2_with fail
  generalize hwb : w.alloc (.cells #[.pointer (some ⟨bs, 0, none⟩), .slice oa n cp] 170) = wb
  have hkb : Kept w wb := by rw [← hwb]; exact (Kept.refl w).alloc _
  have hob : OwnVar base wb bs V s := (unhide HO).kept hkb
  refine ((unhide HT) wb hob).mono ?_
  rintro e w1 ⟨rfl, hk1⟩
  have ho1 := hob.kept hk1
  have hk01 := hkb.trans hk1
  obtain ⟨g', cap', eg', _, f0, f1, f2, f3, ffz, _⟩ := ho1.own.fr hi hjl
  rw [unhide HEG] at eg'
  obtain ⟨⟨rfl⟩, -, rfl⟩ := (by simpa using eg' : (g = g') ∧ True ∧ cap = cap')
  have hs := ho1.own.stk hi hjl
  rw [unhide HL] at hs
  have hfz := ffz (j * 4 + 3)
  have HM0 := hide (Moved.of_kept (unhide HO) hk01)
  have HO1 := hide ho1
  clear hwb hob hk01 hk1 ho1 eg' ffz f0 f1 f2 hkb HT
  obtain ⟨os, cs, es, hrow⟩ := row_slice hs
  rw [es] at f3 hs
  have HES := hide es
  cases os with
  | none =>
    obtain ⟨rfl, hz, rfl⟩ := row_nil hs
    simp only [List.length_nil] at ht f3
    obtain rfl : t = 0 := by omega
    obtain rfl : k = 0 := by omega
    clear hrow es hs
    go_wp2
    go_ret
    refine ⟨_, upd V (.stack i j) (.slice none 0 0), rfl, IntsW.nil _, ?_, fun K hK => upd_ne V _ hK⟩
    have hm := Moved.turnStack (unhide HO1) (w2 := w1) hi hjl (unhide HEG) (.slice none 0 0) [] (grown_refl _ _) (World.ownsRow_nil _ _ _ _) (.inl (by rw [unhide HES]; rfl))
    exact (unhide HM0).trans hm
  | some ad =>
    rcases hrow with ⟨h0, _⟩ | ⟨gs, e0, hcell⟩
    · cases h0
    obtain rfl : ad = ⟨gs, 0, none⟩ := by simpa using e0
    have hcs : l.length ≤ cs := row_cap hs
    rw [ht] at f3
    have hc1 : (t : Int) ≤ (cs : Int) := by omega
    have hc2 : ((t + k : Nat) : Int) ≤ (cs : Int) := by omega
    have HS := hide hs
    have HCL := hide hcell
    clear es hs e0 hcell
    have hrow : w1.ownsRow base 3 1 (.slice (some ⟨gs, 0, none⟩) t cs) (l.take t).length (ints (l.take t)) := by
      rw [List.length_take, Nat.min_eq_left (by omega)]
      exact row_cut (unhide HS) rfl t (by omega)
    have HM := hide ((unhide HM0).trans (Moved.turnStack (unhide HO1) (w2 := w1) hi hjl (unhide HEG) (.slice (some ⟨gs, 0, none⟩) t cs) (l.take t) (grown_refl _ _) hrow (.inl (by rw [unhide HES]; rfl))))
    have hgs : gs ≠ g := by
      rintro rfl
      have := (unhide HO1).own.apart (.stack i j) (.frames i) gs ⟨hi, hjl⟩ hi (by rw [unhide HES]; rfl) (by rw [unhide HEG]; rfl)
      cases this
    clear hrow
    by_cases hct : cs = t
    · subst hct
      go_wp2
      go_ret
      refine ⟨_, _, rfl, ?_, unhide HM, fun K hK => upd_ne V _ hK⟩
      obtain rfl : k = 0 := by omega
      rw [List.drop_eq_nil_of_le (by omega)]
      exact ⟨_, _, rfl, by simp, fun q z hz => by simp at hz⟩
    · go_wp2
      go_ret
      refine ⟨_, _, rfl, ?_, unhide HM, fun K hK => upd_ne V _ hK⟩
      have hdl : (l.drop t).length = k := by rw [List.length_drop]; omega
      refine ⟨some ⟨gs, t, none⟩, cs - t, by rw [hdl]; rfl, by omega, fun q z hz => ⟨gs, t, rfl, ?_⟩⟩
      rw [List.getElem?_drop] at hz
      exact cell_set_ne ((unhide HCL) (t + q) _ (ints_at hz)) hgs _
def OnePost (base bs : Nat) (V : Key → Value) (s s' : St) (r : Value) (w : World) (e : Ending) (w' : World) : Prop := e = .returned r ∧ ∃ V', Moved base bs V s w V' s' w'
theorem take_sharp (base bs : Nat) (V : Key → Value) (s : St) (i n cp : Nat) (oa : Option Addr) (w : World) (h : OwnVar base w bs V s) (hn : s.now = i) (hr : Runs s i) (hk : 0 < (frAt s i ((fibAt s i).frames.length - 1)).stack.length) :
    Calls Tryz.prog 164 #[eng bs (.slice oa n cp)] w (fun e w' => e = .returned (.int .i64 (lastV s)) ∧ ∃ V', Moved base bs V s w V' (pullV s) w' ∧ ∀ K, K ≠ .stack i ((fibAt s i).frames.length - 1) → V' K = V K) := by
  have hlast : lastV s = (frAt s i ((fibAt s i).frames.length - 1)).stack.getD ((frAt s i ((fibAt s i).frames.length - 1)).stack.length - 1) 0 := by
    unfold lastV
    rw [top_at hn, List.getLast?_eq_getElem?]
    rfl
  have hpull : pullV s = setFr s i ((fibAt s i).frames.length - 1) { frAt s i ((fibAt s i).frames.length - 1) with stack := (frAt s i ((fibAt s i).frames.length - 1)).stack.take ((frAt s i ((fibAt s i).frames.length - 1)).stack.length - 1) } := by
    rw [pullV_setFr hn, List.dropLast_eq_take]
  have hb : ∀ o, OwnVar base (w.alloc o) bs V s := fun o => h.alloc o
  have HC := hide (fun o => takeAll_any base bs V s i 1 n cp oa (w.alloc o) (hb o) hn hr hk)
  rw [hlast, hpull]
  generalize hj : (fibAt s i).frames.length - 1 = j at *
  generalize hl : (frAt s i j).stack = l at *
  have HO := hide h
  clear hb hlast hpull h
  go_enter Tryz.func164, Tryz.ntmps164
  go_wp2_with fail
  refine ((unhide HC) _).mono ?_
  rintro e w1 ⟨v, V', rfl, ⟨ov, cv, rfl, _, hcell⟩, hm, hV⟩
  have hdl : (l.drop (l.length - 1)).length = 1 := by rw [List.length_drop]; omega
  rw [hdl]
  obtain ⟨bv, offv, rfl, hc⟩ := hcell 0 (l.getD (l.length - 1) 0) (by
    rw [List.getElem?_drop, Nat.add_zero]
    exact getD_of_lt _ _ _ (by omega))
  rw [Nat.add_zero] at hc
  have HM := hide (hm.pre (unhide HO) ((Kept.refl w).alloc _))
  have HV := hide hV
  clear hm hcell hV
  go_wp2
  go_ret
  exact ⟨rfl, V', unhide HM, unhide HV⟩
theorem take_any (base bs : Nat) (V : Key → Value) (s : St) (i n cp : Nat) (oa : Option Addr) (w : World) (h : OwnVar base w bs V s) (hn : s.now = i) (hr : Runs s i) (hk : 0 < (frAt s i ((fibAt s i).frames.length - 1)).stack.length) :
    Calls Tryz.prog 164 #[eng bs (.slice oa n cp)] w (OnePost base bs V s (pullV s) (.int .i64 (lastV s)) w) :=
  (take_sharp base bs V s i n cp oa w h hn hr hk).mono fun _ _ ⟨h1, V', h2, _⟩ => ⟨h1, V', h2⟩
theorem info_int : ∃ i0, Tryz.prog.info? 3 = some i0 ∧ i0.zero = some (.int .i64 0) ∧ i0.size = 1 ∧ i0.bytes = 8 := info_parts infoInt
theorem engPut_any (base bs : Nat) (V : Key → Value) (s : St) (i n cp B : Nat) (oa : Option Addr) (z : Int) (w : World) (h : OwnVar base w bs V s) (hn : s.now = i) (hr : Runs s i) (hB : w.cell? ⟨B, 0, none⟩ = some (.int .i64 z)) :
    Calls Tryz.prog 163 #[eng bs (.slice oa n cp), .slice (some ⟨B, 0, none⟩) 1 1] w (OnePost base bs V s (pushV s i z) (.tuple #[]) w) := by
  obtain ⟨i0, hi0, hz0, hz1, hz2⟩ := info_int
  obtain ⟨g, cap, eg, htop⟩ := engTop_own h hn hr oa n cp
  unfold pushV
  rw [turnTop_setFr]
  generalize hj : (fibAt s i).frames.length - 1 = j at *
  have hjl : j < (fibAt s i).frames.length := by have := hr.fr; omega
  have hi := hr.lt
  have hst : (frAt s i j).stack.length ≤ 1000 := by rw [← hj]; exact hr.st
  generalize hl : (frAt s i j).stack = l at *
  have HT := hide htop
  have HO := hide h
  have HEG := hide eg
  have HL := hide hl
  have hgw := ((h.own.piece (.frames i) hi).block g (by rw [eg]; rfl)).2
  have hbw : base ≤ w.heap.size := by have := h.low; have := lt_of_block h.var; omega
  clear htop h eg hj hl
  go_enter Tryz.func163, Tryz.ntmps163
  go_wp2_with fail
  generalize hwb : w.alloc (.cells #[.pointer (some ⟨bs, 0, none⟩), .slice oa n cp] 170) = wb
  have hkb : Kept w wb := by rw [← hwb]; exact (Kept.refl w).alloc _
  have hob : OwnVar base wb bs V s := (unhide HO).kept hkb
  refine ((unhide HT) wb hob).mono ?_
  rintro e w1 ⟨rfl, hk1⟩
  have ho1 := hob.kept hk1
  have hk01 := hkb.trans hk1
  have hB1 : w1.cell? ⟨B, 0, none⟩ = some (.int .i64 z) := hk01.cell hB
  have hnews : ∀ q u, [Value.int .i64 z][q]? = some u → w1.cell? ((⟨B, 0, none⟩ : Addr).add q) = some u := by
    intro q u hq
    match q, hq with
    | 0, hq => simp at hq; subst hq; exact hB1
  obtain ⟨g', cap', eg', _, f0, f1, f2, f3, ffz, _⟩ := ho1.own.fr hi hjl
  rw [unhide HEG] at eg'
  obtain ⟨⟨rfl⟩, -, rfl⟩ := (by simpa using eg' : (g = g') ∧ True ∧ cap = cap')
  have hs := ho1.own.stk hi hjl
  rw [unhide HL] at hs
  have hfz := ffz (j * 4 + 3)
  have hlg := cell_lt f0
  simp only at hlg
  have hbw1 : base ≤ w1.heap.size := Nat.le_trans hbw hk01.size
  have hgs : (V (.stack i j)).ownBlock ≠ some g := fun e => by
    have := ho1.own.apart (.stack i j) (.frames i) g ⟨hi, hjl⟩ hi e (by rw [unhide HEG]; rfl)
    cases this
  have HM0 := hide (Moved.of_kept (unhide HO) hk01)
  have HO1 := hide ho1
  have HS := hide hs
  have HN := hide hnews
  generalize hvs : V (.stack i j) = vs0 at *
  have HVS := hide hvs
  clear hwb hob hk01 hk1 ho1 eg' ffz f0 f1 f2 hkb HT hs hvs hnews hB1 hB
  go_wp2_with (at_builtin; refine wpList_append_own_at _ rfl _ _ 30 rfl base 3 i0 (.int .i64 0) 1 8 Tryz.underlying30 hi0 hz0 hz1 hz2 rfl (by decide) _ _ _ rfl (unhide HS) ⟨B, 0, none⟩ 1 1 [.int .i64 z] rfl rfl (unhide HN) (int_one _) (by unfold maxLen; omega) (by omega) hbw1 ?_; intro v' w2 hown' hgrow _ hat; obtain ⟨o2, c2, rfl, -⟩ := row_slice hown'; have g3 : w2.cell? ⟨g, j * 4 + 3, none⟩ = some vs0 := hgrow.cell f3 (fun e => hgs e.symm); have gz : w2.frozen? ⟨g, j * 4 + 3, none⟩ = false := (World.frozen?_of_block (hgrow.block g hlg (fun e => hgs e.symm))).trans hfz; have HOW := hide hown'; have HGR := hide hgrow; have HAT := hide hat; clear hown' hgrow hat)
  go_end0
  refine ⟨rfl, upd V (.stack i j) (.slice o2 (l.length + 1) c2), ?_⟩
  refine (unhide HM0).trans (Moved.turnStack (unhide HO1) (w2 := w2) hi hjl (unhide HEG) (.slice o2 (l.length + 1) c2) (l ++ [z]) (by rw [unhide HVS]; exact unhide HGR) (by rw [ints_append, List.length_append]; exact unhide HOW) (by rw [unhide HVS]; exact unhide HAT))
theorem stepTruth_any (b : Bool) (w : World) : Calls Tryz.prog 171 #[.bool b] w fun e w' => e = .returned (.int .i64 (truthS b)) ∧ w = w' := by
  cases b with
  | true =>
    go_enter Tryz.func171, Tryz.ntmps171
    go_wp2
    go_ret
    exact ⟨rfl, rfl⟩
  | false =>
    go_enter Tryz.func171, Tryz.ntmps171
    go_wp2
    go_ret
    exact ⟨rfl, rfl⟩
def Reckons (k : Nat) (kd : Int) : Prop := ∀ (a b : Int) (w : World), Calls Tryz.prog k #[.int .i64 a, .int .i64 b] w fun e w' => e = .returned (.int .i64 (reckonS kd a b)) ∧ w = w'
theorem reckons4 : Reckons 167 4 := by
  intro a b w
  rw [show reckonS 4 a b = wrapS (a + b) from rfl, ← wrap64_S]
  go_enter Tryz.func167, Tryz.ntmps167
  go_wp2
  go_ret
  exact ⟨rfl, rfl⟩
theorem reckons5 : Reckons 168 5 := by
  intro a b w
  rw [show reckonS 5 a b = wrapS (a - b) from rfl, ← wrap64_S]
  go_enter Tryz.func168, Tryz.ntmps168
  go_wp2
  go_ret
  exact ⟨rfl, rfl⟩
theorem reckons6 : Reckons 169 6 := by
  intro a b w
  rw [show reckonS 6 a b = wrapS (a * b) from rfl, ← wrap64_S]
  go_enter Tryz.func169, Tryz.ntmps169
  go_wp2
  go_ret
  exact ⟨rfl, rfl⟩
theorem reckons7 : Reckons 170 7 := by
  intro a b w
  rw [show reckonS 7 a b = truthS (decide (a < b)) from rfl]
  go_enter Tryz.func170, Tryz.ntmps170
  go_wp2_with (go_at_call 171; refine (stepTruth_any _ _).mono ?_; rintro e w' ⟨rfl, rfl⟩)
  go_ret
  exact ⟨rfl, rfl⟩
theorem reckons8 : Reckons 172 8 := by
  intro a b w
  rw [show reckonS 8 a b = truthS (decide (a = b)) from rfl]
  go_enter Tryz.func172, Tryz.ntmps172
  go_wp2_with (go_at_call 171; refine (stepTruth_any _ _).mono ?_; rintro e w' ⟨rfl, rfl⟩)
  go_ret
  exact ⟨rfl, rfl⟩
theorem reckon_any (k : Nat) (kd : Int) (hk5 : k = 167 ∨ k = 168 ∨ k = 169 ∨ k = 170 ∨ k = 172) (hre : Reckons k kd) (base bs : Nat) (V : Key → Value) (s : St) (i n cp : Nat) (oa : Option Addr) (w : World) (h : OwnVar base w bs V s) (hn : s.now = i) (hr : Runs s i) (hk : 2 ≤ (frAt s i ((fibAt s i).frames.length - 1)).stack.length) :
    Calls Tryz.prog 166 #[eng bs (.slice oa n cp), .func (.func k) #[] #[]] w (OnePost base bs V s (pushV (pullV (pullV s)) i (reckonS kd (lastV (pullV s)) (lastV s))) (.tuple #[]) w) := by
  obtain ⟨hn1, hr1, hs1⟩ := pull_runs hn hr
  obtain ⟨hn2, hr2, _⟩ := pull_runs hn1 hr1
  have hk1 : 0 < (frAt (pullV s) i ((fibAt (pullV s) i).frames.length - 1)).stack.length := by rw [hs1]; simp; omega
  have HR := hide hr
  have HR1 := hide hr1
  have HR2 := hide hr2
  have HO := hide h
  have HRE := hide hre
  generalize hs1' : pullV s = s1 at *
  generalize hs2' : pullV s1 = s2 at *
  generalize hz : lastV s = z at *
  generalize hz1 : lastV s1 = z1 at *
  have HTK : Hid (∀ u V', OwnVar base u bs V' s → Calls Tryz.prog 164 #[eng bs (.slice oa n cp)] u (OnePost base bs V' s s1 (.int .i64 z) u)) := hide (fun u V' hu => by
    have := take_any base bs V' s i n cp oa u hu hn (unhide HR) (by omega); rw [hs1', hz] at this; exact this)
  have HTK1 : Hid (∀ u V', OwnVar base u bs V' s1 → Calls Tryz.prog 164 #[eng bs (.slice oa n cp)] u (OnePost base bs V' s1 s2 (.int .i64 z1) u)) := hide (fun u V' hu => by
    have := take_any base bs V' s1 i n cp oa u hu hn1 (unhide HR1) hk1; rw [hs2', hz1] at this; exact this)
  clear hs1' hs2' hz hz1 hs1 h hre hr hr1 hr2
  rcases hk5 with rfl | rfl | rfl | rfl | rfl
  all_goals
    go_enter Tryz.func166, Tryz.ntmps166
    go_wp2_with fail
    generalize hwb : w.alloc (.cells #[.pointer (some ⟨bs, 0, none⟩), .slice oa n cp] 170) = wb
    have hkb : Kept w wb := by rw [← hwb]; exact (Kept.refl w).alloc _
    have hob : OwnVar base wb bs V s := (unhide HO).kept hkb
    have lB : wb.heap[w.heap.size]? = some (.cells #[.pointer (some ⟨bs, 0, none⟩), .slice oa n cp] 170) := by rw [← hwb]; exact lays_new rfl
    obtain ⟨hBn, hBo⟩ := (unhide HO).new (b := w.heap.size) (by omega)
    refine ((unhide HTK) wb V hob).mono ?_
    rintro e w1 ⟨rfl, V1, hm1⟩
    have l1 := hm1.lays lB hBn hBo
    have hBo1 := hm1.off _ (Array.getElem?_eq_some_iff.1 lB).1 hBo
    have hm01 := hm1.pre (unhide HO) hkb
    have b0 : w1.cell? ⟨w.heap.size, 0, none⟩ = some (.pointer (some ⟨bs, 0, none⟩)) := cell_lays l1 0
    have b1 : w1.cell? ⟨w.heap.size, 1, none⟩ = some (.slice oa n cp) := cell_lays l1 1
    have HM := hide hm01
    have HL1 := hide l1
    have HBO := hide hBo1
    clear hm1 hm01 hwb hkb hob lB l1 hBo hBo1 HTK
    go_upto_region 2 with fail
    have HKP : Hid (∀ V2 s' u, Moved base bs V1 s1 w1.drew V2 s' u → u.cell? ⟨w.heap.size, 0, none⟩ = some (.pointer (some ⟨bs, 0, none⟩)) ∧ u.cell? ⟨w.heap.size, 1, none⟩ = some (.slice oa n cp)) := hide (fun V2 s' u hm =>
      have l2 := hm.lays (lays_drew (unhide HL1)) hBn (unhide HBO)
      ⟨cell_lays l2 0, cell_lays l2 1⟩)
    have HPUT : Hid (∀ V2 u x, OwnVar base u bs V2 s2 → Calls Tryz.prog 163 #[eng bs (.slice oa n cp), .slice (some ⟨u.heap.size, 0, none⟩) 1 1] (u.alloc (.cells #[.int .i64 x] 3)) (OnePost base bs V2 s2 (pushV s2 i x) (.tuple #[]) (u.alloc (.cells #[.int .i64 x] 3)))) := hide (fun V2 u x hu =>
      engPut_any base bs V2 s2 i n cp u.heap.size oa x _ (hu.alloc _) hn2 (unhide HR2) (cell_lays (lays_new rfl) 0))
    have HREC := hide (fun a b u => (unhide HRE) a b u)
    go_region_held3 (fun w' => w'.cell? ⟨w.heap.size, 0, none⟩ = some (.pointer (some ⟨bs, 0, none⟩)) ∧ w'.cell? ⟨w.heap.size, 1, none⟩ = some (.slice oa n cp)) (first | go_keep | exact (unhide HKP) _ _ _ ((hm2.kept ((Kept.refl _).alloc _)).trans hm3) | exact (unhide HKP) _ _ _ hm2)
      (first
        | (go_at_call 164; refine ((unhide HTK1) _ V1 (unhide HM).drew.own).mono ?_; rintro e w2 ⟨rfl, V2, hm2⟩)
        | (go_at_call 163; refine ((unhide HPUT) V2 _ _ hm2.own).mono ?_; rintro e w3 ⟨rfl, V3, hm3⟩)
        | ((first | go_at_call 167 | go_at_call 168 | go_at_call 169 | go_at_call 170 | go_at_call 172); refine ((unhide HREC) _ _ _).mono ?_; rintro e w2' ⟨rfl, rfl⟩))
    go_wp2
    go_end0
    exact ⟨rfl, V3, (unhide HM).drew.trans ((hm2.kept ((Kept.refl _).alloc _)).trans hm3)⟩
def BegunPost (f lo : Nat) (l : List Int) (w : World) (e : Ending) (w' : World) : Prop :=
  ∃ BL, e = .returned (.agg #[.int .i64 f, .int .i64 0, .slice (some ⟨BL, 0, none⟩) lo lo, .slice none 0 0]) ∧ w'.heap[BL]? = some (.cells (ints l).toArray 3) ∧ w.heap.size ≤ BL ∧ Kept w w'
theorem copied_row (w : World) (B lo m cv : Nat) (ov : Option Addr) (vals : List Int) (hm : vals.length = m) (hl : m ≤ lo) (hg : w.heap[B]? = some (.cells (ints (List.replicate lo 0)).toArray 3)) (hv : ∀ i z, vals[i]? = some z → ∃ b o, ov = some ⟨b, o, none⟩ ∧ w.cell? ⟨b, o + i, none⟩ = some (.int .i64 z)) :
    ∃ w', (Builtin.copy_ #[30, 30] 3 #[.slice (some ⟨B, 0, none⟩) lo lo, .slice ov m cv]).run Tryz.prog w = .ok (goInt m) w' ∧ w'.heap[B]? = some (.cells (ints (vals ++ List.replicate (lo - m) 0)).toArray 3) ∧ Below B w w' := by
  have hz : (Tryz.prog.info? 3).map (·.size) = some 1 := by kernel_rfl
  by_cases h0 : m = 0
  · subst h0
    obtain rfl := List.length_eq_zero_iff.1 hm
    exact ⟨w, run_copy_none (P := Tryz.prog) w 30 30 3 3 _ _ _ _ _ _ Tryz.underlying30 hz (by simp), hg, Below.refl _ _⟩
  · obtain ⟨b, o, rfl, _⟩ := hv 0 _ (getD_of_lt vals 0 0 (by omega))
    have hr := run_copy_row (P := Tryz.prog) w 30 30 3 3 B 0 lo lo ⟨b, o, none⟩ m cv (ints (List.replicate lo 0)).toArray 3 (ints vals) Tryz.underlying30 hz hg (by rw [ints_len, hm]; exact (Nat.min_eq_left hl).symm) (fun j v hj => by
      simp only [ints, List.getElem?_map, Option.map_eq_some_iff] at hj
      obtain ⟨z, hz, rfl⟩ := hj
      obtain ⟨b', o', e', h'⟩ := hv j z hz
      obtain ⟨rfl, rfl⟩ := (by simpa using e' : b = b' ∧ o = o')
      have : (⟨b, o, none⟩ : Addr).add j = ⟨b, o + j, none⟩ := by unfold Addr.add; split <;> simp_all
      rw [this]
      exact h') (by simp [ints]; omega) (fun v hv => by simp only [ints, List.mem_map] at hv; obtain ⟨z, _, rfl⟩ := hv; rfl)
    rw [ints_len, hm] at hr
    refine ⟨_, hr, ?_, below_setRow (Below.refl _ _) (Nat.le_refl _) _⟩
    rw [setRow_heap w B _ _ _ _ hg]
    simp [ints]
theorem begun_any (bs f lo n cp bp op : Nat) (vv : Value) (vals : List Int) (w : World) (hf : f < n) (hlo : lo ≤ 1000) (hv : IntsW w vv vals) (hvl : vals.length ≤ lo) (hp : w.cell? ⟨bp, op + f * 3 + 1, none⟩ = some (.int .i64 lo)) :
    Calls Tryz.prog 194 #[eng bs (.slice (some ⟨bp, op, none⟩) n cp), .int .i64 f, vv] w (BegunPost f lo (vals ++ List.replicate (lo - vals.length) 0) w) := by
  obtain ⟨ov, cv, rfl, hvm, hcell⟩ := hv
  have hf0 : (0 : Int) ≤ (f : Int) := by omega
  have hf1 : (f : Int) < (n : Int) := by omega
  have hmk := make_ints lo (by omega)
  have hl0 : (0 : Int) ≤ (lo : Int) := by omega
  have d1 : ∀ o o', ((w.alloc o).alloc o').cell? ⟨bp, op + f * 3 + 1, none⟩ = some (.int .i64 lo) := fun o o' => (((Kept.refl w).alloc o).alloc o').cell hp
  have HC := hide hcell
  generalize hL : vals ++ List.replicate (lo - vals.length) 0 = L
  have HL := hide hL
  generalize hm : vals.length = m at *
  have HM := hide hm
  clear hcell hL hm
  go_enter Tryz.func194, Tryz.ntmps194
  go_upto_region 2 with fail
  generalize hw2 : ((w.alloc (.cells #[.pointer (some ⟨bs, 0, none⟩), .slice (some ⟨bp, op, none⟩) n cp] 170)).alloc (.cells #[.int .i64 0, .int .i64 0, .slice none 0 0, .slice none 0 0] 92)).alloc (.cells (Array.replicate lo (.int .i64 0)) 3) = w2
  have hk2 : Kept w w2 := by rw [← hw2]; exact (((Kept.refl w).alloc _).alloc _).alloc _
  have l1 : w2.heap[w.heap.size + 1]? = some (.cells #[.int .i64 0, .int .i64 0, .slice none 0 0, .slice none 0 0] 92) := by rw [← hw2]; exact lays_alloc (lays_new (by simp)) _
  have l2 : w2.heap[w.heap.size + 1 + 1]? = some (.cells (ints (List.replicate lo 0)).toArray 3) := by rw [← hw2]; exact (lays_new (by simp)).trans (by simp [ints])
  have HSZ : Hid (w2.heap.size = w.heap.size + 1 + 1 + 1) := by rw [← hw2]; exact hide (by simp)
  obtain ⟨w3, hrun, l3, hb3⟩ := copied_row w2 (w.heap.size + 1 + 1) lo m cv ov vals (unhide HM) hvl l2 (fun i z hz => by
    obtain ⟨b, o, e, h'⟩ := (unhide HC) i z hz
    exact ⟨b, o, e, hk2.cell h'⟩)
  have m1 := (hb3.block (w.heap.size + 1) (by omega)).trans l1
  have HK3 : Hid (Kept w w3) := hide (Below.trans hk2 (Below.mono hb3 (by omega)))
  rw [unhide HL] at l3
  have HL3 := hide l3
  have q0 : w3.cell? ⟨w.heap.size + 1, 0, none⟩ = some (.int .i64 0) := cell_lays m1 0
  have q1 : w3.cell? ⟨w.heap.size + 1, 1, none⟩ = some (.int .i64 0) := cell_lays m1 1
  have q2 : w3.cell? ⟨w.heap.size + 1, 2, none⟩ = some (.slice none 0 0) := cell_lays m1 2
  have q3 : w3.cell? ⟨w.heap.size + 1, 3, none⟩ = some (.slice none 0 0) := cell_lays m1 3
  have z0 := frozen_lays m1 0
  have z1 := frozen_lays m1 1
  have z2 := frozen_lays m1 2
  have z3 := frozen_lays m1 3
  have HM1 := hide m1
  clear hw2 hk2 l1 l2 l3 hb3 m1 hmk
  go_wp2
  have r := lays_set (lays_set (lays_set (lays_set (unhide HM1) 0 (.int .i64 f)) 1 (.int .i64 0)) 2 (.slice (some ⟨w.heap.size + 1 + 1, 0, none⟩) lo lo)) 3 (.slice none 0 0)
  have r0 := cell_lays r 0
  have r1 := cell_lays r 1
  have r2 := cell_lays r 2
  have r3 := cell_lays r 3
  refine bodyPost_ret (v := .agg #[.int .i64 f, .int .i64 0, .slice (some ⟨w.heap.size + 1 + 1, 0, none⟩) lo lo, .slice none 0 0]) (by simp [results, Tryz.results194, go_sem, r0, r1, r2, r3]) rfl ⟨w.heap.size + 1 + 1, rfl, ?_, by omega, ?_⟩
  · refine lays_other (lays_other (lays_other (lays_other (unhide HL3) ?_ _) ?_ _) ?_ _) ?_ _ <;> simp
  · refine Kept.setCell (Kept.setCell (Kept.setCell (Kept.setCell (unhide HK3) ?_ _) ?_ _) ?_ _) ?_ _ <;> simp
end Go.Proofs.YtokhibfenccijaaGreatDoor
