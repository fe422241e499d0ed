/- OwnT, StepA, StepB, StepC, StepD, StateD0 -/
import Derived.Test.YtohlefnljgkdcabDoorST14
import Derived.Test.YtohlefnljgkdcabDoorST13
import Derived.StillTailTactics
import Derived.Test.YtohlefnljgkdcabDoorST11
namespace Go.Proofs.YtohlefnljgkdcabDoor
open Go.RowKit
theorem OwnVar.turnStack {base bs : Nat} {w w2 : World} {V : Key → Value} {s : St} (h : OwnVar base w bs V s) {i j g cap : Nat} (hi : i < s.fibers.length) (hj : j < (fibAt s i).frames.length)
    (hV : V (.frames i) = .slice (some ⟨g, 0, none⟩) (fibAt s i).frames.length cap) (vs : Value) (l : List Int) (hgrow : w.grownBy w2 (V (.stack i j)).ownBlock) (hown : w2.ownsRow base 3 1 vs l.length (ints l))
    (hat : vs.ownBlock = (V (.stack i j)).ownBlock ∨ vs.ownBlock = some w.heap.size) :
    OwnVar base (w2.setCell ⟨g, j * 4 + 3, none⟩ vs) bs (upd V (.stack i j) vs) (setFr s i j { frAt s i j with stack := l }) ∧ Below base w (w2.setCell ⟨g, j * 4 + 3, none⟩ vs) := by
  have hlS : live s (.stack i j) := ⟨hi, hj⟩
  have hlF : live s (.frames i) := hi
  have hgb : (V (.frames i)).ownBlock = some g := by rw [hV]; rfl
  have hbsw := lt_of_block h.var
  have hbsg : bs ≠ g := fun e => h.off _ hlF (by rw [hgb, e])
  have hgblk := (h.own.piece _ hlF).block g hgb
  have hown' := h.own.turnFrame (w1 := w2) hi hj hV vs { frAt s i j with stack := l } 3 vs (by omega) (fun b hb hne => hgrow.block b hb (fun e => hne e.symm)) hown hat rfl rfl rfl rfl rfl
  refine ⟨h.turn hown' ?_ (upd_ne V vs (by simp)) (upd_ne V vs (by simp)) rfl ?_, ?_⟩
  · rw [Below.heap_setCell _ _ _ _ hbsg]
    exact hgrow.block bs hbsw (fun e => h.off _ hlS e.symm)
  · intro k hk e
    by_cases hkS : k = .stack i j
    · subst hkS
      rw [upd_same] at e
      rcases hat with e' | e'
      · exact h.off _ hlS (by rw [← e', e])
      · rw [e] at e'; cases e'; omega
    · rw [upd_ne V vs hkS] at e
      exact h.off k ((setFr_live _ hi k).1 hk) e
  · refine Below.setCell (Below.grown (Below.refl _ w) hgrow (by omega) (fun r hr => ?_)) hgblk.1 _
    exact ((h.own.piece _ hlS).block r hr).1
theorem ints_at {l : List Int} {i : Nat} {z : Int} (h : l[i]? = some z) : (ints l)[i]? = some (.int .i64 z) := by simp [ints, h]
theorem row_cut {w : World} {base : Nat} {g cap n : Nat} {l : List Int} (h : w.ownsRow base 3 1 (.slice (some ⟨g, 0, none⟩) n cap) n (ints l)) (hn : n = l.length) (m : Nat) (hm : m ≤ n) : w.ownsRow base 3 1 (.slice (some ⟨g, 0, none⟩) m cap) m (ints (l.take m)) := by
  subst hn
  refine ⟨by rw [ints_len, List.length_take]; omega, ?_⟩
  rcases h.2 with ⟨h', _⟩ | ⟨g', cap', cur, h', hb, hgh, hnc, hcm, hcs, htake⟩
  · simp at h'
  · simp only [Value.slice.injEq, Option.some.injEq, Addr.mk.injEq, and_true, true_and] at h'
    obtain ⟨rfl, rfl⟩ := h'
    refine .inr ⟨g, cap, cur, rfl, hb, hgh, by omega, hcm, hcs, ?_⟩
    have : ints (l.take m) = (ints l).take m := by simp [ints, List.map_take]
    rw [this, ← htake, List.take_take]
    congr 1
    omega
theorem grown_refl (w : World) (row : Option Nat) : w.grownBy w row := ⟨rfl, rfl, rfl, Nat.le_refl _, fun _ _ _ => rfl⟩
theorem OwnVar.turnOut {base bs : Nat} {w w2 : World} {V : Key → Value} {s : St} (h : OwnVar base w bs V s) (l : List Int) (vo : Value) (hgrow : w.grownBy w2 (V .out).ownBlock) (hown : w2.ownsRow base 3 1 vo l.length (ints l)) (hat : vo.ownBlock = (V .out).ownBlock ∨ vo.ownBlock = some w.heap.size) :
    OwnVar base (w2.setCell ⟨bs, 2, none⟩ vo) bs (upd V .out vo) { s with out := l } ∧ Below base w (w2.setCell ⟨bs, 2, none⟩ vo) := by
  have hbsw := lt_of_block h.var
  have hown' := h.own.turnOut l vo hown (fun b hb hne => hgrow.block b hb (fun e => hne e.symm)) hat
  have hoff' : Own.off (upd V .out vo) { s with out := l } bs := by
    intro k hk e
    by_cases hko : k = .out
    · subst hko
      rw [upd_same] at e
      rcases hat with e' | e'
      · exact h.off .out trivial (by rw [← e', e])
      · rw [e] at e'; cases e'; omega
    · rw [upd_ne V vo hko] at e
      exact h.off k (by cases k using Key.by <;> exact hk) e
  refine ⟨⟨?_, hown'.setOff (a := ⟨bs, 2, none⟩) hoff' _, hoff', h.low⟩, ?_⟩
  · have hb2 : w2.heap[bs]? = some (.cells #[V .fibers, .int .i64 s.now, V .out] 54) := (hgrow.block bs hbsw (fun e => h.off .out trivial e.symm)).trans h.var
    rw [upd_same, upd_ne V vo (by simp)]
    simp [World.setCell, Array.getElem?_modify, hb2]
  · refine Below.setCell (Below.grown (Below.refl _ w) hgrow ?_ (fun r hr => ((h.own.piece .out trivial).block r hr).1)) h.low _
    have := h.low
    omega
end Go.Proofs.YtohlefnljgkdcabDoor
namespace Go.Proofs.YtohlefnljgkdcabDoor
open Go.RowKit
def Turned (base bs : Nat) (s' : St) (r : Value) (w : World) (e : Ending) (w' : World) : Prop := e = .returned r ∧ ∃ V', OwnVar base w' bs V' s' ∧ Below base w w'
set_option maxHeartbeats 1000000 in
theorem top_any (bs N capF gF i q cap g : Nat) (w : World) (hi : i < N) (hq : 0 < q) (hqs : q ≤ 1000)
    (c0 : w.cell? ⟨bs, 0, none⟩ = some (.slice (some ⟨gF, 0, none⟩) N capF)) (c1 : w.cell? ⟨gF, i * 2, none⟩ = some (.slice (some ⟨g, 0, none⟩) q cap)) :
    Calls Tryd.prog 123 #[.pointer (some ⟨bs, 0, none⟩), .int .i64 i] w fun e w' => e = .returned (.pointer (some ⟨g, (q - 1) * 4, none⟩)) ∧ ∃ m, w' = w.drewN m := by
  obtain ⟨t, rfl⟩ : ∃ t, q = t + 1 := ⟨q - 1, by omega⟩
  have hi1 : (i : Int) < (N : Int) := by omega
  have hi0 : (0 : Int) ≤ (i : Int) := by omega
  have hw : IntKind.i64.wrap (((t + 1 : Nat) : Int) - 1) = (t : Int) := by rw [IntKind.wrap_i64]; omega
  have hw2 : IntKind.i64.wrap ((t : Int) + 1 - 1) = (t : Int) := by rw [IntKind.wrap_i64]; omega
  have ht : (t : Int) + 1 - 1 = (t : Int) := by omega
  have ht1 : (t : Int) < (t : Int) + 1 := by omega
  have ht0 : (0 : Int) ≤ (t : Int) := by omega
  go_enter Tryd.func123, Tryd.ntmps123
  go_wp2
  go_quiet (fail)
  go_wp2
  go_ret
  exact ⟨rfl, _, rfl⟩
theorem top_own {base bs : Nat} {w : World} {V : Key → Value} {s : St} (h : OwnVar base w bs V s) {i : Nat} (hi : i < s.fibers.length) (hq : 0 < (fibAt s i).frames.length) (hqs : (fibAt s i).frames.length ≤ 1000) :
    ∃ g cap, V (.frames i) = .slice (some ⟨g, 0, none⟩) (fibAt s i).frames.length cap ∧ Calls Tryd.prog 123 #[.pointer (some ⟨bs, 0, none⟩), .int .i64 i] w fun e w' => e = .returned (.pointer (some ⟨g, ((fibAt s i).frames.length - 1) * 4, none⟩)) ∧ ∃ m, w' = w.drewN m := by
  obtain ⟨gF, capF, eF, _, k0, _⟩ := h.own.fib hi
  obtain ⟨g, cap, eg, _, _⟩ := h.own.fr hi (j := 0) hq
  obtain ⟨c0, _⟩ := h.cells
  rw [eF] at c0
  rw [eg] at k0
  exact ⟨g, cap, eg, top_any bs _ capF gF i _ cap g w hi hq hqs c0 k0⟩
set_option maxHeartbeats 2000000 in
set_option maxRecDepth 100000 in
theorem push_any (base bs : Nat) (V : Key → Value) (s : St) (i : Nat) (z : Int) (w : World) (h : OwnVar base w bs V s) (hi : i < s.fibers.length) (hq : 0 < (fibAt s i).frames.length) (hqs : (fibAt s i).frames.length ≤ 1000) (hst : (frAt s i ((fibAt s i).frames.length - 1)).stack.length ≤ 1000) :
    Calls Tryd.prog 124 #[.pointer (some ⟨bs, 0, none⟩), .int .i64 i, .int .i64 z] w fun e w' => Turned base bs (pushV s i z) (.tuple #[]) w e w' := by
  obtain ⟨i0, hi0, hz0, hz1, hz2⟩ := info_parts infoInt
  obtain ⟨g, cap, eg, htop⟩ := top_own h hi hq hqs
  unfold pushV
  rw [turnTop_setFr]
  generalize hj : (fibAt s i).frames.length - 1 = j at *
  have hjl : j < (fibAt s i).frames.length := by omega
  have HT := hide htop
  have HO := hide h
  have HEG := hide eg
  clear htop h
  go_enter Tryd.func124, Tryd.ntmps124
  go_wp2_with fail
  refine (unhide HT).mono ?_
  rintro e w1 ⟨rfl, m, rfl⟩
  generalize hw1 : w.drewN m = w1
  have ho1 : OwnVar base w1 bs V s := (unhide HO).same (by rw [← hw1]; rfl)
  have hb1 : Below base w w1 := by rw [← hw1]; exact below_drewN (Below.refl _ w) m
  obtain ⟨g', cap', eg', _, f0, f1, f2, f3, ffz, hbg⟩ := ho1.own.fr hi hjl
  rw [unhide HEG] at eg'
  obtain ⟨⟨rfl⟩, -, rfl⟩ := (by simpa using eg' : (g = g') ∧ True ∧ cap = cap')
  have hs := ho1.own.stk hi hjl
  have hlg := cell_lt f0
  simp only at hlg
  have hbw : base ≤ w1.heap.size := by omega
  have hgs : (V (.stack i j)).ownBlock ≠ some g := fun e => by
    have := ho1.own.apart (.stack i j) (.frames i) g ⟨hi, hjl⟩ hi e (by rw [unhide HEG]; rfl)
    cases this
  have HO1 := hide ho1
  have HB1 := hide hb1
  have HS := hide hs
  have hfz := ffz (j * 4 + 3)
  generalize hvs : V (.stack i j) = vs0 at *
  have HVS := hide hvs
  generalize hl : (frAt s i j).stack = l at *
  have HL := hide hl
  clear hw1 hb1 ho1 hvs hl hs f0 f1 f2 ffz eg'
  go_wp2_with (at_builtin; refine wpList_append_own_at _ rfl _ _ 46 rfl base 3 i0 (.int .i64 0) 1 8 Tryd.underlying46 hi0 hz0 hz1 hz2 rfl (by decide) _ _ _ rfl ((unhide HS).alloc _) ⟨w1.heap.size, 0, none⟩ 1 1 [.int .i64 z] rfl rfl (new_one _ _ _) (int_one _) (by unfold maxLen; omega) (by omega) (by simp; omega) ?_; intro v' w2 hown' hgrow _ hat; obtain ⟨o2, c2, rfl, -⟩ := row_slice hown'; have g3 : w2.cell? ⟨g, j * 4 + 3, none⟩ = some vs0 := hgrow.cell (((Kept.refl w1).alloc _).cell f3) (fun e => hgs e.symm); have gz : w2.frozen? ⟨g, j * 4 + 3, none⟩ = false := (World.frozen?_of_block (hgrow.block g (by simp; omega) (fun e => hgs e.symm))).trans ((World.frozen?_of_block (Below.heap_alloc w1 _ g hlg)).trans hfz); have HOW := hide hown'; have HGR := hide hgrow; have HAT := hide hat; clear hown' hgrow hat)
  go_end0
  have hfin := ((unhide HO1).alloc (.cells #[.int .i64 z] 3)).turnStack (w2 := w2) hi hjl (unhide HEG) (.slice o2 (l.length + 1) c2) (l ++ [z]) (by rw [unhide HVS]; exact unhide HGR) (by rw [ints_append, List.length_append]; exact unhide HOW) (by rw [unhide HVS]; exact unhide HAT)
  unfold Turned
  refine ⟨rfl, upd V (.stack i j) (.slice o2 (l.length + 1) c2), ?_, ?_⟩
  · rw [unhide HL]
    exact hfin.1
  · exact Below.trans (unhide HB1) (Below.trans (Below.alloc (Below.refl _ w1) hbw _) hfin.2)
end Go.Proofs.YtohlefnljgkdcabDoor
namespace Go.Proofs.YtohlefnljgkdcabDoor
open Go.RowKit
def Pulled (base bs : Nat) (s' : St) (r : Value) (V : Key → Value) (i : Nat) (w : World) (e : Ending) (w' : World) : Prop :=
  e = .returned r ∧ ∃ V', OwnVar base w' bs V' s' ∧ Below base w w' ∧ V' (.frames i) = V (.frames i) ∧ (∀ k, (V' k).ownBlock = (V k).ownBlock) ∧ ∀ b, (V (.frames i)).ownBlock ≠ some b → w'.heap[b]? = w.heap[b]?
set_option maxHeartbeats 2000000 in
set_option maxRecDepth 100000 in
theorem pull_sharp (base bs : Nat) (V : Key → Value) (s : St) (i : Nat) (w : World) (h : OwnVar base w bs V s) (hn : s.now = i) (hi : i < s.fibers.length) (hq : 0 < (fibAt s i).frames.length) (hqs : (fibAt s i).frames.length ≤ 1000) (hst : (frAt s i ((fibAt s i).frames.length - 1)).stack.length ≤ 1000) (hst0 : 0 < (frAt s i ((fibAt s i).frames.length - 1)).stack.length) :
    Calls Tryd.prog 125 #[.pointer (some ⟨bs, 0, none⟩)] w fun e w' => Pulled base bs (pullV s) (.int .i64 (lastV s)) V i w e w' := by
  obtain ⟨g, cap, eg, htop⟩ := top_own h hi hq hqs
  have hlast : lastV s = (frAt s i ((fibAt s i).frames.length - 1)).stack.getD ((frAt s i ((fibAt s i).frames.length - 1)).stack.length - 1) 0 := by
    unfold lastV St.top St.fib
    rw [hn, Int.toNat_natCast, show s.fibers.getD i Fb.zero = fibAt s i from rfl, top_frAt, List.getLast?_eq_getElem?]
    rfl
  have hpull : pullV s = setFr s i ((fibAt s i).frames.length - 1) { frAt s i ((fibAt s i).frames.length - 1) with stack := (frAt s i ((fibAt s i).frames.length - 1)).stack.dropLast } := by
    unfold pullV
    rw [hn, turnTop_setFr]
  rw [hpull]
  generalize hzz : lastV s = z at *
  clear hpull hzz
  generalize hj : (fibAt s i).frames.length - 1 = j at *
  have hjl : j < (fibAt s i).frames.length := by omega
  obtain ⟨_, c1, _, _⟩ := h.cells
  rw [hn] at c1
  have HT := hide htop
  have HO := hide h
  have HEG := hide eg
  clear htop h
  go_enter Tryd.func125, Tryd.ntmps125
  go_wp2_with fail
  refine (unhide HT).mono ?_
  rintro e w1 ⟨rfl, m, rfl⟩
  generalize hw1 : w.drewN m = w1
  have ho1 : OwnVar base w1 bs V s := (unhide HO).same (by rw [← hw1]; rfl)
  have hb1 : Below base w w1 := by rw [← hw1]; exact below_drewN (Below.refl _ w) m
  have HSM : Hid (w1.heap = w.heap) := by rw [← hw1]; exact hide rfl
  obtain ⟨g', cap', eg', _, f0, f1, f2, f3, ffz, hbg⟩ := ho1.own.fr hi hjl
  rw [unhide HEG] at eg'
  obtain ⟨⟨rfl⟩, -, rfl⟩ := (by simpa using eg' : (g = g') ∧ True ∧ cap = cap')
  have hs := ho1.own.stk hi hjl
  obtain ⟨gs, cs, es, hcs, hcell, _, _⟩ := row_some hs hst0
  have hfz := ffz (j * 4 + 3)
  have HO1 := hide ho1
  have HB1 := hide hb1
  rw [es] at f3 hs
  have HS := hide hs
  have HES := hide es
  have hlt : (frAt s i j).stack.length - 1 < (frAt s i j).stack.length := by omega
  have hcl := hcell ((frAt s i j).stack.length - 1) (.int .i64 ((frAt s i j).stack.getD ((frAt s i j).stack.length - 1) 0)) (ints_at (getD_of_lt _ _ 0 hlt))
  generalize hl : (frAt s i j).stack = l at *
  have HL := hide hl
  obtain ⟨t, ht⟩ : ∃ t, l.length = t + 1 := ⟨l.length - 1, by omega⟩
  rw [← hlast] at hcl
  rw [ht] at f3 hcl
  simp only [Nat.add_sub_cancel] at hcl
  have hw : IntKind.i64.wrap ((t : Int) + 1 - 1) = (t : Int) := by rw [IntKind.wrap_i64]; omega
  have hts : (t : Int) + 1 - 1 = (t : Int) := by omega
  have ht1 : (t : Int) < (t : Int) + 1 := by omega
  have ht0 : (0 : Int) ≤ (t : Int) := by omega
  have htc : (t : Int) ≤ (cs : Int) := by omega
  have HTL := hide ht
  clear hw1 hb1 ho1 es hl hs f0 f1 f2 ffz eg' hcell hlast
  go_wp2
  go_quiet (fail)
  go_wp2
  generalize hw3 : w1.drewN nq = w3
  have ho3 : OwnVar base w3 bs V s := (unhide HO1).same (by rw [← hw3]; rfl)
  have k3 : w3.cell? ⟨g, j * 4 + 3, none⟩ = some (.slice (some ⟨gs, 0, none⟩) (t + 1) cs) := by rw [← hw3]; exact f3
  have kz : w3.frozen? ⟨g, j * 4 + 3, none⟩ = false := by rw [← hw3]; exact hfz
  have HB3 : Hid (Below base w w3) := by rw [← hw3]; exact hide (below_drewN (unhide HB1) nq)
  have HSM3 : Hid (w3.heap = w.heap) := by rw [← hw3]; exact hide (unhide HSM)
  have HO3 := hide ho3
  clear hw3 ho3 f3 hfz hcl HB1 HO1
  go_region
  all_goals go_wp2_with fail
  go_ret
  have hdl : l.dropLast = l.take t := by rw [List.dropLast_eq_take, unhide HTL, Nat.add_sub_cancel]
  have hrow : w3.ownsRow base 3 1 (.slice (some ⟨gs, 0, none⟩) t cs) (l.take t).length (ints (l.take t)) := by
    have h3 := (unhide HO3).own.stk hi hjl
    rw [unhide HES, unhide HL] at h3
    have hlt' : (l.take t).length = t := by rw [List.length_take]; have := unhide HTL; omega
    rw [hlt']
    exact row_cut h3 rfl t (by have := unhide HTL; omega)
  have hfin := (unhide HO3).turnStack (w2 := w3) hi hjl (unhide HEG) (.slice (some ⟨gs, 0, none⟩) t cs) (l.take t) (grown_refl _ _) hrow (.inl (by rw [unhide HES]; rfl))
  unfold Pulled
  refine ⟨rfl, upd V (.stack i j) (.slice (some ⟨gs, 0, none⟩) t cs), ?_, ?_, upd_ne V _ (by simp), fun k => ?_, fun b hb => ?_⟩
  · rw [unhide HL, hdl]
    exact OwnVar.same hfin.1 rfl
  · exact Below.drew (Below.trans (unhide HB3) hfin.2)
  · by_cases e : k = .stack i j
    · subst e; rw [upd_same, unhide HES]; rfl
    · rw [upd_ne V _ e]
  · show (w3.setCell _ _).heap[b]? = _
    rw [Below.heap_setCell _ _ _ _ (fun e => hb (by rw [unhide HEG]; exact congrArg some e.symm)), unhide HSM3]
theorem pull_any (base bs : Nat) (V : Key → Value) (s : St) (i : Nat) (w : World) (h : OwnVar base w bs V s) (hn : s.now = i) (hi : i < s.fibers.length) (hq : 0 < (fibAt s i).frames.length) (hqs : (fibAt s i).frames.length ≤ 1000) (hst : (frAt s i ((fibAt s i).frames.length - 1)).stack.length ≤ 1000) (hst0 : 0 < (frAt s i ((fibAt s i).frames.length - 1)).stack.length) :
    Calls Tryd.prog 125 #[.pointer (some ⟨bs, 0, none⟩)] w fun e w' => Turned base bs (pullV s) (.int .i64 (lastV s)) w e w' :=
  (pull_sharp base bs V s i w h hn hi hq hqs hst hst0).mono fun _ _ ⟨h1, V', h2, h3, _⟩ => ⟨h1, V', h2, h3⟩
def PutPost (base bs : Nat) (s : St) (v : Int) (w : World) (e : Ending) (w' : World) : Prop :=
  e = .returned (.int .i64 (putS s v).2) ∧ Below base w w' ∧ ((putS s v).2 = 0 → ∃ V', OwnVar base w' bs V' (putS s v).1)
set_option maxHeartbeats 2000000 in
set_option maxRecDepth 100000 in
theorem put_any (base bs : Nat) (V : Key → Value) (s : St) (z : Int) (w : World) (h : OwnVar base w bs V s) (ho : s.out.length ≤ 30) :
    Calls Tryd.prog 130 #[.pointer (some ⟨bs, 0, none⟩), .int .i64 z] w fun e w' => PutPost base bs s z w e w' := by
  obtain ⟨i0, hi0, hz0, hz1, hz2⟩ := info_parts infoInt
  obtain ⟨_, _, c2, fz⟩ := h.cells
  have hs : w.ownsRow base 3 1 (V .out) s.out.length (ints s.out) := h.own.piece .out trivial
  have hbsw := lt_of_block h.var
  have hlow := h.low
  have hbs : (V .out).ownBlock ≠ some bs := h.off .out trivial
  have f2 := fz 2
  obtain ⟨oo, co, eo, hrow⟩ := row_slice hs
  have HO := hide h
  have HS := hide hs
  have HEO := hide eo
  rw [eo] at c2
  clear h fz hrow
  by_cases h30 : s.out.length = 30
  · have hp : putS s z = (St.zero, 2) := by unfold putS; rw [if_pos h30]
    have HP := hide hp
    rw [h30] at c2
    clear hp h30
    go_enter Tryd.func130, Tryd.ntmps130
    go_wp2
    go_ret
    exact ⟨by rw [unhide HP]; rfl, Below.refl _ _, fun e => by rw [unhide HP] at e; cases e⟩
  · have hp : putS s z = ({ s with out := s.out ++ [z] }, 0) := by unfold putS; rw [if_neg h30]
    have HP := hide hp
    have hb : ((s.out.length : Int) == 30) = false := by rw [beq_eq_false_iff_ne]; omega
    rw [eo] at hs hbs
    have HS2 := hide hs
    have hlw : base ≤ w.heap.size := by omega
    clear hp hs
    generalize hl : s.out = l at *
    have HL := hide hl
    clear hl
    go_enter Tryd.func130, Tryd.ntmps130
    go_wp2_with (at_builtin; refine wpList_append_own_at _ rfl _ _ 46 rfl base 3 i0 (.int .i64 0) 1 8 Tryd.underlying46 hi0 hz0 hz1 hz2 rfl (by decide) _ _ _ rfl ((unhide HS2).alloc _) ⟨w.heap.size, 0, none⟩ 1 1 [.int .i64 z] rfl rfl (new_one _ _ _) (int_one _) (by unfold maxLen; omega) (by omega) (by simp; omega) ?_; intro v' w2 hown' hgrow _ hat; obtain ⟨o2, q2, rfl, -⟩ := row_slice hown'; have g2 : w2.cell? ⟨bs, 2, none⟩ = some (.slice oo l.length co) := hgrow.cell (((Kept.refl w).alloc _).cell c2) (fun e => hbs e.symm); have gz : w2.frozen? ⟨bs, 2, none⟩ = false := (World.frozen?_of_block (hgrow.block bs (by simp; omega) (fun e => hbs e.symm))).trans ((World.frozen?_of_block (Below.heap_alloc w _ bs hbsw)).trans f2); have HOW := hide hown'; have HGR := hide hgrow; have HAT := hide hat; clear hown' hgrow hat)
    go_ret
    have hfin := ((unhide HO).alloc (.cells #[.int .i64 z] 3)).turnOut (w2 := w2) (l ++ [z]) (.slice o2 (l.length + 1) q2) (by rw [unhide HEO]; exact unhide HGR) (by rw [ints_append, List.length_append]; exact unhide HOW) (by rw [unhide HEO]; exact unhide HAT)
    refine ⟨by rw [unhide HP]; rfl, Below.trans (Below.alloc (Below.refl _ w) hlw _) hfin.2, fun _ => ⟨upd V .out (.slice o2 (l.length + 1) q2), ?_⟩⟩
    rw [unhide HP]
    exact hfin.1
end Go.Proofs.YtohlefnljgkdcabDoor
namespace Go.Proofs.YtohlefnljgkdcabDoor
open Go.RowKit
def EndPost (base bs : Nat) (r : St × Int) (w : World) (e : Ending) (w' : World) : Prop :=
  e = .returned (.int .i64 r.2) ∧ Below base w w' ∧ (r.2 = 0 → ∃ V', OwnVar base w' bs V' r.1)
set_option maxHeartbeats 4000000 in
set_option maxRecDepth 100000 in
theorem yielded_any (base bs : Nat) (V : Key → Value) (s : St) (i : Nat) (w : World) (h : OwnVar base w bs V s) (hn : s.now = i) (hr : Runs s i) (hst0 : 0 < (frAt s i ((fibAt s i).frames.length - 1)).stack.length)
    (hc : ∀ c : Int, (fibAt s i).caller = c → 0 ≤ c → ∃ k : Nat, c = k ∧ k ≠ i ∧ Runs s k) :
    Calls Tryd.prog 129 #[.pointer (some ⟨bs, 0, none⟩)] w fun e w' => EndPost base bs (yieldedS s) w e w' := by
  have hpl := pull_any base bs V s i w h hn hr.lt hr.fr hr.frs hr.st hst0
  have hps := pullV_setFr hn
  have hcal : (fibAt (pullV s) i).caller = (fibAt s i).caller := by rw [hps, setFr_caller _ hr.lt]
  have hlen : (pullV s).fibers.length = s.fibers.length := by rw [hps]; exact setFib_len _ _ _
  have hnow : (pullV s).now = i := by rw [hps]; exact hn
  have hoth : ∀ k, k ≠ i → fibAt (pullV s) k = fibAt s k := fun k hk => by rw [hps]; exact setFr_other _ (fun e => hk e.symm)
  have hys : yieldedS s = if (fibAt s i).caller < 0 then (St.zero, 7) else (pushV { (setFib (pullV s) i { fibAt (pullV s) i with caller := -1 }) with now := (fibAt s i).caller } (fibAt s i).caller (lastV s), 0) := by
    unfold yieldedS
    simp only
    rw [hn, fib_fibAt, turn_setFib, hcal]
  rw [hys]
  generalize hcc : (fibAt s i).caller = c at *
  have hc' := hc c rfl
  have HPL := hide hpl
  have HLT := hide hr.lt
  have HHO := hide hoth
  clear hpl hps hys hc h
  generalize hs1 : pullV s = s1 at *
  generalize lastV s = z at *
  have HC := hide hc'
  clear hc' hr hst0 hs1 hcc
  generalize hL : s.fibers.length = L at *
  have HRK : Hid (∀ k, Runs s k → k ≠ i → Runs { (setFib s1 i { fibAt s1 i with caller := -1 }) with now := (k : Int) } k) := hide (fun k hrk hki => by
    refine hrk.other ?_ ?_
    · show (setFib s1 i _).fibers.length = _
      rw [setFib_len, hlen, hL]
    · show fibAt (setFib s1 i _) k = _
      rw [fibAt_ne _ (fun e => hki e.symm)]
      exact (unhide HHO) k hki)
  clear HHO hL
  generalize hR : (if c < 0 then (St.zero, (7 : Int)) else (pushV { (setFib s1 i { fibAt s1 i with caller := -1 }) with now := c } c z, 0)) = R
  have HR := hide hR
  clear hR
  go_enter Tryd.func129, Tryd.ntmps129
  go_wp2_with fail
  refine (unhide HPL).mono ?_
  rintro e w1 ⟨rfl, V1, ho1, hb1⟩
  obtain ⟨c0, c1, _, fz⟩ := ho1.cells
  obtain ⟨gF, capF, eF, hcF, _, k1, fzF, hbF⟩ := ho1.own.fib (i := i) (by rw [hlen]; exact unhide HLT)
  rw [eF] at c0
  rw [hnow] at c1
  rw [hcal] at k1
  have hne : ¬ gF = bs := fun e => ho1.off .fibers trivial (by rw [eF, ← e]; rfl)
  have hne' : ¬ bs = gF := fun e => hne e.symm
  have hi1 : (i : Int) < (L : Int) := by have := unhide HLT; omega
  have hi0 : (0 : Int) ≤ (i : Int) := by omega
  rw [hlen] at c0
  have f1 := fz 1
  have fF := fzF (i * 2 + 1)
  have HO1 := hide ho1
  have HB1 := hide hb1
  have HEF := hide eF
  clear ho1 hb1 eF fz fzF
  by_cases hneg : c < 0
  · have hR := unhide HR
    rw [if_pos hneg] at hR
    subst hR
    have hd : decide (c < 0) = true := decide_eq_true hneg
    go_wp2
    go_quiet (fail)
    go_wp2
    go_ret
    exact ⟨rfl, below_drewN (unhide HB1) _, fun e => by cases e⟩
  · have hd : decide (c < 0) = false := decide_eq_false hneg
    obtain ⟨k, hk, hki, hrk⟩ := (unhide HC) (by omega)
    have hR := unhide HR
    rw [if_neg hneg] at hR
    subst hR hk
    have HRK2 := hide ((unhide HRK) k hrk hki)
    clear hrk HC HRK HR
    go_wp2
    go_quiet (fail)
    go_wp2_with fail
    have hd1 : OwnVar base (w1.drewN nq) bs V1 s1 := (unhide HO1).same rfl
    have ho2 := hd1.setNow (k : Int)
    obtain ⟨ho3, hb3⟩ := ho2.setCaller (i := i) (by show i < s1.fibers.length; rw [hlen]; exact unhide HLT) (show V1 .fibers = .slice (some ⟨gF, 0, none⟩) s1.fibers.length capF from unhide HEF) (-1)
    have hrk := unhide HRK2
    refine (push_any base bs V1 _ k z _ ho3 hrk.lt hrk.fr hrk.frs hrk.st).mono ?_
    rintro e w4 ⟨rfl, V4, ho4, hb4⟩
    have hb5 : Below base w w4 := Below.trans (Below.trans (Below.trans (below_drewN (unhide HB1) nq) (Below.setCell (Below.refl _ _) hd1.low _)) hb3) hb4
    have HB5 := hide hb5
    have HO4 := hide ho4
    clear ho2 ho3 hb3 hb4 hb5 ho4 hd1 hrk
    go_wp2
    go_ret
    exact ⟨rfl, unhide HB5, fun _ => ⟨V4, unhide HO4⟩⟩
end Go.Proofs.YtohlefnljgkdcabDoor
namespace Go.Proofs.YtohlefnljgkdcabDoor
open Go.RowKit
def popped (s : St) (i : Nat) : St := setFib (pullV s) i { fibAt (pullV s) i with frames := (fibAt (pullV s) i).frames.dropLast }
theorem givenS_eq {s : St} {i : Nat} (hn : s.now = i) (hi : i < s.fibers.length) : givenS s =
    if (popped s i).fibers.length = 0 ∨ (fibAt (popped s i) i).frames = [] then
      (if (fibAt s i).caller < 0 then putS { popped s i with now := -1 } (lastV s)
       else (pushV { (setFib (popped s i) i { fibAt (popped s i) i with caller := -1 }) with now := (fibAt s i).caller } (fibAt s i).caller (lastV s), 0))
    else (pushV (popped s i) i (lastV s), 0) := by
  have hps := pullV_setFr hn
  have hcal : (fibAt (pullV s) i).caller = (fibAt s i).caller := by rw [hps, setFr_caller _ hi]
  have hlen : (pullV s).fibers.length = s.fibers.length := by rw [hps]; exact setFib_len _ _ _
  have hlp : (popped s i).fibers.length = s.fibers.length := by unfold popped; rw [setFib_len, hlen]
  have hcp : (fibAt (popped s i) i).caller = (fibAt s i).caller := by
    unfold popped; rw [fibAt_same _ (by rw [hlen]; exact hi)]; exact hcal
  unfold givenS
  simp only
  rw [hn, turn_setFib]
  show (if ((popped s i).fib (i : Int)).frames = [] then if ((popped s i).fib (i : Int)).caller < 0 then _ else (pushV { ((popped s i).turn (i : Int) _) with now := ((popped s i).fib (i : Int)).caller } ((popped s i).fib (i : Int)).caller (lastV s), 0) else (pushV (popped s i) (i : Int) (lastV s), 0)) = _
  rw [fib_fibAt, turn_setFib, hcp]
  have h0 : ¬ (popped s i).fibers.length = 0 := by omega
  simp only [h0, false_or]
  rfl
set_option maxHeartbeats 8000000 in
set_option maxRecDepth 100000 in
theorem given_any (base bs : Nat) (V : Key → Value) (s : St) (i : Nat) (w : World) (h : OwnVar base w bs V s) (hn : s.now = i) (hr : Runs s i) (hst0 : 0 < (frAt s i ((fibAt s i).frames.length - 1)).stack.length)
    (ho : s.out.length ≤ 30) (hbel : 1 < (fibAt s i).frames.length → (frAt s i ((fibAt s i).frames.length - 2)).stack.length ≤ 1000)
    (hc : ∀ c : Int, (fibAt s i).caller = c → 0 ≤ c → ∃ k : Nat, c = k ∧ k ≠ i ∧ Runs s k) :
    Calls Tryd.prog 127 #[.pointer (some ⟨bs, 0, none⟩)] w fun e w' => EndPost base bs (givenS s) w e w' := by
  have hpl := pull_any base bs V s i w h hn hr.lt hr.fr hr.frs hr.st hst0
  have hps := pullV_setFr hn
  have hcal : (fibAt (pullV s) i).caller = (fibAt s i).caller := by rw [hps, setFr_caller _ hr.lt]
  have hlen : (pullV s).fibers.length = s.fibers.length := by rw [hps]; exact setFib_len _ _ _
  have hnow : (pullV s).now = i := by rw [hps]; exact hn
  have hout : (pullV s).out = s.out := by rw [hps]; rfl
  have hfl : (fibAt (pullV s) i).frames.length = (fibAt s i).frames.length := by rw [hps]; exact setFr_frames _ hr.lt i
  have hlt1 : i < (pullV s).fibers.length := by rw [hlen]; exact hr.lt
  have hoth : ∀ k, k ≠ i → fibAt (popped s i) k = fibAt s k := fun k hk => by
    unfold popped
    rw [fibAt_ne _ (fun e => hk e.symm), hps]
    exact setFr_other _ (fun e => hk e.symm)
  have hlp : (popped s i).fibers.length = s.fibers.length := by unfold popped; rw [setFib_len, hlen]
  have hfp : fibAt (popped s i) i = { fibAt (pullV s) i with frames := (fibAt (pullV s) i).frames.dropLast } := by unfold popped; exact fibAt_same _ hlt1
  have hfpl : (fibAt (popped s i) i).frames.length = (fibAt s i).frames.length - 1 := by rw [hfp]; simp [hfl]
  have hrb : 1 < (fibAt s i).frames.length → Runs (popped s i) i := fun h1 => by
    refine ⟨by rw [hlp]; exact hr.lt, by omega, by have := hr.frs; omega, ?_⟩
    have : frAt (popped s i) i ((fibAt (popped s i) i).frames.length - 1) = frAt s i ((fibAt s i).frames.length - 2) := by
      rw [hfpl]
      unfold frAt
      rw [hfp]
      simp only
      have hlt2 : (fibAt s i).frames.length - 1 - 1 < (fibAt (pullV s) i).frames.length - 1 := by omega
      rw [show (fibAt s i).frames.length - 2 = (fibAt s i).frames.length - 1 - 1 by omega]
      have e1 : (fibAt (pullV s) i).frames.dropLast.getD ((fibAt s i).frames.length - 1 - 1) Fr.zero = (fibAt (pullV s) i).frames.getD ((fibAt s i).frames.length - 1 - 1) Fr.zero := by
        have h2 : (fibAt s i).frames.length - 1 - 1 < (fibAt (pullV s) i).frames.length := by omega
        simp [List.getD, hlt2, h2]
      rw [e1]
      have := frAt_ne (s := s) (i := i) (j := (fibAt s i).frames.length - 1) (i' := i) (j' := (fibAt s i).frames.length - 1 - 1) { frAt s i ((fibAt s i).frames.length - 1) with stack := (frAt s i ((fibAt s i).frames.length - 1)).stack.dropLast } hr.lt (by rintro ⟨_, e⟩; omega)
      rw [← hps] at this
      exact this
    rw [this]; exact hbel h1
  rw [givenS_eq hn hr.lt]
  have hemp : ((popped s i).fibers.length = 0 ∨ (fibAt (popped s i) i).frames = []) ↔ (fibAt s i).frames.length = 1 := by
    have := hr.fr
    have := hr.lt
    constructor
    · rintro (e | e)
      · omega
      · have := congrArg List.length e
        simp only [List.length_nil] at this
        omega
    · intro e
      exact .inr (List.length_eq_zero_iff.1 (by omega))
  have hlop := hr.lt
  have hq1 := hr.fr
  have hq2 := hr.frs
  have HRB := hide hrb
  have HRK : Hid (∀ k, Runs s k → k ≠ i → Runs { (setFib (popped s i) i { fibAt (popped s i) i with caller := -1 }) with now := (k : Int) } k) := hide (fun k hrk hki => by
    refine hrk.other ?_ ?_
    · show (setFib (popped s i) i _).fibers.length = _
      rw [setFib_len, hlp]
    · show fibAt (setFib (popped s i) i _) k = _
      rw [fibAt_ne _ (fun e => hki e.symm)]
      exact hoth k hki)
  have hpout : (popped s i).out.length ≤ 30 := by
    have : (popped s i).out = s.out := hout
    rw [this]; exact ho
  have hpnow : (popped s i).now = i := hnow
  generalize hcc : (fibAt s i).caller = c at *
  have hc' := hc c rfl
  generalize hzz : lastV s = z at *
  generalize hR : (if (popped s i).fibers.length = 0 ∨ (fibAt (popped s i) i).frames = [] then (if c < 0 then putS { popped s i with now := -1 } z else (pushV { (setFib (popped s i) i { fibAt (popped s i) i with caller := -1 }) with now := c } c z, 0)) else (pushV (popped s i) i z, 0)) = R
  have HR := hide hR
  have HEM := hide hemp
  have HPL := hide hpl
  have HC := hide hc'
  have HS1 := hide hlt1
  have HFP := hide (show popped s i = setFib (pullV s) i { fibAt (pullV s) i with frames := (fibAt (pullV s) i).frames.dropLast } from rfl)
  obtain ⟨t, ht⟩ : ∃ t, (fibAt s i).frames.length = t + 1 := ⟨_, (Nat.sub_add_cancel hq1).symm⟩
  rw [ht] at hfl hq2 hemp
  have HT := hide ht
  clear hR hemp hpl hps hc' hc h hr hrb hoth hfp hbel hcc hzz
  generalize hs1 : pullV s = s1 at *
  generalize hL : s.fibers.length = L at *
  clear hs1
  go_enter Tryd.func127, Tryd.ntmps127
  go_wp2_with fail
  refine (unhide HPL).mono ?_
  rintro e w1 ⟨rfl, V1, ho1, hb1⟩
  obtain ⟨c0, c1, _, fz⟩ := ho1.cells
  obtain ⟨gF, capF, eF, hcF, k0, k1, fzF, hbF⟩ := ho1.own.fib (i := i) hlt1
  obtain ⟨g, cap, eg, hcap, _⟩ := ho1.own.fr (i := i) (j := 0) hlt1 (by omega)
  rw [eF] at c0
  rw [hnow] at c1
  rw [hcal] at k1
  rw [hlen] at c0
  rw [eg, hfl] at k0
  rw [hfl] at hcap
  have hne : ¬ gF = bs := fun e => ho1.off .fibers trivial (by rw [eF, ← e]; rfl)
  have hne' : ¬ bs = gF := fun e => hne e.symm
  have hi1 : (i : Int) < (L : Int) := by omega
  have hi0 : (0 : Int) ≤ (i : Int) := by omega
  have hw : IntKind.i64.wrap ((t : Int) + 1 - 1) = (t : Int) := by rw [IntKind.wrap_i64]; omega
  have hts : (t : Int) + 1 - 1 = (t : Int) := by omega
  have ht0 : (0 : Int) ≤ (t : Int) := by omega
  have htc : (t : Int) ≤ (cap : Int) := by omega
  have fF := fzF (i * 2)
  have hdr := ho1.dropFrame hlt1 eF eg
  rw [hfl, Nat.add_sub_cancel] at hdr
  have HDR := hide hdr
  have HO1 := hide ho1
  have HB1 := hide hb1
  have HEF := hide eF
  clear ho1 hb1 hdr
  go_wp2
  go_quiet (fail)
  go_wp2
  generalize hw2 : w1.drewN nq = w2
  have y0 : w2.cell? ⟨bs, 0, none⟩ = some (.slice (some ⟨gF, 0, none⟩) L capF) := by rw [← hw2]; exact c0
  have y1 : w2.cell? ⟨bs, 1, none⟩ = some (.int .i64 i) := by rw [← hw2]; exact c1
  have j0 : w2.cell? ⟨gF, i * 2, none⟩ = some (.slice (some ⟨g, 0, none⟩) (t + 1) cap) := by rw [← hw2]; exact k0
  have j1 : w2.cell? ⟨gF, i * 2 + 1, none⟩ = some (.int .i64 c) := by rw [← hw2]; exact k1
  have jz : w2.frozen? ⟨gF, i * 2, none⟩ = false := by rw [← hw2]; exact fF
  have HDR2 : Hid (OwnVar base (w2.setCell ⟨gF, i * 2, none⟩ (.slice (some ⟨g, 0, none⟩) t cap)) bs (upd V1 (.frames i) (.slice (some ⟨g, 0, none⟩) t cap)) (popped s i) ∧ Below base w (w2.setCell ⟨gF, i * 2, none⟩ (.slice (some ⟨g, 0, none⟩) t cap))) := by
    rw [← hw2]
    refine hide ⟨by rw [unhide HFP]; exact OwnVar.same (unhide HDR).1 rfl, ?_⟩
    exact Below.setCell (below_drewN (unhide HB1) nq) hbF _
  clear hw2 c0 c1 k0 k1 fF HDR HB1 HO1 fz fzF
  go_region
  generalize hwz : (w2.setCell ⟨gF, i * 2, none⟩ (.slice (some ⟨g, 0, none⟩) t cap)).drew = wz
  have hoz : OwnVar base wz bs (upd V1 (.frames i) (.slice (some ⟨g, 0, none⟩) t cap)) (popped s i) := by rw [← hwz]; exact OwnVar.same (unhide HDR2).1 rfl
  have hbz : Below base w wz := by rw [← hwz]; exact Below.drew (unhide HDR2).2
  obtain ⟨x0, x1, _, xz⟩ := hoz.cells
  obtain ⟨gF', capF', eF', _, q0, q1, qz, _⟩ := hoz.own.fib (i := i) (by rw [hlp]; exact hlop)
  rw [upd_ne V1 _ (by simp), unhide HEF] at eF'
  rw [upd_same] at q0
  obtain ⟨⟨rfl⟩, -, rfl⟩ := (by simpa using eF' : (gF = gF') ∧ s1.fibers.length = (popped s i).fibers.length ∧ capF = capF')
  rw [upd_ne V1 _ (by simp), unhide HEF, hlen] at x0
  rw [hpnow] at x1
  have hcp : (fibAt (popped s i) i).caller = c := by
    rw [unhide HFP, fibAt_same _ (unhide HS1)]; exact hcal
  rw [hcp] at q1
  have z1 := xz 1
  have zF := qz (i * 2 + 1)
  have HOZ := hide hoz
  have HBZ := hide hbz
  clear hwz hoz hbz xz qz y0 y1 j0 j1 jz HDR2 eF' hcp
  by_cases hone : t = 0
  · subst hone
    have hem := (unhide HEM).2 (unhide HT)
    have hR := unhide HR
    rw [if_pos hem] at hR
    by_cases hneg : c < 0
    · rw [if_pos hneg] at hR
      have hd : decide (c < 0) = true := decide_eq_true hneg
      have HR2 := hide hR
      clear hR hem HC HRB HRK
      go_wp2_with fail
      have ho3 := (unhide HOZ).setNow (-1)
      refine (put_any base bs _ _ z _ ho3 hpout).mono ?_
      rintro e w4 ⟨rfl, hb4, hp4⟩
      rw [unhide HR2] at hp4 ⊢
      have HB4 := hide (Below.trans (Below.trans (unhide HBZ) (Below.setCell (Below.refl _ _) (unhide HOZ).low _)) hb4)
      have HP4 := hide hp4
      clear ho3 hb4 hp4
      go_wp2
      go_ret
      exact ⟨rfl, unhide HB4, unhide HP4⟩
    · rw [if_neg hneg] at hR
      have hd : decide (c < 0) = false := decide_eq_false hneg
      obtain ⟨k, hk, hki, hrk⟩ := (unhide HC) (by omega)
      subst hR hk
      have HRK2 := hide ((unhide HRK) k hrk hki)
      clear hem HC HRB HRK hrk HR
      go_wp2_with fail
      have ho2 := (unhide HOZ).setNow (k : Int)
      obtain ⟨ho3, hb3⟩ := ho2.setCaller (i := i) (by show i < (popped s i).fibers.length; rw [hlp]; exact hlop) (show (upd V1 (.frames i) (.slice (some ⟨g, 0, none⟩) 0 cap)) .fibers = .slice (some ⟨gF, 0, none⟩) (popped s i).fibers.length capF by rw [upd_ne V1 _ (by simp), unhide HEF, hlen, hlp]) (-1)
      have hrk := unhide HRK2
      refine (push_any base bs _ _ k z _ ho3 hrk.lt hrk.fr hrk.frs hrk.st).mono ?_
      rintro e w4 ⟨rfl, V4, ho4, hb4⟩
      have HB5 := hide (Below.trans (Below.trans (Below.trans (unhide HBZ) (Below.setCell (Below.refl _ _) (unhide HOZ).low _)) hb3) hb4)
      have HO4 := hide ho4
      clear ho2 ho3 hb3 hb4 ho4 hrk
      go_wp2
      go_ret
      exact ⟨rfl, unhide HB5, fun _ => ⟨V4, unhide HO4⟩⟩
  · have hem : ¬ ((popped s i).fibers.length = 0 ∨ (fibAt (popped s i) i).frames = []) := fun h => by
      have := (unhide HEM).1 h
      have := unhide HT
      omega
    have hR := unhide HR
    rw [if_neg hem] at hR
    subst hR
    have hd : decide ((0 : Int) < (t : Int)) = true := decide_eq_true (by omega)
    have hrun := (unhide HRB) (by have := unhide HT; omega)
    have HRUN := hide hrun
    clear hem HC HRB HRK hrun HR
    go_wp2_with fail
    have hrun := unhide HRUN
    refine (push_any base bs _ _ i z _ (unhide HOZ) hrun.lt hrun.fr hrun.frs hrun.st).mono ?_
    rintro e w4 ⟨rfl, V4, ho4, hb4⟩
    have HB5 := hide (Below.trans (unhide HBZ) hb4)
    have HO4 := hide ho4
    clear hb4 ho4 hrun
    go_wp2
    go_ret
    exact ⟨rfl, unhide HB5, fun _ => ⟨V4, unhide HO4⟩⟩
end Go.Proofs.YtohlefnljgkdcabDoor
namespace Go.Proofs.YtohlefnljgkdcabDoor
open Go.RowKit
def FrV (w : World) (v : Value) (x : Fr) : Prop := ∃ vl vs, v = .agg #[.int .i64 x.fn, .int .i64 x.at_, vl, vs] ∧ IntsW w vl x.locals ∧ IntsW w vs x.stack
def FbV (w : World) (v : Value) (b : Fb) : Prop := ∃ vf, v = .agg #[vf, .int .i64 b.caller] ∧ FramesAt w vf b.frames
theorem FrV.kept {w w' : World} (h : Kept w w') {v : Value} {x : Fr} (hx : FrV w v x) : FrV w' v x := by
  obtain ⟨vl, vs, e, h1, h2⟩ := hx; exact ⟨vl, vs, e, h1.kept h, h2.kept h⟩
theorem FbV.kept {w w' : World} (h : Kept w w') {v : Value} {x : Fb} (hx : FbV w v x) : FbV w' v x := by
  obtain ⟨vl, e, h1⟩ := hx; exact ⟨vl, e, h1.kept h⟩
def HLen (p : List Fn) : Prop := ∀ k, k < p.length → (hgt p k).length = (codeOf p k).length
theorem frameB_mk {p : List Fn} {x : Fr} {i : Nat} (hf : x.fn = i) (hi : i < p.length) : frameB p x = (decide ((x.locals.length : Int) = (p.getD i Fn.zero).locals) && (ixB x.at_ (codeOf p i).length && decide (0 ≤ (hgt p i).getD x.at_.toNat 0))) := by
  unfold frameB hAt
  rw [hf, ixB_true (by omega) (by omega), Bool.true_and, Int.toNat_natCast]
structure InFrame (p : List Fn) (x : Fr) : Prop where
  fn0 : 0 ≤ x.fn
  fn1 : x.fn < p.length
  at0 : 0 ≤ x.at_
  at1 : x.at_ < (codeOf p x.fn.toNat).length
theorem InFrame.of {p : List Fn} {x : Fr} (h : frameB p x = true) : InFrame p x := by
  simp only [frameB, Bool.and_eq_true, ixB_iff, decide_eq_true_eq] at h
  exact ⟨h.1.1, h.1.2, h.2.2.1.1, h.2.2.1.2⟩
theorem wrap_tiny (a : Int) (h1 : -17592186044416 ≤ a) (h2 : a ≤ 17592186044416) : IntKind.i64.wrap a = a := by
  rw [IntKind.wrap_i64]
  omega
def HBound (p : List Fn) : Prop := ∀ k a, k < p.length → -1000 ≤ (hgt p k).getD a 0 ∧ (hgt p k).getD a 0 ≤ 1000
end Go.Proofs.YtohlefnljgkdcabDoor
