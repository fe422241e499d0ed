/- DoP, EngA, OwnT, Moved -/
import Derived.Test.YtlapliclhfpgkaaDoorRB21
import Derived.Test.YtlapliclhfpgkaaDoorRB17
import Derived.Test.YtlapliclhfpgkaaDoorChecked
namespace Go.Proofs.YtlapliclhfpgkaaDoor
theorem pull_runs {s : St} {i : Nat} (hn : s.now = i) (hr : Runs s i) : (pullV s).now = i ∧ Runs (pullV s) i ∧ (frAt (pullV s) i ((fibAt (pullV s) i).frames.length - 1)).stack = (frAt s i ((fibAt s i).frames.length - 1)).stack.dropLast := by
  have hj : (fibAt s i).frames.length - 1 < (fibAt s i).frames.length := by have := hr.fr; omega
  have hl : (pullV s).fibers.length = s.fibers.length := by rw [pullV_setFr hn]; exact setFib_len _ _ _
  have hf : (fibAt (pullV s) i).frames.length = (fibAt s i).frames.length := by rw [pullV_setFr hn]; exact setFr_frames _ hr.lt i
  have hs : (frAt (pullV s) i ((fibAt s i).frames.length - 1)).stack = (frAt s i ((fibAt s i).frames.length - 1)).stack.dropLast := by rw [pullV_setFr hn, frAt_same _ hr.lt hj]
  refine ⟨by rw [pullV_setFr hn]; exact hn, ⟨by rw [hl]; exact hr.lt, by rw [hf]; exact hr.fr, by rw [hf]; exact hr.frs, ?_⟩, by rw [hf]; exact hs⟩
  rw [hf, hs]
  have := hr.st
  simp; omega
def gaveWay (s : St) (i : Nat) : St := { setFib s i { fibAt s i with caller := -1 } with now := (fibAt s i).caller }
def yieldS (s : St) (i : Nat) (z : Int) : St × Int := if (fibAt s i).caller = -1 then (St.zero, 7) else (pushV (gaveWay s i) (fibAt s i).caller z, 0)
theorem way_runs {s : St} {i m : Nat} (hne : m ≠ i) (hr : Runs s m) : Runs (gaveWay s i) m :=
  hr.other (setFib_len _ _ _) (fibAt_ne _ (fun e => hne e.symm))
def dropped (s : St) (i : Nat) : St := setFib s i { fibAt s i with frames := (fibAt s i).frames.dropLast }
def gaveBack (s : St) (i : Nat) (z : Int) : St × Int :=
  if (fibAt s i).frames.length = 1 then
    (if (fibAt s i).caller = -1 then putS (gaveWay (dropped s i) i) z else (pushV (gaveWay (dropped s i) i) (fibAt s i).caller z, 0))
  else (pushV (dropped s i) i z, 0)
theorem dropped_fib {s : St} {i : Nat} (hi : i < s.fibers.length) : fibAt (dropped s i) i = { fibAt s i with frames := (fibAt s i).frames.dropLast } := fibAt_same _ hi
theorem dropped_len (s : St) (i : Nat) : (dropped s i).fibers.length = s.fibers.length := setFib_len _ _ _
def callFr (f lo : Nat) (vals : List Int) : Fr := ⟨f, 0, vals ++ List.replicate (lo - vals.length) 0, []⟩
def callS (s : St) (i f a lo : Nat) : St × Int :=
  if (fibAt s i).frames.length = 6 then (St.zero, 2) else (setFib (takeTop s i a) i { fibAt (takeTop s i a) i with frames := (fibAt (takeTop s i a) i).frames ++ [callFr f lo ((frAt s i ((fibAt s i).frames.length - 1)).stack.drop ((frAt s i ((fibAt s i).frames.length - 1)).stack.length - a))] }, 0)
def makeS (s : St) (i f lo : Nat) : St × Int :=
  if s.fibers.length = 5 then (St.zero, 2) else (pushV { s with fibers := s.fibers ++ [⟨[callFr f lo []], -1⟩] } i s.fibers.length, 0)
def resumeS (s : St) (i : Nat) (x z : Int) : St × Int :=
  if x < 0 ∨ (s.fibers.length : Int) ≤ x then (St.zero, 5)
  else if x.toNat = 0 ∨ (fibAt s x.toNat).caller ≠ -1 ∨ (fibAt s x.toNat).frames.length = 0 then (St.zero, 6)
  else if (frAt s x.toNat ((fibAt s x.toNat).frames.length - 1)).at_ = 0 then
    (setFr { setFib s x.toNat { fibAt s x.toNat with caller := i } with now := x } x.toNat ((fibAt s x.toNat).frames.length - 1) { frAt s x.toNat ((fibAt s x.toNat).frames.length - 1) with locals := (frAt s x.toNat ((fibAt s x.toNat).frames.length - 1)).locals.set 0 z }, 0)
  else (pushV { setFib s x.toNat { fibAt s x.toNat with caller := i } with now := x } x z, 0)
theorem setFib_self {s : St} {i : Nat} {b : Fb} (hi : i < s.fibers.length) (hb : b = fibAt s i) : setFib s i b = s := by
  unfold setFib
  rw [hb, show s.fibers.set i (fibAt s i) = s.fibers from set_getD_self _ _ _ hi]
theorem caller_self {s : St} {i : Nat} {c : Int} (hi : i < s.fibers.length) (hc : (fibAt s i).caller = c) : setFib s i { fibAt s i with caller := c } = s := setFib_self hi (by rw [← hc])
theorem pull_caller {s : St} {i : Nat} (hn : s.now = i) (hr : Runs s i) (k : Nat) : (fibAt (pullV s) k).caller = (fibAt s k).caller := by rw [pullV_setFr hn]; exact setFr_caller _ hr.lt k
theorem pull_frames {s : St} {i : Nat} (hn : s.now = i) (hr : Runs s i) (k : Nat) : (fibAt (pullV s) k).frames.length = (fibAt s k).frames.length := by rw [pullV_setFr hn]; exact setFr_frames _ hr.lt k
theorem pull_len {s : St} {i : Nat} (hn : s.now = i) : (pullV s).fibers.length = s.fibers.length := by rw [pullV_setFr hn]; exact setFib_len _ _ _
theorem pull_other {s : St} {i k : Nat} (hn : s.now = i) (hk : k ≠ i) : fibAt (pullV s) k = fibAt s k := by rw [pullV_setFr hn]; exact setFr_other _ (fun e => hk e.symm)
theorem yield_eq {s : St} {i : Nat} (hn : s.now = i) (hc : -1 ≤ (fibAt (pullV s) i).caller) : yieldedS s = yieldS (pullV s) i (lastV s) := by
  unfold yieldedS yieldS gaveWay
  simp only [hn, fib_fibAt, turn_setFib]
  by_cases h : (fibAt (pullV s) i).caller = -1
  · rw [if_pos (by omega), if_pos h]
  · rw [if_neg (by omega), if_neg h]
theorem given_eq {s : St} {i : Nat} (hn : s.now = i) (hr : Runs (pullV s) i) (hc : -1 ≤ (fibAt (pullV s) i).caller) : givenS s = gaveBack (pullV s) i (lastV s) := by
  have hd : fibAt (dropped (pullV s) i) i = { fibAt (pullV s) i with frames := (fibAt (pullV s) i).frames.dropLast } := dropped_fib hr.lt
  have hdc : (fibAt (dropped (pullV s) i) i).caller = (fibAt (pullV s) i).caller := by rw [hd]
  have hf := hr.fr
  have hl : i < (dropped (pullV s) i).fibers.length := by rw [dropped_len]; exact hr.lt
  have hs1 : ((pullV s).turn s.now fun b => { b with frames := b.frames.dropLast }) = dropped (pullV s) i := by rw [hn, turn_setFib]; rfl
  unfold givenS gaveBack
  simp only
  rw [hs1]
  simp only [hn, fib_fibAt, turn_setFib, hdc]
  by_cases h1 : (fibAt (pullV s) i).frames.length = 1
  · have h2 : (fibAt (dropped (pullV s) i) i).frames = [] := by
      rw [hd]
      apply List.eq_nil_of_length_eq_zero
      simp [h1]
    rw [if_pos h2, if_pos h1]
    by_cases h3 : (fibAt (pullV s) i).caller = -1
    · rw [if_pos (by omega), if_pos h3]
      have : gaveWay (dropped (pullV s) i) i = { dropped (pullV s) i with now := -1 } := by
        unfold gaveWay
        rw [caller_self hl (hdc.trans h3), hdc, h3]
      rw [this]
    · rw [if_neg (by omega), if_neg h3]
      unfold gaveWay
      rw [hdc]
  · have h2 : (fibAt (dropped (pullV s) i) i).frames ≠ [] := by
      rw [hd]
      intro e
      have := congrArg List.length e
      simp at this
      omega
    rw [if_neg h2, if_neg h1]
theorem made_eq {p : List Fn} {s : St} {i f lo : Nat} (hn : s.now = i) (hi : i < s.fibers.length) (hl : (p.getD f Fn.zero).locals = lo) : madeS p s f = makeS s i f lo := by
  have hb : begunS p (f : Int) [] = callFr f lo [] := by
    unfold begunS callFr
    rw [Int.toNat_natCast, hl, Int.toNat_natCast]
  obtain ⟨fbs, nw, ou⟩ := s
  simp only at hn hi
  subst hn
  unfold madeS makeS
  rw [hb]
  simp only
  split
  · rfl
  · have hf : fibAt ⟨fbs ++ [⟨[callFr f lo []], -1⟩], i, ou⟩ i = fibAt ⟨fbs, i, ou⟩ i := by simp [fibAt, List.getD, List.getElem?_append_left hi]
    have hfr : ∀ j, frAt ⟨fbs ++ [⟨[callFr f lo []], -1⟩], i, ou⟩ i j = frAt ⟨fbs, i, ou⟩ i j := fun j => by unfold frAt; rw [hf]
    unfold pushV
    rw [turnTop_setFr, turnTop_setFr, hfr, hf]
    unfold setFr setFib
    rw [hf]
    simp only
    rw [List.set_append, if_pos hi]
theorem resume_eq {s : St} {i : Nat} {s2 : St} {x v : Int} (h2 : pullV (pullV s) = s2) (hx : lastV (pullV s) = x) (hv : lastV s = v) (hn2 : s2.now = i) (hline : ∀ m : Nat, m < s2.fibers.length → ((m : Int) ∈ (lineF s2.fibers (s2.fibers.length + 1) s2.now []).getD [] ↔ m = 0 ∨ (fibAt s2 m).caller ≠ -1)) :
    resumedS s = resumeS s2 i x v := by
  unfold resumedS resumeS
  simp only [hx, hv, h2]
  by_cases hb : x < 0 ∨ (s2.fibers.length : Int) ≤ x
  · rw [if_neg (by rw [ixB_iff]; omega), if_pos hb]
  · rw [if_pos (by rw [ixB_iff]; omega), if_neg hb]
    obtain ⟨m, rfl⟩ : ∃ m : Nat, x = m := ⟨x.toNat, by omega⟩
    have hm : m < s2.fibers.length := by omega
    rw [Int.toNat_natCast]
    simp only [fib_fibAt, turn_setFib, hn2]
    have hiff : ((m : Int) ∈ (lineF s2.fibers (s2.fibers.length + 1) (i : Int) []).getD [] ∨ (fibAt s2 m).frames = []) ↔ (m = 0 ∨ (fibAt s2 m).caller ≠ -1 ∨ (fibAt s2 m).frames.length = 0) := by
      have := hline m hm
      rw [hn2] at this
      rw [this, List.length_eq_zero_iff, or_assoc]
    by_cases hc : m = 0 ∨ (fibAt s2 m).caller ≠ -1 ∨ (fibAt s2 m).frames.length = 0
    · rw [if_pos (hiff.2 hc), if_pos hc]
    · rw [if_neg (fun h => hc (hiff.1 h)), if_neg hc]
      have hfib : fibAt { setFib s2 m { fibAt s2 m with caller := (i : Int) } with now := (m : Int) } m = { fibAt s2 m with caller := (i : Int) } := fibAt_same _ hm
      have hfr : ∀ j, frAt { setFib s2 m { fibAt s2 m with caller := (i : Int) } with now := (m : Int) } m j = frAt s2 m j := fun j => by unfold frAt; rw [hfib]
      have htop := top_at (s := { setFib s2 m { fibAt s2 m with caller := (i : Int) } with now := (m : Int) }) (i := m) rfl
      rw [hfib, hfr] at htop
      rw [htop]
      split
      · rw [turnTop_setFr, hfib, hfr]
      · rfl
theorem Good.goes {p : List Fn} {s : St} {l : List Int} (h : Good p s l) (hn : 0 ≤ s.now) {m : Nat} (hm : m < s.fibers.length) : (m : Int) ∈ l ↔ m = 0 ∨ (fibAt s m).caller ≠ -1 := by
  constructor
  · intro hin
    rcases h.path.next _ hin with ⟨_, hl⟩ | hl
    · left
      rcases h.last with e | e
      · rw [e] at hin; cases hin
      · rw [hl] at e; simp at e; omega
    · right
      have := h.path.inside _ hl
      have e : callerOf s.fibers (m : Int) = (fibAt s m).caller := rfl
      omega
  · rintro (rfl | hc)
    · obtain ⟨r, hr⟩ := h.head hn
      rcases h.last with e | e
      · rw [hr] at e; cases e
      · exact List.mem_of_getLast? e
    · rcases Decidable.em ((m : Int) ∈ l) with h1 | h1
      · exact h1
      · exact absurd (h.off hm h1) hc
end Go.Proofs.YtlapliclhfpgkaaDoor
namespace Go.Proofs.YtlapliclhfpgkaaDoor
open Go.RowKit
abbrev eng (bs : Nat) (vp : Value) : Value := .agg #[.pointer (some ⟨bs, 0, none⟩), vp]
set_option maxHeartbeats 1000000 in
theorem running_any (bs N capF gF i n cp : Nat) (oa : Option Addr) (w : World) (hi : i < N)
    (c0 : w.cell? ⟨bs, 0, none⟩ = some (.slice (some ⟨gF, 0, none⟩) N capF)) (c1 : w.cell? ⟨bs, 1, none⟩ = some (.int .i64 i)) :
    Calls Tryd.prog 86 #[eng bs (.slice oa n cp)] w fun e w' => e = .returned (.pointer (some ⟨gF, i * 2, none⟩)) ∧ Kept w w' := by
  have hi1 : (i : Int) < (N : Int) := by omega
  have hi0 : (0 : Int) ≤ (i : Int) := by omega
  have d0 : ∀ o, (w.alloc o).cell? ⟨bs, 0, none⟩ = some (.slice (some ⟨gF, 0, none⟩) N capF) := fun o => ((Kept.refl w).alloc o).cell c0
  have d1 : ∀ o, (w.alloc o).cell? ⟨bs, 1, none⟩ = some (.int .i64 i) := fun o => ((Kept.refl w).alloc o).cell c1
  go_enter Tryd.func86, Tryd.ntmps86
  go_wp2
  go_quiet (fail)
  go_wp2
  go_ret
  exact ⟨rfl, ((Kept.refl w).alloc _).drewN _⟩
set_option maxHeartbeats 1000000 in
theorem engTop_any (bs N capF gF i q cap g n cp : Nat) (oa : Option Addr) (w : World) (hi : i < N) (hq : 0 < q) (hqs : q ≤ 1000)
    (c0 : w.cell? ⟨bs, 0, none⟩ = some (.slice (some ⟨gF, 0, none⟩) N capF)) (c1 : w.cell? ⟨bs, 1, none⟩ = some (.int .i64 i)) (c2 : w.cell? ⟨gF, i * 2, none⟩ = some (.slice (some ⟨g, 0, none⟩) q cap)) :
    Calls Tryd.prog 68 #[eng bs (.slice oa n cp)] w fun e w' => e = .returned (.pointer (some ⟨g, (q - 1) * 4, none⟩)) ∧ Kept w w' := by
  obtain ⟨t, rfl⟩ : ∃ t, q = t + 1 := ⟨q - 1, by omega⟩
  have hw : IntKind.i64.wrap (((t + 1 : Nat) : Int) - 1) = (t : Int) := by rw [IntKind.wrap_i64]; omega
  have hw2 : IntKind.i64.wrap ((t : Int) + 1 - 1) = (t : Int) := by rw [IntKind.wrap_i64]; omega
  have ht : (t : Int) + 1 - 1 = (t : Int) := by omega
  have ht1 : (t : Int) < (t : Int) + 1 := by omega
  have ht0 : (0 : Int) ≤ (t : Int) := by omega
  have hk1 : ∀ o, Kept w (w.alloc o) := fun o => (Kept.refl w).alloc o
  have hcall := fun o => running_any bs N capF gF i n cp oa (w.alloc o) hi ((hk1 o).cell c0) ((hk1 o).cell c1)
  have HC := hide hcall
  have HK := hide hk1
  clear hcall hk1
  go_enter Tryd.func68, Tryd.ntmps68
  go_wp2_with fail
  refine ((unhide HC) _).mono ?_
  rintro e w1 ⟨rfl, hk2⟩
  have d2 : w1.cell? ⟨gF, i * 2, none⟩ = some (.slice (some ⟨g, 0, none⟩) (t + 1) cap) := (((unhide HK) _).trans hk2).cell c2
  have HK2 := hide (((unhide HK) _).trans hk2)
  clear hk2
  go_wp2
  go_ret
  exact ⟨rfl, unhide HK2⟩
end Go.Proofs.YtlapliclhfpgkaaDoor
namespace Go.Proofs.YtlapliclhfpgkaaDoor
open Go.RowKit
theorem OwnVar.turnStack {base bs : Nat} {w w2 : World} {V : Key → Value} {s : St} (h : OwnVar base w bs V s) {i j g cap : Nat} (hi : i < s.fibers.length) (hj : j < (fibAt s i).frames.length)
    (hV : V (.frames i) = .slice (some ⟨g, 0, none⟩) (fibAt s i).frames.length cap) (vs : Value) (l : List Int) (hgrow : w.grownBy w2 (V (.stack i j)).ownBlock) (hown : w2.ownsRow base 3 1 vs l.length (ints l))
    (hat : vs.ownBlock = (V (.stack i j)).ownBlock ∨ vs.ownBlock = some w.heap.size) :
    OwnVar base (w2.setCell ⟨g, j * 4 + 3, none⟩ vs) bs (upd V (.stack i j) vs) (setFr s i j { frAt s i j with stack := l }) ∧ Below base w (w2.setCell ⟨g, j * 4 + 3, none⟩ vs) := by
  have hlS : live s (.stack i j) := ⟨hi, hj⟩
  have hlF : live s (.frames i) := hi
  have hgb : (V (.frames i)).ownBlock = some g := by rw [hV]; rfl
  have hbsw := lt_of_block h.var
  have hbsg : bs ≠ g := fun e => h.off _ hlF (by rw [hgb, e])
  have hgblk := (h.own.piece _ hlF).block g hgb
  have hown' := h.own.turnFrame (w1 := w2) hi hj hV vs { frAt s i j with stack := l } 3 vs (by omega) (fun b hb hne => hgrow.block b hb (fun e => hne e.symm)) hown hat rfl rfl rfl rfl rfl
  refine ⟨h.turn hown' ?_ (upd_ne V vs (by simp)) (upd_ne V vs (by simp)) rfl ?_, ?_⟩
  · rw [Below.heap_setCell _ _ _ _ hbsg]
    exact hgrow.block bs hbsw (fun e => h.off _ hlS e.symm)
  · intro k hk e
    by_cases hkS : k = .stack i j
    · subst hkS
      rw [upd_same] at e
      rcases hat with e' | e'
      · exact h.off _ hlS (by rw [← e', e])
      · rw [e] at e'; cases e'; omega
    · rw [upd_ne V vs hkS] at e
      exact h.off k ((setFr_live _ hi k).1 hk) e
  · refine Below.setCell (Below.grown (Below.refl _ w) hgrow (by omega) (fun r hr => ?_)) hgblk.1 _
    exact ((h.own.piece _ hlS).block r hr).1
theorem below_of_grown {base : Nat} {w w' : World} {row : Option Nat} (hg : w.grownBy w' row) (hb : base ≤ w.heap.size) (hr : ∀ r, row = some r → base ≤ r) : Below base w w' := Below.grown (Below.refl _ w) hg hb hr
theorem ints_at {l : List Int} {i : Nat} {z : Int} (h : l[i]? = some z) : (ints l)[i]? = some (.int .i64 z) := by simp [ints, h]
theorem row_cut {w : World} {base : Nat} {g cap n : Nat} {l : List Int} (h : w.ownsRow base 3 1 (.slice (some ⟨g, 0, none⟩) n cap) n (ints l)) (hn : n = l.length) (m : Nat) (hm : m ≤ n) : w.ownsRow base 3 1 (.slice (some ⟨g, 0, none⟩) m cap) m (ints (l.take m)) := by
  subst hn
  refine ⟨by rw [ints_len, List.length_take]; omega, ?_⟩
  rcases h.2 with ⟨h', _⟩ | ⟨g', cap', cur, h', hb, hgh, hnc, hcm, hcs, htake⟩
  · simp at h'
  · simp only [Value.slice.injEq, Option.some.injEq, Addr.mk.injEq, and_true, true_and] at h'
    obtain ⟨rfl, rfl⟩ := h'
    refine .inr ⟨g, cap, cur, rfl, hb, hgh, by omega, hcm, hcs, ?_⟩
    have : ints (l.take m) = (ints l).take m := by simp [ints, List.map_take]
    rw [this, ← htake, List.take_take]
    congr 1
    omega
theorem grown_refl (w : World) (row : Option Nat) : w.grownBy w row := ⟨rfl, rfl, rfl, Nat.le_refl _, fun _ _ _ => rfl⟩
theorem OwnVar.turnOut {base bs : Nat} {w w2 : World} {V : Key → Value} {s : St} (h : OwnVar base w bs V s) (l : List Int) (vo : Value) (hgrow : w.grownBy w2 (V .out).ownBlock) (hown : w2.ownsRow base 3 1 vo l.length (ints l)) (hat : vo.ownBlock = (V .out).ownBlock ∨ vo.ownBlock = some w.heap.size) :
    OwnVar base (w2.setCell ⟨bs, 2, none⟩ vo) bs (upd V .out vo) { s with out := l } ∧ Below base w (w2.setCell ⟨bs, 2, none⟩ vo) := by
  have hbsw := lt_of_block h.var
  have hown' := h.own.turnOut l vo hown (fun b hb hne => hgrow.block b hb (fun e => hne e.symm)) hat
  have hoff' : Own.off (upd V .out vo) { s with out := l } bs := by
    intro k hk e
    by_cases hko : k = .out
    · subst hko
      rw [upd_same] at e
      rcases hat with e' | e'
      · exact h.off .out trivial (by rw [← e', e])
      · rw [e] at e'; cases e'; omega
    · rw [upd_ne V vo hko] at e
      exact h.off k (by cases k using Key.by <;> exact hk) e
  refine ⟨⟨?_, hown'.setOff (a := ⟨bs, 2, none⟩) hoff' _, hoff', h.low⟩, ?_⟩
  · have hb2 : w2.heap[bs]? = some (.cells #[V .fibers, .int .i64 s.now, V .out] 35) := (hgrow.block bs hbsw (fun e => h.off .out trivial e.symm)).trans h.var
    rw [upd_same, upd_ne V vo (by simp)]
    simp [World.setCell, Array.getElem?_modify, hb2]
  · refine Below.setCell (Below.grown (Below.refl _ w) hgrow ?_ (fun r hr => ((h.own.piece .out trivial).block r hr).1)) h.low _
    have := h.low
    omega
end Go.Proofs.YtlapliclhfpgkaaDoor
namespace Go.Proofs.YtlapliclhfpgkaaDoor
open Go.RowKit
structure Moved (base bs : Nat) (V : Key → Value) (s : St) (w : World) (V' : Key → Value) (s' : St) (w' : World) : Prop where
  own : OwnVar base w' bs V' s'
  os : w'.os = w.os
  tape : w'.tape = w.tape
  output : w'.output = w.output
  size : w.heap.size ≤ w'.heap.size
  keep : ∀ b, b < w.heap.size → b ≠ bs → Own.off V s b → w'.heap[b]? = w.heap[b]?
  off : ∀ b, b < w.heap.size → Own.off V s b → Own.off V' s' b
section
variable {base bs : Nat} {V V' V'' : Key → Value} {s s' s'' : St} {w w' w'' : World}
theorem Moved.of_kept (h : OwnVar base w bs V s) (k : Kept w w') : Moved base bs V s w V s w' :=
  ⟨h.kept k, k.os, k.tape, k.output, k.size, fun b hb _ _ => k.block b hb, fun _ _ h => h⟩
theorem Moved.refl (h : OwnVar base w bs V s) : Moved base bs V s w V s w := .of_kept h (Kept.refl w)
theorem Moved.trans (h : Moved base bs V s w V' s' w') (k : Moved base bs V' s' w' V'' s'' w'') : Moved base bs V s w V'' s'' w'' :=
  ⟨k.own, k.os.trans h.os, k.tape.trans h.tape, k.output.trans h.output, Nat.le_trans h.size k.size, fun b hb hn ho => (k.keep b (Nat.lt_of_lt_of_le hb h.size) hn (h.off b hb ho)).trans (h.keep b hb hn ho), fun b hb ho => k.off b (Nat.lt_of_lt_of_le hb h.size) (h.off b hb ho)⟩
theorem Moved.kept (h : Moved base bs V s w V' s' w') (k : Kept w' w'') : Moved base bs V s w V' s' w'' := h.trans (.of_kept h.own k)
theorem Moved.pre {w0 : World} (h : Moved base bs V s w V' s' w') (h0 : OwnVar base w0 bs V s) (k : Kept w0 w) : Moved base bs V s w0 V' s' w' := (Moved.of_kept h0 k).trans h
theorem Moved.below (h : Moved base bs V s w V' s' w') (h0 : OwnVar base w bs V s) : Below base w w' :=
  ⟨h.os, h.tape, h.output, h.size, fun b hb => h.keep b (by have := h0.low; have := lt_of_block h0.var; omega) (by have := h0.low; omega) (fun k hk e => by have := ((h0.own.piece k hk).block b e).1; omega)⟩
theorem Moved.lays (h : Moved base bs V s w V' s' w') {b : Nat} {o : Obj} (hb : w.heap[b]? = some o) (hn : b ≠ bs) (ho : Own.off V s b) : w'.heap[b]? = some o :=
  (h.keep b (Array.getElem?_eq_some_iff.1 hb).1 hn ho).trans hb
theorem Moved.set {g i : Nat} {v : Value} (h' : OwnVar base (w.setCell ⟨g, i, none⟩ v) bs V' s') (hg : g = bs ∨ ∃ k, live s k ∧ (V k).ownBlock = some g)
    (ho : ∀ k b, live s' k → (V' k).ownBlock = some b → ∃ k', live s k' ∧ (V k').ownBlock = some b) : Moved base bs V s w V' s' (w.setCell ⟨g, i, none⟩ v) := by
  refine ⟨h', rfl, rfl, rfl, by simp [World.setCell], fun b hb hn hoff => Below.heap_setCell _ _ _ _ (fun e => ?_), fun b hb hoff k hk e => ?_⟩
  · have e : b = g := e
    rcases hg with hg | ⟨k, hk, hg⟩
    · exact hn (e.trans hg)
    · exact hoff k hk (by rw [hg, e])
  · obtain ⟨k', hk', e'⟩ := ho k b hk e
    exact hoff k' hk' e'
theorem Moved.grow {w2 : World} {K : Key} (hK : live s K) (hgrow : w.grownBy w2 (V K).ownBlock) {g i : Nat} {v : Value} (h' : OwnVar base (w2.setCell ⟨g, i, none⟩ v) bs V' s') (hg : g = bs ∨ ∃ k, live s k ∧ (V k).ownBlock = some g)
    (ho : ∀ k b, live s' k → (V' k).ownBlock = some b → b < w.heap.size → ∃ k', live s k' ∧ (V k').ownBlock = some b) : Moved base bs V s w V' s' (w2.setCell ⟨g, i, none⟩ v) := by
  refine ⟨h', hgrow.os, hgrow.tape, hgrow.output, by simpa [World.setCell] using hgrow.size, fun b hb hn hoff => ?_, fun b hb hoff k hk e => ?_⟩
  · rw [Below.heap_setCell _ _ _ _ (fun e => ?_)]
    · exact hgrow.block b hb (fun e => hoff K hK e.symm)
    · have e : b = g := e
      rcases hg with hg | ⟨k, hk, hg⟩
      · exact hn (e.trans hg)
      · exact hoff k hk (by rw [hg, e])
  · obtain ⟨k', hk', e'⟩ := ho k b hk e hb
    exact hoff k' hk' e'
theorem OwnVar.new (h : OwnVar base w bs V s) {b : Nat} (hb : w.heap.size ≤ b) : b ≠ bs ∧ Own.off V s b :=
  ⟨by have := lt_of_block h.var; omega, h.own.new_off (.inl hb)⟩
theorem Moved.scratch (h : Moved base bs V s w V' s' w') {b i : Nat} {v : Value} (hw : w.heap.size ≤ b) (hn : b ≠ bs) (ho : Own.off V' s' b) : Moved base bs V s w V' s' (w'.setCell ⟨b, i, none⟩ v) := by
  refine ⟨⟨(Below.heap_setCell _ _ _ _ (fun e => hn e.symm)).trans h.own.var, h.own.own.setOff (a := ⟨b, i, none⟩) ho v, h.own.off, h.own.low⟩, h.os, h.tape, h.output, by simpa [World.setCell] using h.size, fun c hc hn' hoff => ?_, h.off⟩
  rw [Below.heap_setCell _ _ _ _ (by show c ≠ b; omega)]
  exact h.keep c hc hn' hoff
theorem Moved.drew (h : Moved base bs V s w V' s' w') : Moved base bs V s w V' s' w'.drew := h.kept (Kept.refl _).drew
theorem Moved.setAt (h : OwnVar base w bs V s) {i j g cap : Nat} (hi : i < s.fibers.length) (hj : j < (fibAt s i).frames.length) (hV : V (.frames i) = .slice (some ⟨g, 0, none⟩) (fibAt s i).frames.length cap) (a : Int) :
    Moved base bs V s w V (setFr s i j { frAt s i j with at_ := a }) (w.setCell ⟨g, j * 4 + 1, none⟩ (.int .i64 a)) :=
  .set (h.setAt hi hj hV a).1 (.inr ⟨.frames i, hi, by rw [hV]; rfl⟩) (fun k b hk e => ⟨k, (setFr_live _ hi k).1 hk, e⟩)
theorem Moved.setLocal (h : OwnVar base w bs V s) {i j g cap q : Nat} (hi : i < s.fibers.length) (hj : j < (fibAt s i).frames.length) (hV : V (.locals i j) = .slice (some ⟨g, 0, none⟩) (frAt s i j).locals.length cap) (z : Int) :
    Moved base bs V s w V (setFr s i j { frAt s i j with locals := (frAt s i j).locals.set q z }) (w.setCell ⟨g, q, none⟩ (.int .i64 z)) :=
  .set (h.setLocal hi hj hV z).1 (.inr ⟨.locals i j, ⟨hi, hj⟩, by rw [hV]; rfl⟩) (fun k b hk e => ⟨k, (setFr_live _ hi k).1 hk, e⟩)
theorem Moved.setNow (h : OwnVar base w bs V s) (n : Int) : Moved base bs V s w V { s with now := n } (w.setCell ⟨bs, 1, none⟩ (.int .i64 n)) :=
  .set (h.setNow n) (.inl rfl) (fun k b hk e => ⟨k, by cases k using Key.by <;> exact hk, e⟩)
theorem setFib_live_frames {s : St} {i : Nat} {b : Fb} (hi : i < s.fibers.length) (hb : b.frames.length ≤ (fibAt s i).frames.length) (k : Key) (hk : live (setFib s i b) k) : live s k := by
  have hfl : ∀ t, (fibAt (setFib s i b) t).frames.length ≤ (fibAt s t).frames.length := fun t => by
    by_cases e : i = t
    · subst e; rw [fibAt_same _ hi]; exact hb
    · rw [fibAt_ne _ e]; exact Nat.le_refl _
  cases k using Key.by with
  | fibers => trivial
  | out => trivial
  | frames t => simpa only [live, setFib_len] using hk
  | locals t q => simp only [live, setFib_len] at hk ⊢; exact ⟨hk.1, Nat.lt_of_lt_of_le hk.2 (hfl t)⟩
  | stack t q => simp only [live, setFib_len] at hk ⊢; exact ⟨hk.1, Nat.lt_of_lt_of_le hk.2 (hfl t)⟩
theorem Moved.setCaller (h : OwnVar base w bs V s) {i g cap : Nat} (hi : i < s.fibers.length) (hV : V .fibers = .slice (some ⟨g, 0, none⟩) s.fibers.length cap) (c : Int) :
    Moved base bs V s w V (setFib s i { fibAt s i with caller := c }) (w.setCell ⟨g, i * 2 + 1, none⟩ (.int .i64 c)) :=
  .set (h.setCaller hi hV c).1 (.inr ⟨.fibers, trivial, by rw [hV]; rfl⟩) (fun k b hk e => ⟨k, setFib_live_frames (b := { fibAt s i with caller := c }) hi (Nat.le_refl _) k hk, e⟩)
theorem Moved.dropFrame (h : OwnVar base w bs V s) {i gF capF g cap : Nat} (hi : i < s.fibers.length)
    (hF : V .fibers = .slice (some ⟨gF, 0, none⟩) s.fibers.length capF) (hV : V (.frames i) = .slice (some ⟨g, 0, none⟩) (fibAt s i).frames.length cap) :
    Moved base bs V s w (upd V (.frames i) (.slice (some ⟨g, 0, none⟩) ((fibAt s i).frames.length - 1) cap)) (setFib s i { fibAt s i with frames := (fibAt s i).frames.dropLast }) (w.setCell ⟨gF, i * 2, none⟩ (.slice (some ⟨g, 0, none⟩) ((fibAt s i).frames.length - 1) cap)) := by
  refine .set (h.dropFrame hi hF hV).1 (.inr ⟨.fibers, trivial, by rw [hF]; rfl⟩) (fun k b hk e => ?_)
  have hl := setFib_live_frames (b := { fibAt s i with frames := (fibAt s i).frames.dropLast }) hi (by simp) k hk
  by_cases hkf : k = .frames i
  · subst hkf
    rw [upd_same] at e
    exact ⟨_, hl, by rw [hV]; exact e⟩
  · rw [upd_ne V _ hkf] at e
    exact ⟨k, hl, e⟩
theorem Moved.turnStack {w2 : World} (h : OwnVar base w bs V s) {i j g cap : Nat} (hi : i < s.fibers.length) (hj : j < (fibAt s i).frames.length) (hV : V (.frames i) = .slice (some ⟨g, 0, none⟩) (fibAt s i).frames.length cap) (vs : Value) (l : List Int)
    (hgrow : w.grownBy w2 (V (.stack i j)).ownBlock) (hown : w2.ownsRow base 3 1 vs l.length (ints l)) (hat : vs.ownBlock = (V (.stack i j)).ownBlock ∨ vs.ownBlock = some w.heap.size) :
    Moved base bs V s w (upd V (.stack i j) vs) (setFr s i j { frAt s i j with stack := l }) (w2.setCell ⟨g, j * 4 + 3, none⟩ vs) := by
  refine .grow (K := .stack i j) ⟨hi, hj⟩ hgrow (h.turnStack hi hj hV vs l hgrow hown hat).1 (.inr ⟨.frames i, hi, by rw [hV]; rfl⟩) (fun k b hk e hb => ?_)
  have hl := (setFr_live _ hi k).1 hk
  by_cases hks : k = .stack i j
  · subst hks
    rw [upd_same] at e
    rcases hat with h1 | h1
    · exact ⟨_, hl, by rw [← h1]; exact e⟩
    · rw [e] at h1; cases h1; omega
  · rw [upd_ne V _ hks] at e
    exact ⟨k, hl, e⟩
theorem Moved.turnOut {w2 : World} (h : OwnVar base w bs V s) (l : List Int) (vo : Value) (hgrow : w.grownBy w2 (V .out).ownBlock) (hown : w2.ownsRow base 3 1 vo l.length (ints l)) (hat : vo.ownBlock = (V .out).ownBlock ∨ vo.ownBlock = some w.heap.size) :
    Moved base bs V s w (upd V .out vo) { s with out := l } (w2.setCell ⟨bs, 2, none⟩ vo) := by
  refine .grow (K := .out) trivial hgrow (h.turnOut l vo hgrow hown hat).1 (.inl rfl) (fun k b hk e hb => ?_)
  have hl : live s k := by cases k using Key.by <;> exact hk
  by_cases hks : k = .out
  · subst hks
    rw [upd_same] at e
    rcases hat with h1 | h1
    · exact ⟨_, hl, by rw [← h1]; exact e⟩
    · rw [e] at h1; cases h1; omega
  · rw [upd_ne V _ hks] at e
    exact ⟨k, hl, e⟩
structure Past (bs : Nat) (V : Key → Value) (s : St) (w w' : World) : Prop where
  os : w'.os = w.os
  tape : w'.tape = w.tape
  output : w'.output = w.output
  size : w.heap.size ≤ w'.heap.size
  keep : ∀ b, b < w.heap.size → b ≠ bs → Own.off V s b → w'.heap[b]? = w.heap[b]?
theorem Past.of_kept (k : Kept w w') : Past bs V s w w' := ⟨k.os, k.tape, k.output, k.size, fun b hb _ _ => k.block b hb⟩
theorem Moved.past (h : Moved base bs V s w V' s' w') (k : Past bs V' s' w' w'') : Past bs V s w w'' :=
  ⟨k.os.trans h.os, k.tape.trans h.tape, k.output.trans h.output, Nat.le_trans h.size k.size, fun b hb hn ho => (k.keep b (Nat.lt_of_lt_of_le hb h.size) hn (h.off b hb ho)).trans (h.keep b hb hn ho)⟩
theorem Past.below (h : Past bs V s w w') (h0 : OwnVar base w bs V s) : Below base w w' :=
  ⟨h.os, h.tape, h.output, h.size, fun b hb => h.keep b (by have := h0.low; have := lt_of_block h0.var; omega) (by have := h0.low; omega) (fun k hk e => by have := ((h0.own.piece k hk).block b e).1; omega)⟩
theorem Past.lays (h : Past bs V s w w') {b : Nat} {o : Obj} (hb : w.heap[b]? = some o) (hn : b ≠ bs) (ho : Own.off V s b) : w'.heap[b]? = some o :=
  (h.keep b (Array.getElem?_eq_some_iff.1 hb).1 hn ho).trans hb
end
end Go.Proofs.YtlapliclhfpgkaaDoor
