/-
  Proved: whatever program and number it is handed, the statement FlowSame (C1: heights hang on nothing but the function's own ops, and how many Args those have that it calls) returns true, and its arguments read afterwards as they read before. Conditions: the variable op.kinds starts as the program's text lays it (the card ties it); nothing else beyond the form's own.
-/
import Derived.Test.YtkepbeeioalmbaaDoorCards
import Derived.Test.YtkepbeeioalmbaaDoorTie
import Derived.Test.YtkepbeeioalmbaaDoorOpen
import Derived.Test.YtkepbeeioalmbaaDoorFlowH
import Derived.Deep.Slices
import Derived.Deep.DeepHandedRow
namespace Go.Proofs.YtkepbeeioalmbaaDoor
open Go.RowKit Go.ChangeShapes Go.WideShapes Go.ChangeAt

set_option maxHeartbeats 1000000 in
set_option maxRecDepth 100000 in
theorem flowSame_err (p : List Fn) (v : Value) (f : Int) (w : World) (hp : ProgAt w v p) (hk : KindsAt w) (hz : (hgtS p f).2 ≠ 0) :
    Calls Tryd.prog 8 #[v, .int .i64 f] w fun e w' => e = .returned (.bool true) ∧ Kept w w' := by
  obtain ⟨oa, cap, rfl, _, _⟩ := id hp
  have hz' : ((hgtS p f).2 != 0) = true := by rw [bne_iff_ne]; exact hz
  have HP := hide hp
  have HK := hide hk
  clear hp hk hz
  go_enter Tryd.func8, Tryd.ntmps8
  go_wp2_with fail
  refine (heights_any p _ f _ (unhide HP) (unhide HK)).mono ?_
  rintro e w1 ⟨u, rfl, _, hk1⟩
  have H1 := hide hk1
  clear hk1
  generalize (hgtS p f).2 = r at *
  go_wp2_with fail
  refine (flowBegun_any _ ((unhide HK).kept (unhide H1))).mono ?_
  rintro e w2 ⟨rfl, hk2⟩
  have H2 := hide ((unhide H1).trans hk2)
  clear hk2
  go_wp2
  go_ret
  exact ⟨rfl, unhide H2⟩

theorem hgtS_zero {p : List Fn} {f : Int} (h : (hgtS p f).2 = 0) : ∃ (i : Nat) (H : List Int), f = i ∧ i < p.length ∧ chkS p i = 0 ∧ heightsS p (p.getD i Fn.zero).code = some H ∧ hgtS p f = (H, 0) := by
  unfold hgtS at h
  by_cases hz : chkS p f = 0
  · rw [if_pos hz] at h
    obtain ⟨i, rfl, hi, _⟩ := chkS_zero hz
    rw [Int.toNat_natCast] at h
    cases hh : heightsS p (p.getD i Fn.zero).code with
    | none => rw [hh] at h; cases h
    | some H =>
      refine ⟨i, H, rfl, hi, hz, hh, ?_⟩
      unfold hgtS
      rw [if_pos hz, Int.toNat_natCast, hh]
  · rw [if_neg hz] at h
    exact absurd h hz


/-- The same program, with no ops in the first k functions but f. -/
def bare (p : List Fn) (f k : Nat) : List Fn := p.mapIdx fun i g => if i < k ∧ i ≠ f then ⟨g.args, g.locals, []⟩ else g
theorem bare_len (p : List Fn) (f k : Nat) : (bare p f k).length = p.length := by simp [bare]
theorem bare_at (p : List Fn) (f k i : Nat) : (bare p f k).getD i Fn.zero = if i < k ∧ i ≠ f ∧ i < p.length then ⟨(p.getD i Fn.zero).args, (p.getD i Fn.zero).locals, []⟩ else p.getD i Fn.zero := by
  simp only [bare, List.getD, List.getElem?_mapIdx]
  by_cases hi : i < p.length
  · simp only [List.getElem?_eq_getElem hi, Option.map_some, Option.getD_some]
    by_cases h : i < k ∧ i ≠ f
    · rw [if_pos h, if_pos ⟨h.1, h.2, hi⟩]
    · rw [if_neg h, if_neg (fun h' => h ⟨h'.1, h'.2.1⟩)]
  · rw [if_neg (fun h => hi h.2.2)]
    simp [hi]
theorem bare_args (p : List Fn) (f k i : Nat) : ((bare p f k).getD i Fn.zero).args = (p.getD i Fn.zero).args ∧ ((bare p f k).getD i Fn.zero).locals = (p.getD i Fn.zero).locals := by
  rw [bare_at]
  split <;> exact ⟨rfl, rfl⟩
theorem bare_own (p : List Fn) (f k : Nat) : (bare p f k).getD f Fn.zero = p.getD f Fn.zero := by
  rw [bare_at, if_neg (fun h => h.2.1 rfl)]

theorem effS_bare (p : List Fn) (f k : Nat) : effS (bare p f k) = effS p := by
  funext kd a
  unfold effS
  rw [bare_len, (bare_args p f k a.toNat).1]
theorem opS_bare (p : List Fn) (f k : Nat) : opS (bare p f k) = opS p := by
  funext g x
  unfold opS mayB
  rw [bare_len, (bare_args p f k x.2.toNat).1, (bare_args p f k x.2.toNat).2]
theorem opsS_bare (p : List Fn) (f k : Nat) (g : Fn) : ∀ c, opsS (bare p f k) g c = opsS p g c
  | [] => rfl
  | x :: c => by unfold opsS; rw [opS_bare, opsS_bare p f k g c]
theorem chkS_bare (p : List Fn) (f k : Nat) : chkS (bare p f k) f = chkS p f := by
  unfold chkS
  rw [bare_len, Int.toNat_natCast, bare_own]
  simp only [opsS_bare]
theorem beh_bare (p : List Fn) (f k : Nat) : beh (bare p f k) = beh p := by
  funext x h
  unfold beh
  rw [effS_bare]
theorem roundS_bare (p : List Fn) (f k : Nat) (c : List (Int × Int)) : ∀ n, roundS (bare p f k) c n = roundS p c n
  | 0 => rfl
  | n + 1 => by
    funext H
    simp only [roundS]
    rw [roundS_bare p f k c n]
    have : stepS (bare p f k) c = stepS p c := by funext H k'; unfold stepS; rw [beh_bare]
    rw [this]
theorem roundsS_bare (p : List Fn) (f k : Nat) (c : List (Int × Int)) : ∀ n, roundsS (bare p f k) c n = roundsS p c n
  | 0 => rfl
  | n + 1 => by
    funext H
    simp only [roundsS]
    rw [roundsS_bare p f k c n, roundS_bare]
theorem hgtS_bare (p : List Fn) (f k : Nat) : hgtS (bare p f k) f = hgtS p f := by
  unfold hgtS heightsS
  rw [chkS_bare, Int.toNat_natCast, bare_own, roundsS_bare]

/-- The copy, in its own block. -/
def QAt (w : World) (gq : Nat) (l : List (Fn × Value)) : Prop :=
  ∃ cur : Array Value, w.heap[gq]? = some (.cells cur 34) ∧ cur.toList.take (l.length * 3) = flatFns l
theorem flatFns_len : ∀ l : List (Fn × Value), (flatFns l).length = l.length * 3
  | [] => rfl
  | y :: l => by
    have e : flatFns (y :: l) = .int .i64 y.1.args :: .int .i64 y.1.locals :: y.2 :: flatFns l := by simp [flatFns]
    rw [e]
    simp [flatFns_len l]
    omega
theorem QAt.cell {w : World} {gq : Nat} {l : List (Fn × Value)} (h : QAt w gq l) {k : Nat} (hk : k < l.length * 3) : w.cell? ⟨gq, k, none⟩ = (flatFns l)[k]? := by
  obtain ⟨cur, h1, h2⟩ := h
  rw [cell_lays h1, ← h2, List.getElem?_take, if_pos hk]
  simp
theorem flatFns_set : ∀ (l : List (Fn × Value)) (k : Nat) (x : Fn × Value), l[k]? = some x → (flatFns l).set (k * 3 + 2) (.slice none 0 0) = flatFns (l.set k (⟨x.1.args, x.1.locals, []⟩, .slice none 0 0))
  | [], k, x, h => by simp at h
  | y :: l, 0, x, h => by simp at h; subst h; simp [flatFns]
  | y :: l, k + 1, x, h => by
    have e : ∀ (y : Fn × Value) (l : List (Fn × Value)), flatFns (y :: l) = .int .i64 y.1.args :: .int .i64 y.1.locals :: y.2 :: flatFns l := by intro y l; simp [flatFns]
    rw [List.set_cons_succ, e, e, ← flatFns_set l k x (by simpa using h), show (k + 1) * 3 + 2 = k * 3 + 2 + 1 + 1 + 1 by omega]
    simp
theorem QAt.set {w : World} {gq : Nat} {l : List (Fn × Value)} (h : QAt w gq l) {k : Nat} {x : Fn × Value} (hx : l[k]? = some x) : QAt (w.setCell ⟨gq, k * 3 + 2, none⟩ (.slice none 0 0)) gq (l.set k (⟨x.1.args, x.1.locals, []⟩, .slice none 0 0)) := by
  obtain ⟨cur, h1, h2⟩ := h
  refine ⟨_, lays_set h1 _ _, ?_⟩
  rw [List.length_set, ← flatFns_set l k x hx, ← h2]
  simp [List.take_set]
theorem QAt.prog {w : World} {gq cap : Nat} {l : List (Fn × Value)} (h : QAt w gq l) (hl : l.length ≤ 8796093022208) (hc : ∀ x, x ∈ l → CodeAt w x.2 x.1.code) {p : List Fn} (hp : p = l.map (·.1)) : ProgAt w (.slice (some ⟨gq, 0, none⟩) l.length cap) p := by
  subst hp
  refine ⟨_, cap, by rw [List.length_map], by simpa using hl, fun i f hf => ?_⟩
  rw [List.getElem?_map, Option.map_eq_some_iff] at hf
  obtain ⟨x, hx, rfl⟩ := hf
  have hi := (List.getElem?_eq_some_iff.1 hx).1
  obtain ⟨h1, h2, h3⟩ := flatFns_at l i x hx
  refine ⟨gq, 0, x.2, rfl, ?_, ?_, ?_, hc x (List.mem_of_getElem? hx)⟩
  · rw [Nat.zero_add, h.cell (by omega)]; exact h1
  · rw [Nat.zero_add, h.cell (by omega)]; exact h2
  · rw [Nat.zero_add, h.cell (by omega)]; exact h3

/-- A program as it lies: each function with the value of its Code. -/
theorem ProgAt.listed {w : World} {b o cap : Nat} {p : List Fn} (hp : ProgAt w (.slice (some ⟨b, o, none⟩) p.length cap) p) : ∃ l : List (Fn × Value), l.map (·.1) = p ∧ (∀ x, x ∈ l → CodeAt w x.2 x.1.code) ∧ ∀ j u, (flatFns l)[j]? = some u → w.cell? ⟨b, o + j, none⟩ = some u := by
  obtain ⟨oa, cap', he, _, hi⟩ := hp
  have hall : ∀ i, i < p.length → ∃ cv : Value, w.cell? ⟨b, o + i * 3, none⟩ = some (.int .i64 (p.getD i Fn.zero).args) ∧ w.cell? ⟨b, o + i * 3 + 1, none⟩ = some (.int .i64 (p.getD i Fn.zero).locals) ∧ w.cell? ⟨b, o + i * 3 + 2, none⟩ = some cv ∧ CodeAt w cv (p.getD i Fn.zero).code := by
    intro i hil
    obtain ⟨b', o', cv, e, h1, h2, h3, h4⟩ := hi i _ (getD_of_lt p i Fn.zero hil)
    simp only [Value.slice.injEq] at he
    rw [← he.1] at e
    obtain ⟨rfl, rfl⟩ := (by simpa using e : b = b' ∧ o = o')
    exact ⟨cv, h1, h2, h3, h4⟩
  have : Inhabited Value := ⟨.nilIface⟩
  obtain ⟨g, hg⟩ := Deep.choose_lt hall
  have hlen : ((List.range p.length).map fun i => (p.getD i Fn.zero, g i)).length = p.length := by simp
  have hat : ∀ i, i < p.length → ((List.range p.length).map fun i => (p.getD i Fn.zero, g i))[i]? = some (p.getD i Fn.zero, g i) := by
    intro i hil; simp [hil]
  refine ⟨(List.range p.length).map fun i => (p.getD i Fn.zero, g i), ?_, ?_, ?_⟩
  · apply List.ext_getElem (by simp)
    intro i h1 h2
    simp [List.getD, h2]
  · intro x hx
    obtain ⟨i, hil, rfl⟩ := List.mem_map.1 hx
    exact (hg i (by simpa using hil)).2.2.2
  · intro j u hu
    have hj := (List.getElem?_eq_some_iff.1 hu).1
    rw [flatFns_len, hlen] at hj
    have hi3 : j / 3 < p.length := by omega
    obtain ⟨f1, f2, f3⟩ := flatFns_at _ (j / 3) _ (hat (j / 3) hi3)
    obtain ⟨g1, g2, g3, _⟩ := hg (j / 3) hi3
    have : j = j / 3 * 3 ∨ j = j / 3 * 3 + 1 ∨ j = j / 3 * 3 + 2 := by omega
    rcases this with e | e | e
    · rw [e] at hu ⊢; rw [f1] at hu; rw [← Option.some.inj hu]; exact g1
    · rw [e] at hu ⊢; rw [f2] at hu; rw [← Option.some.inj hu]; exact g2
    · rw [e] at hu ⊢; rw [f3] at hu; rw [← Option.some.inj hu]; exact g3

/-- The copy behind k rounds. -/
def cut (l : List (Fn × Value)) (f k : Nat) : List (Fn × Value) := l.mapIdx fun i x => if i < k ∧ i ≠ f then (⟨x.1.args, x.1.locals, []⟩, .slice none 0 0) else x
theorem cut_zero (l : List (Fn × Value)) (f : Nat) : cut l f 0 = l := by
  unfold cut
  apply List.ext_getElem?
  intro i
  simp
theorem cut_skip (l : List (Fn × Value)) (f : Nat) : cut l f (f + 1) = cut l f f := by
  unfold cut
  apply List.ext_getElem?
  intro i
  simp only [List.getElem?_mapIdx]
  congr 1
  funext x
  have : (i < f + 1 ∧ i ≠ f) ↔ (i < f ∧ i ≠ f) := by omega
  simp only [this]
theorem cut_set (l : List (Fn × Value)) (f k : Nat) (hk : k ≠ f) (x : Fn × Value) (hx : (cut l f k)[k]? = some x) : (cut l f k).set k (⟨x.1.args, x.1.locals, []⟩, .slice none 0 0) = cut l f (k + 1) := by
  apply List.ext_getElem?
  intro i
  rw [List.getElem?_set]
  unfold cut at hx ⊢
  simp only [List.getElem?_mapIdx] at hx ⊢
  by_cases e : k = i
  · subst e
    have hl : k < (l.mapIdx fun i x => if i < k ∧ i ≠ f then ((⟨x.1.args, x.1.locals, []⟩ : Fn), Value.slice none 0 0) else x).length := by
      cases hlk : l[k]? with
      | none => rw [hlk] at hx; cases hx
      | some y => simpa using (List.getElem?_eq_some_iff.1 hlk).1
    rw [if_pos rfl, if_pos hl]
    cases hlk : l[k]? with
    | none => rw [hlk] at hx; cases hx
    | some y =>
      rw [hlk] at hx
      simp only [Option.map_some, Nat.lt_irrefl, false_and, if_false, Option.some.injEq] at hx
      subst hx
      simp [hk]
  · rw [if_neg e]
    congr 1
    funext y
    have : (i < k + 1 ∧ i ≠ f) ↔ (i < k ∧ i ≠ f) := by omega
    simp only [this]
theorem cut_map (l : List (Fn × Value)) (p : List Fn) (h : l.map (·.1) = p) (f k : Nat) : (cut l f k).map (·.1) = bare p f k := by
  subst h
  unfold cut bare
  apply List.ext_getElem?
  intro i
  simp only [List.getElem?_map, List.getElem?_mapIdx]
  cases l[i]? with
  | none => rfl
  | some x =>
    simp only [Option.map_some]
    split <;> rfl
theorem cut_code {w : World} (l : List (Fn × Value)) (f k : Nat) (h : ∀ x, x ∈ l → CodeAt w x.2 x.1.code) : ∀ x, x ∈ cut l f k → CodeAt w x.2 x.1.code := by
  intro x hx
  obtain ⟨i, hi, rfl⟩ := List.mem_mapIdx.1 hx
  split
  · exact ⟨none, 0, rfl, by simp, fun i x h => by simp at h⟩
  · exact h _ (List.getElem_mem hi)

theorem infoFunc : (Tryd.prog.info? 34).map (fun i => (i.zero, i.size, i.bytes)) = some (some (.agg #[.int .i64 0, .int .i64 0, .slice none 0 0]), 3, 40) := by kernel_rfl

theorem flat_one {w : World} (l : List (Fn × Value)) (hl : ∀ x, x ∈ l → CodeAt w x.2 x.1.code) : ∀ u, u ∈ flatFns l → u.oneCell' = true := by
  intro u hu
  obtain ⟨x, hx, hux⟩ := List.mem_flatMap.1 hu
  obtain ⟨oa, cap, e, _⟩ := hl x hx
  simp only [List.mem_cons, List.not_mem_nil, or_false] at hux
  rcases hux with rfl | rfl | rfl
  · rfl
  · rfl
  · rw [e]; rfl

theorem ownsRow_slice {w : World} {base : Nat} {e : TypeId} {size : Nat} {v : Value} {n : Nat} {xs : List Value} (hn : 0 < n) (h : w.ownsRow base e size v n xs) : ∃ g cap, v = .slice (some ⟨g, 0, none⟩) n cap := by
  rcases h.2 with ⟨_, h0⟩ | ⟨g, cap, cur, hv, _⟩
  · omega
  · exact ⟨g, cap, hv⟩

theorem QAt.kept {w w' : World} {gq : Nat} {l : List (Fn × Value)} (h : QAt w gq l) (k : Kept w w') : QAt w' gq l := by
  obtain ⟨cur, h1, h2⟩ := h
  exact ⟨cur, lays_kept k h1, h2⟩

set_option maxHeartbeats 4000000 in
set_option maxRecDepth 100000 in
theorem flowSame_go (p : List Fn) (i b o cap : Nat) (H : List Int) (w : World) (hk : KindsAt w) (hp : ProgAt w (.slice (some ⟨b, o, none⟩) p.length cap) p) (hi : i < p.length) (hlen : p.length * 40 ≤ 140737488351232) (hg : hgtS p i = (H, 0)) :
    Calls Tryd.prog 8 #[.slice (some ⟨b, o, none⟩) p.length cap, .int .i64 i] w fun e w' => e = .returned (.bool true) ∧ Kept w w' := by
  have g1 : decide ((i : Int) < 0) = false := by simp
  have g2 : decide ((p.length : Int) ≤ (i : Int)) = false := by simpa using hi
  obtain ⟨i0, hi0, hz0, hz1, hz2⟩ := info_parts infoFunc
  obtain ⟨l, hlp, hlc, hlf⟩ := hp.listed
  have hll : l.length = p.length := by rw [← hlp]; simp
  have HLP := hide hlp
  have HLC := hide hlc
  have HLF := hide hlf
  have HLL := hide hll
  have HK := hide hk
  have HP := hide hp
  have HG := hide hg
  clear hk hp hg hlp hlc hlf hll
  go_enter Tryd.func8, Tryd.ntmps8
  go_wp2_with fail
  refine (heights_is p _ i H 0 _ (unhide HP) (unhide HK) (unhide HG)).mono ?_
  rintro e w1 ⟨u, rfl, hu, hk1⟩
  have HU := hide hu
  have H1 := hide hk1
  clear hu hk1
  have hown : (w1.alloc (.cells #[] 34)).ownsRow w1.heap.size 34 3 (.slice (some ⟨w1.heap.size, 0, none⟩) 0 0) 0 [] :=
    ⟨rfl, .inr ⟨w1.heap.size, 0, #[], rfl, Nat.le_refl _, lays_new rfl, Nat.le_refl _, by decide, rfl, rfl⟩⟩
  have HOWN := hide hown
  clear hown
  have c1 : Hid ((flatFns l).length = p.length * 3) := by rw [flatFns_len, unhide HLL]; exact hide rfl
  have c2 : Hid (∀ j u, (flatFns l)[j]? = some u → (w1.alloc (.cells #[] 34)).cell? ((⟨b, o, none⟩ : Addr).add j) = some u) := by
    refine hide ?_
    intro j u hj
    have := ((unhide H1).trans ((Kept.refl _).alloc (.cells #[] 34))).cell ((unhide HLF) j u hj)
    rwa [add_of_spot rfl]
  have c3 : Hid (∀ u, u ∈ flatFns l → u.oneCell' = true) := flat_one l (unhide HLC)
  have c4 : Hid (0 + p.length ≤ maxLen) := by refine hide ?_; simp only [maxLen]; omega
  have c5 : Hid ((0 + p.length) * 40 ≤ 140737488355328) := by refine hide ?_; omega
  have c6 : Hid (w1.heap.size ≤ (w1.alloc (.cells #[] 34)).heap.size) := by refine hide ?_; simp
  go_wp2_with (at_builtin; refine wpList_append_own _ rfl _ _ 22 rfl w1.heap.size 34 i0 (.agg #[.int .i64 0, .int .i64 0, .slice none 0 0]) 3 40 Tryd.underlying22 hi0 hz0 hz1 hz2 rfl (by decide) _ _ _ rfl (unhide HOWN) ⟨b, o, none⟩ p.length cap (flatFns l) rfl (unhide c1) (unhide c2) (unhide c3) (unhide c4) (unhide c5) (unhide c6) ?_; intro v' w2 hown' hgrow _; obtain ⟨gq, cq, hv'⟩ := ownsRow_slice (show 0 < 0 + p.length by omega) hown'; subst hv'; have HOW2 := hide hown'; have HGR := hide hgrow; clear hown' hgrow)
  obtain ⟨hxs, hor⟩ := unhide HOW2
  have hq : ∃ cur : Array Value, w1.heap.size ≤ gq ∧ w2.heap[gq]? = some (.cells cur 34) ∧ cur.toList.take (p.length * 3) = flatFns l := by
    rcases hor with ⟨h0, _⟩ | ⟨g', cap', cur, hv, hb, hh, _, _, _, ht⟩
    · cases h0
    · simp only [Value.slice.injEq, Option.some.injEq, Addr.mk.injEq] at hv
      obtain ⟨⟨rfl, _⟩, _⟩ := hv
      exact ⟨cur, hb, hh, by simpa using ht⟩
  obtain ⟨cur, hbq, hhq, htq⟩ := hq
  have HQ2 : Hid (QAt w2 gq l) := ⟨cur, hhq, by rw [unhide HLL]; exact htq⟩
  have K12 : Hid (Kept w1 w2) := Below.grown ((Kept.refl w1).alloc _) (unhide HGR) (by simp) (fun k e => by cases e; exact Nat.le_refl _)
  clear hxs hor hhq htq HOW2 HGR HOWN c1 c2 c3 c4 c5 c6
  go_loopw [8] (fun s8 wr => ∃ k : Nat, k ≤ p.length ∧ s8 = .int .i64 k ∧ Hid (QAt wr gq (cut l i k)) ∧ Hid (Kept w1 wr)) (fun s8 _ => p.length - (intOf s8).toNat)
  case atStart => exact ⟨0, Nat.zero_le _, rfl, by rw [cut_zero]; exact HQ2, K12⟩
  case round =>
    obtain ⟨k, hkm, rfl, HQ, HKr⟩ := hrel
    have hcl : (cut l i k).length = p.length := by rw [← unhide HLL]; simp [cut]
    by_cases hlt : k < p.length
    · by_cases hki : k = i
      · have gk : ((k : Int) != (i : Int)) = false := by rw [hki]; simp
        have hq' : Hid (QAt wr gq (cut l i (k + 1))) := by have hQ := unhide HQ; rw [hki] at hQ ⊢; rw [cut_skip]; exact hide hQ
        have HKI := hide hki
        clear hki hcl
        go_wp2
        exact ⟨⟨k + 1, by omega, by go_num, hq', HKr⟩, by simp [intOf]; omega⟩
      · have gk : ((k : Int) != (i : Int)) = true := by rw [bne_iff_ne]; omega
        obtain ⟨x, hx⟩ : ∃ x, (cut l i k)[k]? = some x := ⟨_, List.getElem?_eq_getElem (by omega)⟩
        have hset := (unhide HQ).set hx
        rw [cut_set l i k hki x hx] at hset
        have hcell := (unhide HQ).cell (k := k * 3 + 2) (by omega)
        rw [(flatFns_at _ k x hx).2.2] at hcell
        have hfz : wr.frozen? ⟨gq, k * 3 + 2, none⟩ = false := by
          obtain ⟨cur', h1', _⟩ := unhide HQ
          exact frozen_lays h1' _
        have HSET := hide hset
        have hone : ∃ oa' n' c', x.2 = .slice oa' n' c' := by
          obtain ⟨oa', c', e', _⟩ := cut_code l i k (unhide HLC) x (List.mem_of_getElem? hx)
          exact ⟨oa', _, c', e'⟩
        obtain ⟨oa', n', c', hone⟩ := hone
        rw [hone] at hcell
        clear hset hx hki hcl hone
        go_wp2
        exact ⟨⟨k + 1, by omega, by go_num, HSET, hide ((unhide HKr).setCell (p := ⟨gq, k * 3 + 2, none⟩) hbq _)⟩, by simp [intOf]; omega⟩
    · have hke : k = p.length := by omega
      have hKw := (unhide H1).trans (unhide HKr)
      have hpq : ProgAt wr (.slice (some ⟨gq, 0, none⟩) p.length cq) (bare p i p.length) := by
        have := (unhide HQ).prog (cap := cq) (by omega) (cut_code l i k (fun x hx => ((unhide HLC) x hx).kept hKw)) (cut_map l p (unhide HLP) i k).symm
        rw [hcl] at this
        rwa [hke] at this
      have HPQ := hide hpq
      have HKW := hide hKw
      clear hpq hKw hcl hke
      go_wp2_with fail
      refine (heights_is (bare p i p.length) _ i H 0 _ (unhide HPQ) ((unhide HK).kept (unhide HKW)) (by rw [hgtS_bare]; exact unhide HG)).mono ?_
      rintro e w3 ⟨u3, rfl, hu3, hk3⟩
      have HU3 := hide hu3
      have K3 := hide ((unhide HKW).trans hk3)
      have HUk := hide ((unhide HU).kept ((unhide HKr).trans hk3))
      clear hu3 hk3
      go_wp2_with fail
      refine (flowBegun_any _ ((unhide HK).kept (unhide K3))).mono ?_
      rintro e w4 ⟨rfl, hk4⟩
      have K4 := hide ((unhide K3).trans hk4)
      have HU4 := hide ((unhide HU3).kept hk4)
      have HUk4 := hide ((unhide HUk).kept hk4)
      clear hk4
      go_wp2_with fail
      refine (sameInts_any H H _ _ _ (unhide HUk4) (unhide HU4)).mono ?_
      rintro e w5 ⟨rfl, hk5⟩
      have K5 := hide ((unhide K4).trans hk5)
      clear hk5
      go_wp2
      go_ret
      exact ⟨by simp, unhide K5⟩

theorem flowSame_walk (p : List Fn) (v : Value) (f : Int) (w : World) (hp : ProgAt w v p) (_hf : (Lit.int .i64 f).wf = true) (hlen : p.length * 40 ≤ 140737488351232) (hk : KindsAt w) :
    Calls Tryd.prog 8 #[v, .int .i64 f] w fun e w' => e = .returned (.bool true) ∧ Kept w w' := by
  by_cases hz : (hgtS p f).2 = 0
  · obtain ⟨i, H, rfl, hi, hck, hh, hg⟩ := hgtS_zero hz
    obtain ⟨oa, cap, rfl, hl, hcell⟩ := id hp
    obtain ⟨b, o, cv, rfl, _⟩ := hcell i _ (getD_of_lt p i Fn.zero hi)
    exact flowSame_go p i b o cap H w hk hp hi hlen hg
  · exact flowSame_err p v f w hp hk hz

/-- How long a slice of functions may be that is read. -/
theorem prog_len {H : Type} {enc : TypeId × Value → H} {w : World} {base : Nat} {spare : Nat → Bool} {held : Bool} {fuel : Nat} {v : Value} {x : DataW H × List MemPlace} (h : DataW.trod enc Tryd.prog w base spare held fuel 22 [v] = some x) (hw : ∀ n, n ∈ x.1.weights Tryd.prog 22 → n ≤ reachBytes) {p : List Fn} (hp : ProgAt w v p) : p.length * 40 ≤ 140737488351232 := by
  obtain ⟨oa, cap, rfl, _, _⟩ := hp
  rcases Deep.open_slice Tryd.underlying22 h with ⟨e, _⟩ | ⟨a, len, cap, m, n, D, Pl, e, _, hlc, _, hm, hx, hi⟩
  · simp at e
    rw [e.2.1]; simp
  · simp at e
    have hlm : len ≤ m := by rw [hm]; split <;> omega
    have := hw ((((List.range len).map D).length + ((List.range (m - len)).map fun j => D (len + j)).length) * Tryd.prog.bytesOf 34) (by rw [hx]; simp [DataW.weights, Tryd.underlying22])
    rw [bytesFunc, reach_eq] at this
    simp at this
    rw [e.2.1]
    omega

set_option maxRecDepth 100000 in
theorem flowSame_contract (H : Type) (enc : TypeId × Value → H) (W : World) (base : Nat) (args : Array Value) (ds gs : List (DataW H)) (before : List MemPlace)
    (hval : ∀ (j : Nat) t v, Tryd.f8.params[j]? = some t → args[j]? = some v → Value.okWide Tryd.prog W .any base t v)
    (hW : DataW.Whole enc Tryd.prog Tryd.f8.params.toList Rows.flowSameSpec.vars false W args.toList ds gs before)
    (hsz : (DataW.weightsEach Tryd.prog (Tryd.f8.params.toList ++ (OpenSpec.ofChange Rows.flowSameSpec).bare.plain.varTypes Tryd.prog) (ds ++ gs)).all (· ≤ reachBytes) = true)
    (hL : laidMetH Tryd.prog Rows.flowSameRow.laid W) :
    Calls Tryd.prog 8 args W fun e W' => ∃ v, e = .returned v ∧ Rows.flowSameSpec.post enc Tryd.prog Tryd.f8 false true false false W args v W' := by
  have hW' := hW
  obtain ⟨p, q, hA0, hV, rfl, hfz, hnd⟩ := hW
  have hA : DataW.TrodAll enc Tryd.prog W 0 (fun _ => true) true Tryd.f8.params.toList args.toList ds p := hA0
  have hlt : ∀ x ∈ p, x.block < W.heap.size := fun x hx => by simpa using hW'.lt x (by simp [hx])
  have hA1 := hA
  rw [Tryd.params8] at hA hval hsz
  obtain ⟨v0, vs0, d0, ds0, p0, q0, hargs, rfl, rfl, h0, r0⟩ := trodAll_cons hA
  obtain ⟨v1, vs1, d1, ds1, p1, q1, rfl, rfl, rfl, h1, r1⟩ := trodAll_cons r0
  obtain ⟨rfl, rfl, rfl⟩ := trodAll_nil r1
  obtain rfl : args = #[v0, v1] := by cases args; simp_all
  obtain ⟨rfl, rfl⟩ := trodVars_none hV
  obtain ⟨pl0, hpl0, hlen0⟩ : ∃ pl, ProgAt W v0 pl ∧ pl.length * 40 ≤ 140737488351232 := by
    obtain ⟨oa, len, cap, rfl⟩ := okWide_slice Tryd.underlying22 (hval 0 22 v0 rfl rfl)
    obtain ⟨fuel, hf⟩ := h0
    obtain ⟨pl, hpl⟩ := open_prog hf (fun n hn => of_decide_eq_true (List.all_eq_true.1 hsz n (DataW.weights_mem_each (j := 0) rfl rfl n hn)))
    exact ⟨pl, hpl, prog_len hf (fun n hn => of_decide_eq_true (List.all_eq_true.1 hsz n (DataW.weights_mem_each (j := 0) rfl rfl n hn))) hpl⟩
  obtain ⟨n1, rfl, rfl, rfl, wn1⟩ := open_int Tryd.underlying3 (hval 1 3 v1 rfl rfl) h1
  refine (flowSame_walk pl0 v0 n1 W hpl0 wn1 hlen0 (kinds_of_laid hL)).mono fun e W' ⟨he, hg⟩ => ?_
  subst he
  refine ⟨_, rfl, _, _, _, [], _, [], hW', trodAll_mk1 (shut_bool Tryd.underlying4 _), trodAll_below hg ?_ hA1 hlt, rfl, hg.frame _, fun h => by cases h⟩
  intro t ht
  rw [Tryd.params8] at ht
  simp only [List.mem_cons, List.not_mem_nil, or_false] at ht
  rcases ht with rfl | rfl
  · exact ⟨by kernel_rfl, of_decide_eq_true (by kernel_rfl)⟩
  · exact ⟨by kernel_rfl, of_decide_eq_true (by kernel_rfl)⟩

set_option maxRecDepth 100000 in
theorem flowSame_laid_met (os : Os) : laidMet Tryd.prog Rows.flowSameRow.laid ((({ World.holding Tryd.prog os ⟨#[], #[], []⟩ with heap := (World.holding Tryd.prog os ⟨#[], #[], []⟩).heap.modify 0 fun | .cells _ t frozen => .cells #[.int .i64 0, .int .i64 1, .int .i64 1, .int .i64 1, .int .i64 0, .int .i64 0, .int .i64 0, .int .i64 1, .int .i64 2, .int .i64 1, .int .i64 0, .int .i64 2, .int .i64 2, .int .i64 1, .int .i64 0, .int .i64 2, .int .i64 1, .int .i64 0, .int .i64 2, .int .i64 1, .int .i64 0, .int .i64 2, .int .i64 1, .int .i64 0, .int .i64 2, .int .i64 1, .int .i64 0, .int .i64 0, .int .i64 0, .int .i64 3, .int .i64 1, .int .i64 0, .int .i64 3, .int .i64 0, .int .i64 1, .int .i64 4, .int .i64 1, .int .i64 0, .int .i64 0, .int .i64 0, .int .i64 1, .int .i64 4, .int .i64 2, .int .i64 1, .int .i64 0, .int .i64 1, .int .i64 1, .int .i64 0, .int .i64 1, .int .i64 0, .int .i64 0] t frozen | o => o } : World)).forCall (fun _ _ => 0) ⟨#[], #[.slice none 0 0, .int .i64 0], []⟩).memory :=
  laidMet_of_run' 8 (by kernel_rfl) (by kernel_rfl)
set_option maxRecDepth 100000 in
theorem flowSame_reads (os : Os) {H : Type} (enc : TypeId × Value → H) : ∃ places, DataW.whole enc Tryd.prog ((({ World.holding Tryd.prog os ⟨#[], #[], []⟩ with heap := (World.holding Tryd.prog os ⟨#[], #[], []⟩).heap.modify 0 fun | .cells _ t frozen => .cells #[.int .i64 0, .int .i64 1, .int .i64 1, .int .i64 1, .int .i64 0, .int .i64 0, .int .i64 0, .int .i64 1, .int .i64 2, .int .i64 1, .int .i64 0, .int .i64 2, .int .i64 2, .int .i64 1, .int .i64 0, .int .i64 2, .int .i64 1, .int .i64 0, .int .i64 2, .int .i64 1, .int .i64 0, .int .i64 2, .int .i64 1, .int .i64 0, .int .i64 2, .int .i64 1, .int .i64 0, .int .i64 0, .int .i64 0, .int .i64 3, .int .i64 1, .int .i64 0, .int .i64 3, .int .i64 0, .int .i64 1, .int .i64 4, .int .i64 1, .int .i64 0, .int .i64 0, .int .i64 0, .int .i64 1, .int .i64 4, .int .i64 2, .int .i64 1, .int .i64 0, .int .i64 1, .int .i64 1, .int .i64 0, .int .i64 1, .int .i64 0, .int .i64 0] t frozen | o => o } : World)).forCall (fun _ _ => 0) ⟨#[], #[.slice none 0 0, .int .i64 0], []⟩).memory Tryd.f8.params.toList Rows.flowSameSpec.vars false (#[.slice none 0 0, .int .i64 0] : Array Value).toList 8 = some ([.nil, .lit (.int .i64 0)], [], places) :=
  ⟨[], by kernel_rfl⟩

set_option maxRecDepth 100000 in
theorem flowSame_lifted (os : Os) (started : os.Started) (H : Type) (enc : TypeId × Value → H) (F : Stop.Interp) :
    ReturnsInHanded {} Tryd.checked os 8 .any ((OpenSpec.ofChange Rows.flowSameSpec).preRow enc Tryd.prog Tryd.f8 Rows.flowSameRow.domain false Rows.flowSameRow.laid) (((OpenSpec.ofChange Rows.flowSameSpec).at F).post enc Tryd.prog Tryd.f8 false true false false) := by
  obtain ⟨places, hx⟩ := flowSame_reads os enc
  refine returnsInHanded_of_row (C := Tryd.checked) (s := OpenSpec.ofChange Rows.flowSameSpec) own started (by kernel_rfl) Tryd.func8
    (witness_row_at (enc := enc) (C := Tryd.checked) false ({ World.holding Tryd.prog os ⟨#[], #[], []⟩ with heap := (World.holding Tryd.prog os ⟨#[], #[], []⟩).heap.modify 0 fun | .cells _ t frozen => .cells #[.int .i64 0, .int .i64 1, .int .i64 1, .int .i64 1, .int .i64 0, .int .i64 0, .int .i64 0, .int .i64 1, .int .i64 2, .int .i64 1, .int .i64 0, .int .i64 2, .int .i64 2, .int .i64 1, .int .i64 0, .int .i64 2, .int .i64 1, .int .i64 0, .int .i64 2, .int .i64 1, .int .i64 0, .int .i64 2, .int .i64 1, .int .i64 0, .int .i64 2, .int .i64 1, .int .i64 0, .int .i64 0, .int .i64 0, .int .i64 3, .int .i64 1, .int .i64 0, .int .i64 3, .int .i64 0, .int .i64 1, .int .i64 4, .int .i64 1, .int .i64 0, .int .i64 0, .int .i64 0, .int .i64 1, .int .i64 4, .int .i64 2, .int .i64 1, .int .i64 0, .int .i64 1, .int .i64 1, .int .i64 0, .int .i64 1, .int .i64 0, .int .i64 0] t frozen | o => o } : World) #[.slice none 0 0, .int .i64 0] rfl (by kernel_rfl) (by kernel_rfl) (by kernel_rfl)
      (OpenSpec.preRow_of_cond 8 hx (by kernel_rfl) (fun k hk => by cases hk) (by kernel_rfl) (flowSame_laid_met os))) ?_
  intro W base args ds gs before hval hW _ _ hsz hL _ _
  exact flowSame_contract H enc W base args ds gs before hval hW hsz hL

set_option maxRecDepth 100000 in
theorem flowSame_said : Rows.FlowSameSaid :=
  OpenClaim.holds_of_cond 8 Tryd.f8 rfl rfl rfl rfl rfl rfl rfl ⟨rfl, rfl, rfl, rfl, rfl⟩ rfl rfl rfl rfl rfl (by kernel_rfl) Tryd.func8 (by kernel_rfl)
    (of_decide_eq_true (by kernel_rfl)) (by unfold Func.isWrapper; first | (rw [if_pos (by decide +kernel)]; kernel_rfl) | (rw [if_neg (by decide +kernel)]; exact ⟨rfl, rfl⟩))
    (fun os started H enc _ F => by rw [OpenClaim.pre_eq_preRow]; exact flowSame_lifted os started H enc F)

set_option maxRecDepth 100000 in
theorem flowSame_plain (f : FuncId) (fn : Func) (hf : Tryd.pinned.checked.prog.funcNamed "glebe/glebelaw.FlowSame" = some f) (hfn : Tryd.pinned.checked.prog.funcs[f]? = some fn) :
    false = Tryd.pinned.checked.prog.looks [] ∧ ∀ (j : Nat) t, fn.params[j]? = some t → Tryd.pinned.checked.prog.wantsStandIn t = false := by
  obtain rfl : f = 8 := Option.some.inj ((show Tryd.prog.funcNamed "glebe/glebelaw.FlowSame" = some 8 by kernel_rfl).symm.trans hf) |>.symm
  obtain rfl : fn = Tryd.f8 := (Option.some.inj (Tryd.func8.symm.trans hfn)).symm
  refine ⟨by kernel_rfl, fun j t ht => ?_⟩
  rw [Tryd.params8] at ht
  have hm := Array.mem_of_getElem? ht
  simp only [List.mem_toArray, List.mem_cons, List.not_mem_nil, or_false] at hm
  rcases hm with rfl | rfl
  · exact (show Tryd.prog.wantsStandIn 22 = false by kernel_rfl)
  · exact (show Tryd.prog.wantsStandIn 3 = false by kernel_rfl)

set_option maxRecDepth 100000 in
/-- The card. -/
theorem flowSame_card : Rows.FlowSameCardSaid :=
  Claim7.holds_tied_plain_at .later [] _ _ _ _ flowSame_said (fun _ h => by cases h) (by kernel_rfl) (fun _ h => by cases h) flowSame_row_tie rfl ⟨rfl, rfl⟩ (by kernel_rfl) rfl flowSame_plain (by kernel_rfl)
end Go.Proofs.YtkepbeeioalmbaaDoor

