/-
  The contract of the reference's fiberFine.
  Plain facts on right programs, for states.
  Of right states, plain: what StateTrue asks.
  The contract of the statements' own choose.
  Of readings, what every seat wants.
  From the readings of the arguments, and of the listed variable, to how they lie in memory.
-/
import Derived.Test.YtgdcecibfoganacDoorSR16
import Derived.Deep.RegionHeld3
import Derived.Deep.DeepCutAuto
import Derived.Test.YtgdcecibfoganacDoorSR10
import Derived.Test.YtgdcecibfoganacDoorSR11
import Derived.Test.YtgdcecibfoganacDoorSR14
import Derived.Test.YtgdcecibfoganacDoorChecked
import Derived.Test.YtgdcecibfoganacDoorRows
import Derived.Test.YtgdcecibfoganacDoorSR01
import Derived.ProofKit
import Derived.OpenShut
import Derived.Deep.Slices
import Derived.SizedLaws
import Derived.Deep.Strs
import Derived.Lib.LaidTab

namespace Go.Proofs.YtgdcecibfoganacDoor
open Go.RowKit

/-- What is asked of the frame i. -/
def atB (p : List Fn) (l : List Fr) (i : Nat) : Bool :=
  frameB p (l.getD i Fr.zero) && (!decide (i + 1 < l.length) || (ixB (l.getD (i + 1) Fr.zero).fn p.length && waitB p (l.getD i Fr.zero) 11 (l.getD (i + 1) Fr.zero).fn))
theorem framesB_at (p : List Fn) : ∀ l : List Fr, framesB p l = true ↔ ∀ i, i < l.length → atB p l i = true
  | [] => by simp [framesB]
  | [x] => by
    constructor
    · intro h i hi
      obtain rfl : i = 0 := by simpa using hi
      simpa [atB, framesB] using h
    · intro h
      have := h 0 (by simp)
      simpa [atB, framesB] using this
  | x :: y :: r => by
    have ih := framesB_at p (y :: r)
    have hs : ∀ i, atB p (x :: y :: r) (i + 1) = atB p (y :: r) i := fun i => by
      unfold atB
      simp
    simp only [framesB, Bool.and_eq_true, ih]
    constructor
    · rintro ⟨⟨h1, h2, h3⟩, h4⟩ i hi
      cases i with
      | zero => simp [atB, h1, h2, h3]
      | succ i => rw [hs]; exact h4 i (by simpa using hi)
    · intro h
      have h0 := h 0 (by simp)
      simp [atB] at h0
      exact ⟨⟨h0.1, h0.2⟩, fun i hi => by rw [← hs]; exact h (i + 1) (by simpa using hi)⟩
theorem atB_iff {p : List Fn} {l : List Fr} {i : Nat} : atB p l i = true ↔ frameB p (l.getD i Fr.zero) = true ∧ (i + 1 < l.length → ixB (l.getD (i + 1) Fr.zero).fn p.length = true ∧ waitB p (l.getD i Fr.zero) 11 (l.getD (i + 1) Fr.zero).fn = true) := by
  unfold atB
  simp only [Bool.and_eq_true, Bool.or_eq_true, Bool.not_eq_true', decide_eq_false_iff_not]
  constructor
  · rintro ⟨h1, h2⟩
    exact ⟨h1, fun h => h2.resolve_left (fun h' => h' h)⟩
  · rintro ⟨h1, h2⟩
    exact ⟨h1, Decidable.or_iff_not_imp_left.2 fun h => h2 (Decidable.not_not.1 h)⟩

/-- Bounds of heights. -/
def HBound (p : List Fn) : Prop := ∀ k a, k < p.length → -1000 ≤ (hgt p k).getD a 0 ∧ (hgt p k).getD a 0 ≤ 1000

set_option maxHeartbeats 2000000 in
set_option maxRecDepth 100000 in
theorem fiberFine_none (vp : Value) (of : Option Addr) (cf : Nat) (ca : Int) (on runs : Bool) (w : World) :
    Calls Tryd.prog 29 #[vp, .agg #[.slice of 0 cf, .int .i64 ca], .bool on, .bool runs] w fun e w' => e = .returned (.bool (!on && decide (ca = -1))) ∧ Kept w w' := by
  generalize hr : (!on && decide (ca = -1)) = r
  have HR := hide hr
  clear hr
  cases on with
  | true =>
    go_enter Tryd.func29, Tryd.ntmps29
    go_wp2
    go_ret
    have hr := unhide HR
    exact ⟨by rw [← hr]; rfl, (Kept.refl w).alloc _⟩
  | false =>
    by_cases hc : ca = -1
    · subst hc
      go_enter Tryd.func29, Tryd.ntmps29
      go_wp2
      go_ret
      have hr := unhide HR
      exact ⟨by rw [← hr]; rfl, (Kept.refl w).alloc _⟩
    · have hcb : (ca == -1) = false := by rw [beq_eq_false_iff_ne]; exact hc
      have HC := hide hc
      clear hc
      go_enter Tryd.func29, Tryd.ntmps29
      go_wp2
      go_ret
      have hr := unhide HR
      rw [decide_eq_false (unhide HC)] at hr
      exact ⟨by rw [← hr]; rfl, (Kept.refl w).alloc _⟩
end Go.Proofs.YtgdcecibfoganacDoor

namespace Go.Proofs.YtgdcecibfoganacDoor
open Go.RowKit

theorem right_code {p : List Fn} (h : progS p = 0) {k : Nat} (hk : k < p.length) : Right p (codeOf p k) := by
  obtain ⟨_, _, hck⟩ := progS_right h
  obtain ⟨_, _, hops⟩ := chkS_ops (hck k hk)
  exact ⟨p.getD k Fn.zero, rfl, fun x hx => opsS_all hops x hx⟩
theorem cons_code {p : List Fn} (h : progS p = 0) {k : Nat} (hk : k < p.length) : Cons p (codeOf p k) (hgt p k) ∧ Sound p (codeOf p k) (hgt p k) :=
  heightsS_ok (right_code h hk) (progS_heights h hk)
theorem hlen_of {p : List Fn} (h : progS p = 0) : HLen p := fun _ hk => (cons_code h hk).1.len
theorem hgt_le {p : List Fn} (h : progS p = 0) {k : Nat} (hk : k < p.length) (a : Nat) : -1 ≤ (hgt p k).getD a 0 ∧ (hgt p k).getD a 0 ≤ 8 := by
  by_cases ha : a < (hgt p k).length
  · obtain ⟨hc, hs⟩ := cons_code h hk
    rcases hs a (by rw [← hc.len]; exact ha) with e | ⟨h0, hr⟩
    · omega
    · have := hr (fun _ z => z ≤ 8) (by omega) (fun k' z x m j _ hx hm _ => (beh_nonneg (right_code h hk) (List.mem_of_getElem? hx) hm).2)
      exact ⟨by omega, this⟩
  · simp [List.getD, List.getElem?_eq_none (by omega : (hgt p k).length ≤ a)]
theorem hbound_of {p : List Fn} (h : progS p = 0) : HBound p := fun k a hk => by
  have := hgt_le h hk a
  omega
theorem bare_of {p : List Fn} (h : progS p = 0) : Bare p := by
  intro k i x hx hk
  by_cases hkl : k < p.length
  · obtain ⟨_, _, hck⟩ := progS_right h
    obtain ⟨_, _, hops⟩ := chkS_ops (hck k hkl)
    obtain ⟨_, _, hm⟩ := opS_kind (opsS_all hops x (List.mem_of_getElem? hx))
    have ho : opd x.1.toNat = 0 := by rcases hk with e | e <;> rw [e] <;> rfl
    rw [ho] at hm
    simpa [mayB] using hm
  · have : codeOf p k = [] := by
      unfold codeOf
      simp [List.getD, List.getElem?_eq_none (by omega : p.length ≤ k), Fn.zero]
    rw [this] at hx
    simp at hx
end Go.Proofs.YtgdcecibfoganacDoor

namespace Go.Proofs.YtgdcecibfoganacDoor
open Go.RowKit

theorem right_parts {p : List Fn} {s : St} (h : stErrS p s = 0) : progS p = 0 ∧ limS s = 0 ∧ formR p s = true := by
  unfold stErrS at h
  split at h
  · rename_i h1
    split at h
    · rename_i h2
      split at h
      · rename_i h3; exact ⟨h1, h2, h3⟩
      · cases h
    · rename_i h2; exact absurd h h2
  · rename_i h1; exact absurd h h1
theorem right_fiber {p : List Fn} {s : St} (h : stErrS p s = 0) : ∃ l, lineS s = some l ∧ ∀ k, k < s.fibers.length → fiberB p (fibAt s k) (decide ((k : Int) ∈ l)) (decide ((k : Int) = s.now)) = true := by
  obtain ⟨_, _, h3⟩ := right_parts h
  unfold formR at h3
  cases hl : lineS s with
  | none => rw [hl] at h3; cases h3
  | some l =>
    rw [hl] at h3
    simp only [Bool.and_eq_true] at h3
    refine ⟨l, rfl, fun k hk => ?_⟩
    have := all_range.1 h3.2 k hk
    simp only [Bool.and_eq_true] at this
    exact this.1
theorem jwaits_at {p : List Fn} : ∀ (l : List Fr) (j : Nat), jwaitsB p l = true → j + 1 < l.length → ((l.getD j Fr.zero).stack.length : Int) = hAt p (l.getD j Fr.zero) - 1
  | [], j, _, hj => by simp at hj
  | [x], j, _, hj => by simp at hj
  | x :: y :: r, 0, h, _ => by
    simp only [jwaitsB, Bool.and_eq_true] at h
    obtain ⟨h1, _⟩ := h
    unfold jwaitB at h1
    simp only [Bool.and_eq_true, decide_eq_true_eq] at h1
    exact h1.1.2
  | x :: y :: r, j + 1, h, hj => by
    simp only [jwaitsB, Bool.and_eq_true] at h
    exact jwaits_at (y :: r) j h.2 (by simpa using hj)
theorem frame_parts {p : List Fn} {x : Fr} (h : frameB p x = true) : (0 ≤ x.fn ∧ x.fn < p.length) ∧ (x.locals.length : Int) = (p.getD x.fn.toNat Fn.zero).locals ∧ (0 ≤ x.at_ ∧ x.at_ < (codeOf p x.fn.toNat).length) ∧ 0 ≤ hAt p x := by
  unfold frameB at h
  simp only [Bool.and_eq_true, decide_eq_true_eq] at h
  obtain ⟨h1, h2, h3, h4⟩ := h
  exact ⟨ixB_iff.1 h1, h2, ixB_iff.1 h3, h4⟩
/-- Each frame of a right state. -/
theorem right_frame {p : List Fn} {s : St} (h : stErrS p s = 0) {k j : Nat} (hk : k < s.fibers.length) (hj : j < (fibAt s k).frames.length) :
    frameB p (frAt s k j) = true ∧ (frAt s k j).stack.length ≤ 8 := by
  obtain ⟨hp, _, _⟩ := right_parts h
  obtain ⟨l, _, hf⟩ := right_fiber h
  have hfk := hf k hk
  unfold fiberB at hfk
  cases hlast : (fibAt s k).frames.getLast? with
  | none =>
    have := List.getLast?_eq_none_iff.1 hlast
    rw [this] at hj
    simp at hj
  | some t =>
    rw [hlast] at hfk
    simp only [Bool.and_eq_true] at hfk
    obtain ⟨hfr, hcond⟩ := hfk
    obtain ⟨hall, hjw⟩ := (framesB_iff p _).1 hfr
    have hfj : frameB p (frAt s k j) = true := all_getD hall hj
    refine ⟨hfj, ?_⟩
    obtain ⟨⟨q1, q2⟩, _, _, q3⟩ := frame_parts hfj
    have hle := (hgt_le hp (k := (frAt s k j).fn.toNat) (by omega) (frAt s k j).at_.toNat).2
    have hle' : hAt p (frAt s k j) ≤ 8 := hle
    by_cases hjl : j + 1 < (fibAt s k).frames.length
    · have := jwaits_at _ j hjw hjl
      have h2 : ((frAt s k j).stack.length : Int) = hAt p (frAt s k j) - 1 := this
      omega
    · have ht : t = frAt s k j := by
        rw [List.getLast?_eq_getElem?] at hlast
        have hj2 : j = (fibAt s k).frames.length - 1 := by omega
        unfold frAt
        rw [hj2]
        simp [List.getD, hlast]
      subst ht
      split at hcond
      · have := of_decide_eq_true hcond; omega
      · split at hcond
        · unfold waitB at hcond
          simp only [Bool.and_eq_true, decide_eq_true_eq] at hcond
          have := hcond.1.2
          omega
        · simp only [Bool.and_eq_true, Bool.or_eq_true] at hcond
          rcases hcond.2 with h1 | h1
          · unfold freshB at h1
            split at h1
            · rename_i x hx
              simp only [Bool.and_eq_true, decide_eq_true_eq] at h1
              have : frAt s k j = x := by unfold frAt; rw [hx] at hj ⊢; simp at hj; rw [hj]; rfl
              rw [this, h1.1.2.2]
              omega
            · cases h1
          · unfold waitB at h1
            simp only [Bool.and_eq_true, decide_eq_true_eq] at h1
            have := h1.1.2
            omega
/-- The frame that runs has what its op takes. -/
theorem right_top {p : List Fn} {s : St} (h : stErrS p s = 0) {k : Nat} (hk : k < s.fibers.length) (hn : (k : Int) = s.now) :
    0 < (fibAt s k).frames.length ∧ ∃ kd a, (codeOf p (frAt s k ((fibAt s k).frames.length - 1)).fn.toNat).getD (frAt s k ((fibAt s k).frames.length - 1)).at_.toNat (0, 0) = (kd, a) ∧ (effS p kd a).2.2 = 0 ∧ (effS p kd a).1 ≤ (frAt s k ((fibAt s k).frames.length - 1)).stack.length := by
  obtain ⟨hp, _, _⟩ := right_parts h
  obtain ⟨l, hl, hf⟩ := right_fiber h
  have hfk := hf k hk
  have hon : (k : Int) ∈ l := by
    unfold lineS at hl
    cases hlf : lineF s.fibers (s.fibers.length + 1) s.now [] with
    | none => rw [hlf] at hl; cases hl
    | some l' =>
      rw [hlf] at hl
      simp only at hl
      split at hl
      · obtain rfl := Option.some.inj hl
        rw [hn]
        exact (line_mem _ _ _ _ _ hlf).2.1 (by omega)
      · cases hl
  unfold fiberB at hfk
  cases hlast : (fibAt s k).frames.getLast? with
  | none => rw [hlast] at hfk; simp [hon] at hfk
  | some t =>
    rw [hlast] at hfk
    simp only [Bool.and_eq_true] at hfk
    obtain ⟨_, hcond⟩ := hfk
    have hpos : 0 < (fibAt s k).frames.length := by
      cases hfr : (fibAt s k).frames with
      | nil => rw [hfr] at hlast; cases hlast
      | cons => simp
    have ht : t = frAt s k ((fibAt s k).frames.length - 1) := by
      rw [List.getLast?_eq_getElem?] at hlast
      unfold frAt
      simp [List.getD, hlast]
    rw [ht] at hcond
    rw [if_pos (decide_eq_true hn)] at hcond
    have hst := of_decide_eq_true hcond
    obtain ⟨hfj, _⟩ := right_frame h hk (j := (fibAt s k).frames.length - 1) (by omega)
    obtain ⟨⟨q1, q2⟩, _, ⟨q4, q5⟩, q3⟩ := frame_parts hfj
    generalize frAt s k ((fibAt s k).frames.length - 1) = x at *
    obtain ⟨y, m, hy, hbeh, _⟩ := (cons_code hp (k := x.fn.toNat) (by omega)).1.done x.at_.toNat (by omega) (by
      have : (hgt p x.fn.toNat).getD x.at_.toNat 0 = hAt p x := rfl
      rw [this]; omega)
    have hg : (codeOf p x.fn.toNat).getD x.at_.toNat (0, 0) = y := by simp [List.getD, hy]
    refine ⟨hpos, y.1, y.2, by rw [hg], ?_⟩
    unfold beh at hbeh
    split at hbeh
    · rename_i hh
      have : (hgt p x.fn.toNat).getD x.at_.toNat 0 = hAt p x := rfl
      rw [this] at hh
      exact ⟨hh.1, by rw [hst]; exact hh.2.1⟩
    · cases hbeh
end Go.Proofs.YtgdcecibfoganacDoor

namespace Go.Proofs.YtgdcecibfoganacDoor
open Go.RowKit

/-- Which of n things a raw number speaks of. -/
def chooseS (c : Int) (n : Nat) : Nat := ((if c < 0 then -(c + 1) else c) % n).toNat
theorem chooseS_lt (c : Int) {n : Nat} (h : 0 < n) : chooseS c n < n := by
  unfold chooseS
  have h1 := Int.emod_lt_of_pos (if c < 0 then -(c + 1) else c) (show (0 : Int) < n by omega)
  have h2 := Int.emod_nonneg (if c < 0 then -(c + 1) else c) (show (n : Int) ≠ 0 by omega)
  omega
theorem chooseS_eq (c : Int) {n : Nat} (h : 0 < n) : ((chooseS c n : Nat) : Int) = (if c < 0 then -(c + 1) else c) % n := by
  unfold chooseS
  have h2 := Int.emod_nonneg (if c < 0 then -(c + 1) else c) (show (n : Int) ≠ 0 by omega)
  omega

theorem ret_int {k : IntKind} {a b : Int} (h : a = b) : Ending.returned (.int k a) = .returned (.int k b) := by rw [h]

set_option maxHeartbeats 400000 in
theorem choose_any (c : Int) (n : Nat) (w : World) (hw : (Lit.int .i64 c).wf = true) (hn : 0 < n) (hm : n ≤ 8796093022208) :
    Calls Tryd.prog 8 #[.int .i64 c, .int .i64 n] w fun e w' => e = .returned (.int .i64 (chooseS c n)) ∧ w = w' := by
  have hb : -9223372036854775808 ≤ c ∧ c ≤ 9223372036854775807 := by
    simp only [Lit.wf, Bool.and_eq_true, decide_eq_true_eq] at hw
    exact hw
  rw [chooseS_eq c hn]
  have hz : ((n : Int) == 0) = false := beq_eq_false_iff_ne.2 (by omega)
  obtain ⟨hb1, hb2⟩ := hb
  by_cases h : c < 0
  · rw [if_pos h]
    go_enter Tryd.func8, Tryd.ntmps8
    go_wp2
    go_ret
    exact ⟨ret_int (by rw [← Int.neg_tmod]; exact Int.tmod_eq_emod_of_nonneg (by omega)), rfl⟩
  · rw [if_neg h]
    go_enter Tryd.func8, Tryd.ntmps8
    go_wp2
    go_ret
    exact ⟨ret_int (by rfl), rfl⟩
end Go.Proofs.YtgdcecibfoganacDoor

namespace Go.Proofs.YtgdcecibfoganacDoor
open Go.RowKit Go.ChangeShapes Go.WideShapes Go.ChangeAt

theorem own : ownKnob Tryd.prog.godebug = none := by kernel_rfl
theorem laidOut : laidOutB Tryd.prog = true := by kernel_rfl
theorem cellsInt : Tryd.prog.cellsOf 3 = 1 := by kernel_rfl
theorem reach_eq : reachBytes = 140737488351232 := rfl

section
variable {H : Type} {enc : TypeId × Value → H} {w : World} {base : Nat} {spare : Nat → Bool} {held : Bool}
/-- Where a cell is, there is no spot. -/
theorem spot_none {a : Addr} {v : Value} (h : w.cell? a = some v) : a.spot = none := by
  unfold World.cell? at h
  split at h
  · split at h
    · cases h
    · rename_i hs; simpa using hs
  · cases h
theorem add_of_spot {a : Addr} (h : a.spot = none) (n : Nat) : a.add n = ⟨a.block, a.off + n, none⟩ := by
  unfold Addr.add
  split
  · rename_i e; subst e; cases a; simp_all
  · rfl

theorem weightsAll_mem {P : Program} {e : TypeId} : ∀ {l : List (DataW H)} {d : DataW H}, d ∈ l → ∀ n ∈ d.weights P e, n ∈ DataW.weightsAll P e l
  | d' :: r, d, hd, n, hn => by
    simp only [DataW.weightsAll, List.mem_append]
    rcases List.mem_cons.1 hd with rfl | h
    · exact Or.inl hn
    · exact Or.inr (weightsAll_mem h n hn)

end

/-- Each argument reads behind the call as it read before. -/
theorem trodAll_below {H : Type} {enc : TypeId × Value → H} {W W' : World} (hb : Kept W W') : ∀ {ts : List TypeId} {vs : List Value} {ds : List (DataW H)} {ps : List MemPlace}, (∀ t, t ∈ ts → Tryd.prog.readableRec t = true ∧ t < Tryd.prog.types.size) →
    DataW.TrodAll enc Tryd.prog W 0 (fun _ => true) true ts vs ds ps → (∀ x, x ∈ ps → x.block < W.heap.size) → DataW.TrodAll enc Tryd.prog W' 0 (fun b => decide (b < W.heap.size)) true ts vs ds ps
  | [], vs, ds, ps, _, h, _ => by
    obtain ⟨rfl, rfl, rfl⟩ := trodAll_nil h
    exact trodAll_mk0
  | t :: ts, vs, ds, ps, hr, h, hl => by
    obtain ⟨v, vs', d, ds', p, q, rfl, rfl, rfl, h0, h1⟩ := trodAll_cons h
    obtain ⟨r1, r2⟩ := hr t (by simp)
    exact trodAll_cons_mk (Below.trod laidOut r1 r2 h0 hb (fun x hx => hl x (by simp [hx]))) (trodAll_below hb (fun t ht => hr t (by simp [ht])) h1 (fun x hx => hl x (by simp [hx])))

end Go.Proofs.YtgdcecibfoganacDoor

namespace Go.Proofs.YtgdcecibfoganacDoor
open Go.RowKit Go.ChangeShapes Go.WideShapes Go.ChangeAt

theorem cellsOp : Tryd.prog.cellsOf 42 = 2 := by kernel_rfl
theorem cellsOps : Tryd.prog.cellsOf 36 = 1 := by kernel_rfl
theorem cellsFunc : Tryd.prog.cellsOf 38 = 3 := by kernel_rfl
theorem cellsKind : Tryd.prog.cellsOf 61 = 3 := by kernel_rfl
theorem bytesOp : Tryd.prog.bytesOf 42 = 16 := by kernel_rfl
theorem bytesFunc : Tryd.prog.bytesOf 38 = 40 := by kernel_rfl
theorem typeOp : ∃ f0 f1 : Field, Tryd.prog.underlying 42 = some (.struct #[f0, f1]) ∧ f0.type = 3 ∧ f0.offset = 0 ∧ f1.type = 3 ∧ f1.offset = 1 := ⟨_, _, Tryd.underlying42, rfl, rfl, rfl, rfl⟩
theorem typeFunc : ∃ f0 f1 f2 : Field, Tryd.prog.underlying 38 = some (.struct #[f0, f1, f2]) ∧ f0.type = 3 ∧ f0.offset = 0 ∧ f1.type = 3 ∧ f1.offset = 1 ∧ f2.type = 36 ∧ f2.offset = 2 := ⟨_, _, _, Tryd.underlying38, rfl, rfl, rfl, rfl, rfl, rfl⟩
theorem typeKind : ∃ f0 f1 f2 : Field, Tryd.prog.underlying 61 = some (.struct #[f0, f1, f2]) ∧ f0.type = 3 ∧ f0.offset = 0 ∧ f1.type = 3 ∧ f1.offset = 1 ∧ f2.type = 3 ∧ f2.offset = 2 := ⟨_, _, _, Tryd.underlying61, rfl, rfl, rfl, rfl, rfl, rfl⟩

section
variable {H : Type} {enc : TypeId × Value → H} {w : World} {base : Nat} {spare : Nat → Bool} {held : Bool}

/-- An op reads as two integers. -/
theorem trod_op {fuel : Nat} {cs : List Value} {x : DataW H × List MemPlace} (h : DataW.trod enc Tryd.prog w base spare held fuel 42 cs = some x) :
    ∃ k a : Int, cs = [.int .i64 k, .int .i64 a] ∧ x = (.agg [.lit (.int .i64 k), .lit (.int .i64 a)], []) ∧ (Lit.int .i64 k).wf = true ∧ (Lit.int .i64 a).wf = true := by
  obtain ⟨f0, f1, hu, t0, o0, t1, o1⟩ := typeOp
  obtain ⟨y0, y1, n, hx, hl, h0, h1⟩ := trod_struct2 hu h
  rw [t0, o0, cellsInt] at h0
  rw [t1, o1, cellsInt] at h1
  obtain ⟨k, e0, r0, w0⟩ := DataW.trod_int Tryd.underlying3 h0
  obtain ⟨a, e1, r1, w1⟩ := DataW.trod_int Tryd.underlying3 h1
  rw [cellsOp] at hl
  match cs, hl with
  | [c0, c1], _ =>
    simp at e0 e1
    subst e0 e1
    subst r0 r1
    exact ⟨k, a, rfl, by simpa using hx, w0, w1⟩

/-- A slice of ops. -/
theorem open_code {fuel : Nat} {v : Value} {x : DataW H × List MemPlace} (h : DataW.trod enc Tryd.prog w base spare held fuel 36 [v] = some x) (hw : ∀ n, n ∈ x.1.weights Tryd.prog 36 → n ≤ reachBytes) : ∃ c, CodeAt w v c := by
  rcases Deep.open_slice Tryd.underlying36 h with ⟨e, _⟩ | ⟨a, len, cap, m, n, D, Pl, e, _, hlc, _, hm, hx, hi⟩
  · simp at e
    subst e
    exact ⟨[], none, 0, rfl, by simp, fun i x h => by simp at h⟩
  · simp at e
    subst e
    have hlm : len ≤ m := by rw [hm]; split <;> omega
    have hlen : len * 16 ≤ 140737488351232 := by
      have := hw ((((List.range len).map D).length + ((List.range (m - len)).map fun j => D (len + j)).length) * Tryd.prog.bytesOf 42) (by rw [hx]; simp [DataW.weights, Tryd.underlying36])
      rw [bytesOp, reach_eq] at this
      simp at this
      omega
    have hall : ∀ i, i < len → ∃ y : Int × Int, w.cell? (a.add (i * 2)) = some (.int .i64 y.1) ∧ w.cell? (a.add (i * 2 + 1)) = some (.int .i64 y.2) := by
      intro i hil
      obtain ⟨cs', hc, ht⟩ := hi i (by omega)
      rw [cellsOp] at hc
      obtain ⟨_, _, hcell⟩ := World.cells?_some hc
      obtain ⟨k, av, rfl, _⟩ := trod_op ht
      refine ⟨(k, av), ?_, ?_⟩
      · have := hcell 0 (by omega); rw [Deep.add_add] at this; simpa using this
      · have := hcell 1 (by omega); rw [Deep.add_add] at this; simpa using this
    obtain ⟨g, hg⟩ := Deep.choose_lt hall
    refine ⟨(List.range len).map g, some a, cap, by simp, by simp; omega, fun i y hy => ?_⟩
    rw [List.getElem?_map, Option.map_eq_some_iff] at hy
    obtain ⟨j, hj, rfl⟩ := hy
    have hjl : i < len := by simpa using (List.getElem?_eq_some_iff.1 hj).1
    obtain rfl : i = j := by simpa [hjl] using hj
    have hs : a.spot = none := by
      have := (hg 0 (by omega)).1
      simp only [Nat.zero_mul] at this
      exact spot_none (by simpa [Addr.add] using this)
    refine ⟨a.block, a.off, by cases a; simp_all, ?_, ?_⟩
    · have := (hg i hjl).1; rwa [add_of_spot hs] at this
    · have := (hg i hjl).2; rwa [add_of_spot hs, ← Nat.add_assoc] at this

/-- A slice of functions. -/
theorem open_prog {fuel : Nat} {v : Value} {x : DataW H × List MemPlace} (h : DataW.trod enc Tryd.prog w base spare held fuel 22 [v] = some x) (hw : ∀ n, n ∈ x.1.weights Tryd.prog 22 → n ≤ reachBytes) : ∃ p, ProgAt w v p := by
  rcases Deep.open_slice Tryd.underlying22 h with ⟨e, _⟩ | ⟨a, len, cap, m, n, D, Pl, e, _, hlc, _, hm, hx, hi⟩
  · simp at e
    subst e
    exact ⟨[], none, 0, rfl, by simp, fun i x h => by simp at h⟩
  · simp at e
    subst e
    have hlm : len ≤ m := by rw [hm]; split <;> omega
    have hlen : len * 40 ≤ 140737488351232 := by
      have := hw ((((List.range len).map D).length + ((List.range (m - len)).map fun j => D (len + j)).length) * Tryd.prog.bytesOf 38) (by rw [hx]; simp [DataW.weights, Tryd.underlying22])
      rw [bytesFunc, reach_eq] at this
      simp at this
      omega
    have hall : ∀ i, i < len → ∃ y : Fn × Value, w.cell? (a.add (i * 3)) = some (.int .i64 y.1.args) ∧ w.cell? (a.add (i * 3 + 1)) = some (.int .i64 y.1.locals) ∧ w.cell? (a.add (i * 3 + 2)) = some y.2 ∧ CodeAt w y.2 y.1.code := by
      intro i hil
      obtain ⟨cs', hc, ht⟩ := hi i (by omega)
      rw [cellsFunc] at hc
      obtain ⟨_, hcl, hcell⟩ := World.cells?_some hc
      obtain ⟨f0, f1, f2, hu, t0, o0, t1, o1, t2, o2⟩ := typeFunc
      obtain ⟨y0, y1, y2, n', hy, _, g0, g1, g2⟩ := Deep.trod_struct3 hu ht
      rw [t0, o0, cellsInt] at g0
      rw [t1, o1, cellsInt] at g1
      rw [t2, o2, cellsOps] at g2
      obtain ⟨ar, e0, r0, _⟩ := DataW.trod_int Tryd.underlying3 g0
      obtain ⟨lo, e1, r1, _⟩ := DataW.trod_int Tryd.underlying3 g1
      match cs', hcl with
      | [c0, c1, c2], _ =>
        simp at e0 e1
        subst e0 e1
        simp only [List.drop, List.take] at g2
        have hD : D i = .agg [y0.1, y1.1, y2.1] := congrArg Prod.fst hy
        obtain ⟨c, hcode⟩ := open_code g2 (fun q hq => hw q (by
          rw [hx]
          simp only [DataW.weights, Tryd.underlying22, List.mem_cons, List.mem_append]
          refine Or.inr (Or.inl (weightsAll_mem (d := D i) (List.mem_map.2 ⟨i, by simpa using hil, rfl⟩) q ?_))
          rw [hD]
          simp only [DataW.weights, hu, DataW.weightsEach, List.map_cons, List.map_nil, t0, t1, t2, List.mem_append]
          exact Or.inr (Or.inr (Or.inl hq))))
        refine ⟨(⟨ar, lo, c⟩, c2), ?_, ?_, ?_, hcode⟩
        · have := hcell 0 (by omega); rw [Deep.add_add] at this; simpa using this
        · have := hcell 1 (by omega); rw [Deep.add_add] at this; simpa using this
        · have := hcell 2 (by omega); rw [Deep.add_add] at this; simpa using this
    have : Inhabited (Fn × Value) := ⟨(Fn.zero, .nilIface)⟩
    obtain ⟨g, hg⟩ := Deep.choose_lt hall
    refine ⟨(List.range len).map fun i => (g i).1, some a, cap, by simp, by simp; omega, fun i y hy => ?_⟩
    rw [List.getElem?_map, Option.map_eq_some_iff] at hy
    obtain ⟨j, hj, rfl⟩ := hy
    have hjl : i < len := by simpa using (List.getElem?_eq_some_iff.1 hj).1
    obtain rfl : i = j := by simpa [hjl] using hj
    have hs : a.spot = none := by
      have := (hg 0 (by omega)).1
      simp only [Nat.zero_mul] at this
      exact spot_none (by simpa [Addr.add] using this)
    obtain ⟨k0, k1, k2, k3⟩ := hg i hjl
    refine ⟨a.block, a.off, (g i).2, by cases a; simp_all, ?_, ?_, ?_, k3⟩
    · rwa [add_of_spot hs] at k0
    · rwa [add_of_spot hs, ← Nat.add_assoc] at k1
    · rwa [add_of_spot hs, ← Nat.add_assoc] at k2

end

theorem gKinds : Tryd.prog.globalNamed "glebe/op.kinds" = some 0 := by kernel_rfl
theorem gKindsType : (Tryd.prog.globals[0]?).map (·.type) = some 62 := by kernel_rfl
theorem laid_at {H : Type} (i : Nat) (h : i < 17) : ([.agg [.lit (.int .i64 0), .lit (.int .i64 1), .lit (.int .i64 1)], .agg [.lit (.int .i64 1), .lit (.int .i64 0), .lit (.int .i64 0)], .agg [.lit (.int .i64 0), .lit (.int .i64 1), .lit (.int .i64 2)], .agg [.lit (.int .i64 1), .lit (.int .i64 0), .lit (.int .i64 2)], .agg [.lit (.int .i64 2), .lit (.int .i64 1), .lit (.int .i64 0)], .agg [.lit (.int .i64 2), .lit (.int .i64 1), .lit (.int .i64 0)], .agg [.lit (.int .i64 2), .lit (.int .i64 1), .lit (.int .i64 0)], .agg [.lit (.int .i64 2), .lit (.int .i64 1), .lit (.int .i64 0)], .agg [.lit (.int .i64 2), .lit (.int .i64 1), .lit (.int .i64 0)], .agg [.lit (.int .i64 0), .lit (.int .i64 0), .lit (.int .i64 3)], .agg [.lit (.int .i64 1), .lit (.int .i64 0), .lit (.int .i64 3)], .agg [.lit (.int .i64 0), .lit (.int .i64 1), .lit (.int .i64 4)], .agg [.lit (.int .i64 1), .lit (.int .i64 0), .lit (.int .i64 0)], .agg [.lit (.int .i64 0), .lit (.int .i64 1), .lit (.int .i64 4)], .agg [.lit (.int .i64 2), .lit (.int .i64 1), .lit (.int .i64 0)], .agg [.lit (.int .i64 1), .lit (.int .i64 1), .lit (.int .i64 0)], .agg [.lit (.int .i64 1), .lit (.int .i64 0), .lit (.int .i64 0)]] : List (DataW H))[i]? = some (.agg [.lit (.int .i64 (tk i)), .lit (.int .i64 (lv i)), .lit (.int .i64 (opd i))]) := by
  have : i = 0 ∨ i = 1 ∨ i = 2 ∨ i = 3 ∨ i = 4 ∨ i = 5 ∨ i = 6 ∨ i = 7 ∨ i = 8 ∨ i = 9 ∨ i = 10 ∨ i = 11 ∨ i = 12 ∨ i = 13 ∨ i = 14 ∨ i = 15 ∨ i = 16 := by omega
  rcases this with rfl | rfl | rfl | rfl | rfl | rfl | rfl | rfl | rfl | rfl | rfl | rfl | rfl | rfl | rfl | rfl | rfl <;> rfl

/-- What the row's list gives: the table's cells hold its numbers. -/
theorem kinds_of_laid {W : World} (h : laidMetH Tryd.prog [("glebe/op.kinds", Rows.laid_glebe_op_kinds)] W) : KindsAt W := by
  obtain ⟨ps, ⟨g', t', cs, fuel, p, q, hg', ht', hvar, hd, _, _⟩, _⟩ := (h : laidMet Tryd.prog [("glebe/op.kinds", Rows.laid_glebe_op_kinds)] W)
  obtain rfl := Option.some.inj (gKinds.symm.trans hg')
  obtain rfl := Option.some.inj (gKindsType.symm.trans ht')
  obtain ⟨xs, m, _, hx, _, hxl, hi⟩ := DataW.trod_array Tryd.underlying62 hd
  have hagg : (Rows.laid_glebe_op_kinds : DataW Unit) = .agg (xs.map (·.1)) := congrArg Prod.fst hx
  have hl : ∀ i, i < 17 → (xs[i]?).map (·.1) = some (.agg [.lit (.int .i64 (tk i)), .lit (.int .i64 (lv i)), .lit (.int .i64 (opd i))]) := by
    intro i hi17
    rw [← List.getElem?_map, ← laid_at i hi17]
    unfold Rows.laid_glebe_op_kinds at hagg
    rw [← DataW.agg.inj hagg]
  have hc : ∀ i, i < 17 → cs[i * 3]? = some (.int .i64 (tk i)) ∧ cs[i * 3 + 1]? = some (.int .i64 (lv i)) ∧ cs[i * 3 + 2]? = some (.int .i64 (opd i)) := by
    intro i hi17
    have h1 := hi i hi17
    obtain ⟨x, hxi, hx1⟩ := Option.map_eq_some_iff.1 (hl i hi17)
    rw [hxi, cellsKind] at h1
    obtain ⟨f0, f1, f2, hu, t0, o0, t1, o1, t2, o2⟩ := typeKind
    obtain ⟨y0, y1, y2, n', hy, _, g0, g1, g2⟩ := Deep.trod_struct3 hu h1
    rw [t0, o0, cellsInt] at g0
    rw [t1, o1, cellsInt] at g1
    rw [t2, o2, cellsInt] at g2
    obtain ⟨z0, e0, r0, _⟩ := DataW.trod_int Tryd.underlying3 g0
    obtain ⟨z1, e1, r1, _⟩ := DataW.trod_int Tryd.underlying3 g1
    obtain ⟨z2, e2, r2, _⟩ := DataW.trod_int Tryd.underlying3 g2
    rw [hy, r0, r1, r2] at hx1
    simp at hx1
    obtain ⟨rfl, rfl, rfl⟩ := hx1
    refine ⟨?_, ?_, ?_⟩
    · have := congrArg (·[0]?) e0
      simpa [List.getElem?_take, List.getElem?_drop] using this
    · have := congrArg (·[0]?) e1
      simpa [List.getElem?_take, List.getElem?_drop, Nat.add_comm, Nat.add_left_comm] using this
    · have := congrArg (·[0]?) e2
      simpa [List.getElem?_take, List.getElem?_drop, Nat.add_comm, Nat.add_left_comm] using this
  intro k hk
  rw [World.var?_cell gKinds hvar k]
  obtain ⟨h0, h1, h2⟩ := hc (k / 3) (by omega)
  have : k = k / 3 * 3 ∨ k = k / 3 * 3 + 1 ∨ k = k / 3 * 3 + 2 := by omega
  rcases this with e | e | e
  · rw [e, h0]; unfold tk; rw [← e]
  · rw [e, h1]; unfold lv; rw [← e]
  · rw [e, h2]; unfold opd; rw [← e]
end Go.Proofs.YtgdcecibfoganacDoor
