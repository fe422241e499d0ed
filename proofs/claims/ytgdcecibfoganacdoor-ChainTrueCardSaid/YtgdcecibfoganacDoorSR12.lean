/-
  Contracts of package flow's behind and following.
  The iterator that flow.following hands back: it gives the ops that may come next, one behind the other.
  Worlds in which one block, the heights', is written.
  The contract of flow's come, where it does not go on.
-/
import Derived.Test.YtgdcecibfoganacDoorSR11
import Derived.Test.YtgdcecibfoganacDoorSR01
import Derived.Test.YtgdcecibfoganacDoorSR09
import Derived.RangeFuncNested
import Derived.RangeFuncBound
import Derived.RangeFuncCalls
import Derived.RangeFuncLeaves
import Derived.Shelf.Abstract
import Derived.Shelf.RegionOpen
import Derived.WalkKit
import Derived.OwnWalkIn
import Derived.TacticsInMore
import Derived.LoopNIn
import Derived.LoopIn

namespace Go.Proofs.YtgdcecibfoganacDoor
open Go.RowKit

/-- What behind hands back. -/
def BehPost (p : List Fn) (x : Int × Int) (h : Int) (w : World) (e : Ending) (w' : World) : Prop :=
  ∃ r, e = .returned (.tuple #[.int .i64 r, .bool (beh p x h).isSome]) ∧ (∀ m, beh p x h = some m → r = m) ∧ Kept w w'

set_option maxHeartbeats 1000000 in
theorem behind_any (p : List Fn) (g : Fn) (vp : Value) (oc oh : Option Addr) (lc cc lh ch : Nat) (x : Int × Int) (h : Int) (w : World) (hp : ProgAt w vp p) (hk : KindsAt w) (hx : opS p g x = 0) (h0 : 0 ≤ h) (h8 : h ≤ 8) :
    Calls Tryd.prog 67 #[.agg #[vp, .slice oc lc cc, .slice oh lh ch], .agg #[.int .i64 x.1, .int .i64 x.2], .int .i64 h] w fun e w' => BehPost p x h w e w' := by
  obtain ⟨oa, cap, rfl, _, _⟩ := id hp
  have hef : ∃ ta lb, effS p x.1 x.2 = (ta, lb, 0) ∧ 0 ≤ ta ∧ ta ≤ 4 ∧ 0 ≤ lb ∧ lb ≤ 1 := by
    by_cases h11 : x.1 = 11
    · obtain ⟨_, _, h3, h4⟩ := effS_call hx h11
      refine ⟨_, _, h4, h3, ?_, by decide, by decide⟩
      obtain ⟨_, _, hm⟩ := opS_kind hx
      rw [h11] at hm
      have := (mayB4 (show mayB p g 4 x.2 = true from hm)).2.2
      rw [roomB_iff] at this
      omega
    · obtain ⟨ta, lb, h1, h2, h3, h4, h5⟩ := effS_plain hx h11
      exact ⟨ta, lb, h1, h2, by omega, h4, h5⟩
  obtain ⟨ta, lb, he, t0, t4, l0, l1⟩ := hef
  have hb : beh p x h = if ta ≤ h ∧ ¬ (x.1 = 12 ∧ 1 < h) ∧ h - ta + lb ≤ 8 then some (h - ta + lb) else none := by
    unfold beh; rw [he]; simp
  have HB := hide hb
  have HE := hide he
  have HP := hide hp
  have HK := hide hk
  clear he hp hk hb hx
  go_enter Tryd.func67, Tryd.ntmps67
  go_wp2_with fail
  refine (effect_is p _ x.1 x.2 ta lb 0 _ ((unhide HP).kept (((Kept.refl _).alloc _).alloc _)) ((unhide HK).kept (((Kept.refl _).alloc _).alloc _)) (unhide HE)).mono ?_
  rintro e w1 ⟨rfl, hk1⟩
  have q0 := hk1.cell (cell_lays (t := 42) (fr := (0, 0)) (b := w.heap.size + 1) (c := #[.int .i64 x.1, .int .i64 x.2]) (lays_new (by simp)) 0)
  have H1 : Hid (Kept w w1) := (((Kept.refl _).alloc _).alloc _).trans hk1
  clear hk1
  by_cases c1 : h < ta
  · go_wp2
    go_ret2
    have hb := unhide HB
    rw [if_neg (by omega)] at hb
    exact ⟨0, by rw [hb]; rfl, (fun m hm => by rw [hb] at hm; cases hm), H1⟩
  · by_cases c2 : x.1 = 12
    · have c2' : (x.1 == 12) = true := beq_iff_eq.2 c2
      have C2 := hide c2
      clear c2
      by_cases c3 : 1 < h
      · go_wp2
        go_ret2
        have c2 := unhide C2
        have hb := unhide HB
        rw [if_neg (by omega)] at hb
        exact ⟨0, by rw [hb]; rfl, (fun m hm => by rw [hb] at hm; cases hm), H1⟩
      · go_wp2
        go_ret2
        have hb := unhide HB
        refine ⟨h - ta + lb, ?_, fun m hm => ?_, H1⟩
        · by_cases c4 : h - ta + lb ≤ 8
          · rw [hb, if_pos (by omega)]; simp [c4]
          · rw [hb, if_neg (by omega)]; simp [c4]
        · rw [hb] at hm
          split at hm
          · simpa using hm
          · cases hm
    · have c2' : (x.1 == 12) = false := beq_eq_false_iff_ne.2 c2
      have C2 := hide c2
      clear c2
      go_wp2
      go_ret2
      have c2 := unhide C2
      have hb := unhide HB
      refine ⟨h - ta + lb, ?_, fun m hm => ?_, H1⟩
      · by_cases c4 : h - ta + lb ≤ 8
        · rw [hb, if_pos (by omega)]; simp [c4]
        · rw [hb, if_neg (by omega)]; simp [c4]
      · rw [hb] at hm
        split at hm
        · simpa using hm
        · cases hm

set_option maxHeartbeats 400000 in
theorem following_any (kd a at_ : Int) (w : World) :
    Calls Tryd.prog 68 #[.agg #[.int .i64 kd, .int .i64 a], .int .i64 at_] w fun e w' =>
      e = .returned (.func (.func 71) #[] #[.pointer (some ⟨w.heap.size, 0, none⟩), .pointer (some ⟨w.heap.size + 1, 0, none⟩)]) ∧ w' = (w.alloc (.cells #[.int .i64 kd, .int .i64 a] 42)).alloc (.cells #[.int .i64 at_] 3) := by
  go_enter Tryd.func68, Tryd.ntmps68
  go_wp2
  go_ret
  exact ⟨rfl, rfl⟩
end Go.Proofs.YtgdcecibfoganacDoor

namespace Go.Proofs.YtgdcecibfoganacDoor
open Go.RowKit Go.Shelf
attribute [local go_sem] Oper.semAt_some

/-- What a round must keep: the cell in which the place of the op lies. -/
def KpAt (Ba : Nat) (W W' : World) : Prop := W'.cell? ⟨Ba, 0, none⟩ = W.cell? ⟨Ba, 0, none⟩

/-- All have come; a part has come. -/
def SAll (l xs : List Nat) : Prop := xs = l
def SPre (l pre : List Nat) : Prop := ∃ r, pre ++ r = l

set_option maxHeartbeats 1000000 in
theorem following_stops (n Bx Ba : Nat) (kd a : Int) (at_ : Nat) (w0 : World) (hn : 1 ≤ n) (c0 : w0.cell? ⟨Bx, 0, none⟩ = some (.int .i64 kd)) (c1 : w0.cell? ⟨Bx, 1, none⟩ = some (.int .i64 a)) (c2 : w0.cell? ⟨Ba, 0, none⟩ = some (.int .i64 at_))
    (hA : kd = 9 ∨ kd = 10 → 0 ≤ a) (hat : at_ ≤ 8796093022208) :
    SeqStopsK Fence.wide n Tryd.prog 71 #[.pointer (some ⟨Bx, 0, none⟩), .pointer (some ⟨Ba, 0, none⟩)] (fun j : Nat => #[Value.int .i64 j]) (KpAt Ba) (SAll (nexts (kd, a) at_)) (SPre (nexts (kd, a) at_)) 2 w0 := fun l J Jx W hW _ _ hY h0 => by
  have hK : Kept w0 W := hW
  have d0 := hK.cell c0
  have d1 := hK.cell c1
  have d2 := hK.cell c2
  clear hK hW c0 c1 c2
  obtain ⟨L, hL⟩ : ∃ L, nexts (kd, a) at_ = L := ⟨_, rfl⟩
  have HL := hide hL
  rw [hL]
  clear hL
  refine callsIn_of_wp Tryd.func71 rfl trivial ?_ rfl
  simp only [Tryd.ntmps71, List.size_toArray, List.length_cons, List.length_nil, Nat.reduceAdd, Nat.reduceSub, Array.replicate_succ, Array.replicate_zero, List.push_toArray, List.append_toArray, List.nil_append, List.cons_append]
  by_cases h12 : kd = 12
  · subst h12
    gi_wp2
    go_end0
    refine ⟨⟨_, rfl⟩, .inl ⟨[], ?_, h0⟩⟩
    rw [← unhide HL]; rfl
  · have g12 : (kd == 12) = false := beq_eq_false_iff_ne.2 h12
    have N12 := hide h12
    clear h12
    by_cases h9 : kd = 9
    · subst h9
      obtain ⟨j, rfl⟩ := Int.eq_ofNat_of_zero_le (hA (.inl rfl))
      obtain ⟨f1, t1, a1, b1, hy1, hR1⟩ := hY [] j W h0 (by simp)
      dsimp only at hy1
      gi_wp2
      refine hR1.mono ?_
      rintro e W1 (⟨rfl, hJ1, _⟩ | ⟨rfl, hx1⟩)
      · gi_wp2
        go_end0
        refine ⟨⟨_, rfl⟩, .inl ⟨[j], ?_, hJ1⟩⟩
        rw [← unhide HL]; rfl
      · gi_wp2
        go_end0
        refine ⟨⟨_, rfl⟩, .inr ⟨[j], ⟨[], ?_⟩, hx1⟩⟩
        rw [← unhide HL]; rfl
    · have g9 : (kd == 9) = false := beq_eq_false_iff_ne.2 h9
      have N9 := hide h9
      clear h9
      by_cases h10 : kd = 10
      · subst h10
        obtain ⟨j, rfl⟩ := Int.eq_ofNat_of_zero_le (hA (.inr rfl))
        obtain ⟨f1, t1, a1, b1, hy1, hR1⟩ := hY [] j W h0 (by simp)
        dsimp only at hy1
        gi_wp2
        refine hR1.mono ?_
        rintro e W1 (⟨rfl, hJ1, hk1⟩ | ⟨rfl, hx1⟩)
        · have d3 : W1.cell? ⟨Ba, 0, none⟩ = some (.int .i64 at_) := Eq.trans hk1 d2
          obtain ⟨f2, t2, a2, b2, hy2, hR2⟩ := hY [j] (at_ + 1) W1 hJ1 (by simp)
          rw [show ((at_ + 1 : Nat) : Int) = (at_ : Int) + 1 from by omega] at hy2
          clear hk1
          gi_wp2
          refine hR2.mono ?_
          rintro e W2 (⟨rfl, hJ2, _⟩ | ⟨rfl, hx2⟩)
          · gi_wp2
            go_end0
            refine ⟨⟨_, rfl⟩, .inl ⟨[j, at_ + 1], ?_, hJ2⟩⟩
            rw [← unhide HL]; rfl
          · gi_wp2
            go_end0
            refine ⟨⟨_, rfl⟩, .inr ⟨[j, at_ + 1], ⟨[], ?_⟩, hx2⟩⟩
            rw [← unhide HL]; rfl
        · gi_wp2
          go_end0
          refine ⟨⟨_, rfl⟩, .inr ⟨[j], ⟨[at_ + 1], ?_⟩, hx1⟩⟩
          rw [← unhide HL]; rfl
      · have g10 : (kd == 10) = false := beq_eq_false_iff_ne.2 h10
        have hl : nexts (kd, a) at_ = [at_ + 1] := by
          unfold nexts
          rw [if_neg (unhide N12), if_neg (unhide N9), if_neg h10]
        have HM := hide hl
        clear h10 hl
        obtain ⟨f1, t1, a1, b1, hy1, hR1⟩ := hY [] (at_ + 1) W h0 (by simp)
        dsimp only at hy1
        rw [show ((at_ + 1 : Nat) : Int) = (at_ : Int) + 1 from by omega] at hy1
        gi_wp2
        refine hR1.mono ?_
        rintro e W1 (⟨rfl, hJ1, _⟩ | ⟨rfl, hx1⟩)
        · gi_wp2
          go_end0
          refine ⟨⟨_, rfl⟩, .inl ⟨[at_ + 1], ?_, hJ1⟩⟩
          rw [← unhide HL, unhide HM]; rfl
        · gi_wp2
          go_end0
          refine ⟨⟨_, rfl⟩, .inr ⟨[at_ + 1], ⟨[], ?_⟩, hx1⟩⟩
          rw [← unhide HL, unhide HM]; rfl
end Go.Proofs.YtgdcecibfoganacDoor

namespace Go.Proofs.YtgdcecibfoganacDoor
open Go.RowKit

/-- The heights lie in block B. -/
def HeightsAt (w : World) (B : Nat) (H : List Int) : Prop := w.heap[B]? = some (.cells (H.map (fun z => Value.int .i64 z)).toArray 3)
theorem HeightsAt.kept {w w' : World} {B : Nat} {H : List Int} (h : HeightsAt w B H) (k : Kept w w') : HeightsAt w' B H := lays_kept k h
theorem HeightsAt.cell {w : World} {B : Nat} {H : List Int} (h : HeightsAt w B H) {k : Nat} (hk : k < H.length) : w.cell? ⟨B, k, none⟩ = some (.int .i64 (H.getD k 0)) := by
  rw [cell_lays h k]; simp [hk, List.getD]
theorem HeightsAt.frozen {w : World} {B : Nat} {H : List Int} (h : HeightsAt w B H) (k : Nat) : w.frozen? ⟨B, k, none⟩ = false := frozen_lays h k
theorem HeightsAt.set {w : World} {B : Nat} {H : List Int} (h : HeightsAt w B H) (k : Nat) (z : Int) : HeightsAt (w.setCell ⟨B, k, none⟩ (.int .i64 z)) B (H.set k z) := by
  unfold HeightsAt at *
  rw [lays_set h k]
  congr 2
  simp [List.map_set]
theorem HeightsAt.lt {w : World} {B : Nat} {H : List Int} (h : HeightsAt w B H) : B < w.heap.size := (Array.getElem?_eq_some_iff.1 h).1
theorem HeightsAt.other {w : World} {B : Nat} {H : List Int} (h : HeightsAt w B H) {p : Addr} (hp : p.block ≠ B) (u : Value) : HeightsAt (w.setCell p u) B H := lays_other h (fun e => hp e.symm) u

/-- All that come's contract leans on. -/
structure ComeAt (w0 w : World) (p : List Fn) (g : Fn) (vp vc : Value) (B : Nat) (H : List Int) : Prop where
  prog : ProgAt w0 vp p
  code : CodeAt w0 vc g.code
  kinds : KindsAt w0
  right : ∀ x, x ∈ g.code → opS p g x = 0
  most : g.code.length ≤ 24
  kept : Kept w0 w
  new : w0.heap.size ≤ B
  hs : HeightsAt w B H
  len : H.length = g.code.length

/-- What come hands back and leaves. -/
def ComePost (p : List Fn) (g : Fn) (n : Nat) (H : List Int) (at_ : Nat) (h : Int) (B : Nat) (w : World) (e : Ending) (w' : World) : Prop :=
  ∃ b H', comeS p g.code n H at_ h = (b, H') ∧ e = .returned (.bool b) ∧ HeightsAt w' B H' ∧ KeptX B w w'
end Go.Proofs.YtgdcecibfoganacDoor

namespace Go.Proofs.YtgdcecibfoganacDoor
open Go.RowKit Go.Shelf
attribute [local go_sem] Oper.semAt_some

set_option maxHeartbeats 1000000 in
theorem come_beyond (n : Nat) (p : List Fn) (g : Fn) (oa oc : Option Addr) (lp cp lc cc B : Nat) (H : List Int) (at_ : Nat) (h : Int) (w : World) (hH : HeightsAt w B H) (hlc : lc = g.code.length) (hat : ((lc : Int) ≤ at_)) :
    Calls Tryd.prog 50 #[.agg #[.slice oa lp cp, .slice oc lc cc, .slice (some ⟨B, 0, none⟩) lc lc], .int .i64 at_, .int .i64 h] w fun e w' => ComePost p g (n + 1) H at_ h B w e w' := by
  have HL := hide hlc
  have HH := hide hH
  clear hlc hH
  refine (callsIn_wide (n := 9)).1 (callsIn_of_wp_marks Tryd.func50 rfl trivial ?_ rfl)
  refine wpIn_wide.2 ?_
  simp only [Tryd.ntmps50, List.size_toArray, List.length_cons, List.length_nil, Nat.reduceAdd, Nat.reduceSub, Array.replicate_succ, Array.replicate_zero, List.push_toArray, List.append_toArray, List.nil_append, List.cons_append]
  go_wp2
  refine ⟨.bool false, by simp [results, Tryd.results50, go_sem], false, H, ?_, rfl, (unhide HH).kept (((Kept.refl _).alloc _).alloc _), .of (((Kept.refl _).alloc _).alloc _)⟩
  have := unhide HL
  unfold comeS
  rw [if_pos (by omega)]

set_option maxHeartbeats 1000000 in
theorem come_seen (n : Nat) (p : List Fn) (g : Fn) (oa oc : Option Addr) (lp cp lc cc B : Nat) (H : List Int) (at_ : Nat) (h : Int) (w : World) (hH : HeightsAt w B H) (hlc : lc = g.code.length) (hlh : H.length = g.code.length) (hat : ¬ ((lc : Int) ≤ at_)) (hs : H.getD at_ 0 ≠ -1) :
    Calls Tryd.prog 50 #[.agg #[.slice oa lp cp, .slice oc lc cc, .slice (some ⟨B, 0, none⟩) lc lc], .int .i64 at_, .int .i64 h] w fun e w' => ComePost p g (n + 1) H at_ h B w e w' := by
  have q := hH.cell (k := at_) (by omega)
  generalize hz : H.getD at_ 0 = z at *
  have d := (((Kept.refl w).alloc (.cells #[.slice oa lp cp, .slice oc lc cc, .slice (some ⟨B, 0, none⟩) lc lc] 90)).alloc (.cells #[.bool false] 4)).cell q
  have hs' : (z != -1) = true := by rw [bne_iff_ne]; exact hs
  have HS := hide hs
  have HL := hide hlc
  have HZ := hide hz
  have HH := hide hH
  clear hlc hH hz q hs hlh
  refine (callsIn_wide (n := 9)).1 (callsIn_of_wp_marks Tryd.func50 rfl trivial ?_ rfl)
  refine wpIn_wide.2 ?_
  simp only [Tryd.ntmps50, List.size_toArray, List.length_cons, List.length_nil, Nat.reduceAdd, Nat.reduceSub, Array.replicate_succ, Array.replicate_zero, List.push_toArray, List.append_toArray, List.nil_append, List.cons_append]
  go_wp2
  refine ⟨.bool (z == h), by simp [results, Tryd.results50, go_sem], z == h, H, ?_, rfl, (unhide HH).kept (((Kept.refl _).alloc _).alloc _), .of (((Kept.refl _).alloc _).alloc _)⟩
  have := unhide HL
  unfold comeS
  rw [if_neg (by omega), unhide HZ, if_neg (unhide HS)]
  rfl
end Go.Proofs.YtgdcecibfoganacDoor
