/- FlowA, FlowB, FlowC, FlowD, FlowM -/
import Derived.Test.YtlapliclhfpgkaaDoorRB08
import Derived.Test.YtlapliclhfpgkaaDoorRB01
import Derived.RangeFuncNested
import Derived.RangeFuncBound
import Derived.RangeFuncCalls
import Derived.RangeFuncLeaves
import Derived.Shelf.Abstract
import Derived.Shelf.RegionOpen
import Derived.WalkKit
import Derived.OwnWalkIn
import Derived.TacticsInMore
import Derived.LoopNIn
import Derived.LoopIn
namespace Go.Proofs.YtlapliclhfpgkaaDoor
open Go.RowKit
def BehPost (p : List Fn) (x : Int × Int) (h : Int) (w : World) (e : Ending) (w' : World) : Prop :=
  ∃ r, e = .returned (.tuple #[.int .i64 r, .bool (beh p x h).isSome]) ∧ (∀ m, beh p x h = some m → r = m) ∧ Kept w w'
set_option maxHeartbeats 1000000 in
theorem behind_any (p : List Fn) (g : Fn) (vp : Value) (oc oh : Option Addr) (lc cc lh ch : Nat) (x : Int × Int) (h : Int) (w : World) (hp : ProgAt w vp p) (hk : KindsAt w) (hx : opS p g x = 0) (h0 : 0 ≤ h) (h8 : h ≤ 8) :
    Calls Tryd.prog 64 #[.agg #[vp, .slice oc lc cc, .slice oh lh ch], .agg #[.int .i64 x.1, .int .i64 x.2], .int .i64 h] w fun e w' => BehPost p x h w e w' := by
  obtain ⟨oa, cap, rfl, _, _⟩ := id hp
  have hef : ∃ ta lb, effS p x.1 x.2 = (ta, lb, 0) ∧ 0 ≤ ta ∧ ta ≤ 4 ∧ 0 ≤ lb ∧ lb ≤ 1 := by
    by_cases h11 : x.1 = 11
    · obtain ⟨_, _, h3, h4⟩ := effS_call hx h11
      refine ⟨_, _, h4, h3, ?_, by decide, by decide⟩
      obtain ⟨_, _, hm⟩ := opS_kind hx
      rw [h11] at hm
      have := (mayB4 (show mayB p g 4 x.2 = true from hm)).2.2
      rw [roomB_iff] at this
      omega
    · obtain ⟨ta, lb, h1, h2, h3, h4, h5⟩ := effS_plain hx h11
      exact ⟨ta, lb, h1, h2, by omega, h4, h5⟩
  obtain ⟨ta, lb, he, t0, t4, l0, l1⟩ := hef
  have hb : beh p x h = if ta ≤ h ∧ ¬ (x.1 = 12 ∧ 1 < h) ∧ h - ta + lb ≤ 8 then some (h - ta + lb) else none := by
    unfold beh; rw [he]; simp
  have HB := hide hb
  have HE := hide he
  have HP := hide hp
  have HK := hide hk
  clear he hp hk hb hx
  go_enter Tryd.func64, Tryd.ntmps64
  go_wp2_with fail
  refine (effect_is p _ x.1 x.2 ta lb 0 _ ((unhide HP).kept (((Kept.refl _).alloc _).alloc _)) ((unhide HK).kept (((Kept.refl _).alloc _).alloc _)) (unhide HE)).mono ?_
  rintro e w1 ⟨rfl, hk1⟩
  have q0 := hk1.cell (cell_lays (t := 54) (fr := (0, 0)) (b := w.heap.size + 1) (c := #[.int .i64 x.1, .int .i64 x.2]) (lays_new (by simp)) 0)
  have H1 : Hid (Kept w w1) := (((Kept.refl _).alloc _).alloc _).trans hk1
  clear hk1
  by_cases c1 : h < ta
  · go_wp2
    go_ret2
    have hb := unhide HB
    rw [if_neg (by omega)] at hb
    exact ⟨0, by rw [hb]; rfl, (fun m hm => by rw [hb] at hm; cases hm), H1⟩
  · by_cases c2 : x.1 = 12
    · have c2' : (x.1 == 12) = true := beq_iff_eq.2 c2
      have C2 := hide c2
      clear c2
      by_cases c3 : 1 < h
      · go_wp2
        go_ret2
        have c2 := unhide C2
        have hb := unhide HB
        rw [if_neg (by omega)] at hb
        exact ⟨0, by rw [hb]; rfl, (fun m hm => by rw [hb] at hm; cases hm), H1⟩
      · go_wp2
        go_ret2
        have hb := unhide HB
        refine ⟨h - ta + lb, ?_, fun m hm => ?_, H1⟩
        · by_cases c4 : h - ta + lb ≤ 8
          · rw [hb, if_pos (by omega)]; simp [c4]
          · rw [hb, if_neg (by omega)]; simp [c4]
        · rw [hb] at hm
          split at hm
          · simpa using hm
          · cases hm
    · have c2' : (x.1 == 12) = false := beq_eq_false_iff_ne.2 c2
      have C2 := hide c2
      clear c2
      go_wp2
      go_ret2
      have c2 := unhide C2
      have hb := unhide HB
      refine ⟨h - ta + lb, ?_, fun m hm => ?_, H1⟩
      · by_cases c4 : h - ta + lb ≤ 8
        · rw [hb, if_pos (by omega)]; simp [c4]
        · rw [hb, if_neg (by omega)]; simp [c4]
      · rw [hb] at hm
        split at hm
        · simpa using hm
        · cases hm
set_option maxHeartbeats 400000 in
theorem following_any (kd a at_ : Int) (w : World) :
    Calls Tryd.prog 65 #[.agg #[.int .i64 kd, .int .i64 a], .int .i64 at_] w fun e w' =>
      e = .returned (.func (.func 84) #[] #[.pointer (some ⟨w.heap.size, 0, none⟩), .pointer (some ⟨w.heap.size + 1, 0, none⟩)]) ∧ w' = (w.alloc (.cells #[.int .i64 kd, .int .i64 a] 54)).alloc (.cells #[.int .i64 at_] 3) := by
  go_enter Tryd.func65, Tryd.ntmps65
  go_wp2
  go_ret
  exact ⟨rfl, rfl⟩
end Go.Proofs.YtlapliclhfpgkaaDoor
namespace Go.Proofs.YtlapliclhfpgkaaDoor
open Go.RowKit Go.Shelf
attribute [local go_sem] Oper.semAt_some
def KpAt (Ba : Nat) (W W' : World) : Prop := W'.cell? ⟨Ba, 0, none⟩ = W.cell? ⟨Ba, 0, none⟩
def SAll (l xs : List Nat) : Prop := xs = l
def SPre (l pre : List Nat) : Prop := ∃ r, pre ++ r = l
set_option maxHeartbeats 1000000 in
theorem following_stops (n Bx Ba : Nat) (kd a : Int) (at_ : Nat) (w0 : World) (hn : 1 ≤ n) (c0 : w0.cell? ⟨Bx, 0, none⟩ = some (.int .i64 kd)) (c1 : w0.cell? ⟨Bx, 1, none⟩ = some (.int .i64 a)) (c2 : w0.cell? ⟨Ba, 0, none⟩ = some (.int .i64 at_))
    (hA : kd = 9 ∨ kd = 10 → 0 ≤ a) (hat : at_ ≤ 8796093022208) :
    SeqStopsK Fence.wide n Tryd.prog 84 #[.pointer (some ⟨Bx, 0, none⟩), .pointer (some ⟨Ba, 0, none⟩)] (fun j : Nat => #[Value.int .i64 j]) (KpAt Ba) (SAll (nexts (kd, a) at_)) (SPre (nexts (kd, a) at_)) 2 w0 := fun l J Jx W hW _ _ hY h0 => by
  have hK : Kept w0 W := hW
  have d0 := hK.cell c0
  have d1 := hK.cell c1
  have d2 := hK.cell c2
  clear hK hW c0 c1 c2
  obtain ⟨L, hL⟩ : ∃ L, nexts (kd, a) at_ = L := ⟨_, rfl⟩
  have HL := hide hL
  rw [hL]
  clear hL
  refine callsIn_of_wp Tryd.func84 rfl trivial ?_ rfl
  simp only [Tryd.ntmps84, List.size_toArray, List.length_cons, List.length_nil, Nat.reduceAdd, Nat.reduceSub, Array.replicate_succ, Array.replicate_zero, List.push_toArray, List.append_toArray, List.nil_append, List.cons_append]
  by_cases h12 : kd = 12
  · subst h12
    gi_wp2
    go_end0
    refine ⟨⟨_, rfl⟩, .inl ⟨[], ?_, h0⟩⟩
    rw [← unhide HL]; rfl
  · have g12 : (kd == 12) = false := beq_eq_false_iff_ne.2 h12
    have N12 := hide h12
    clear h12
    by_cases h9 : kd = 9
    · subst h9
      obtain ⟨j, rfl⟩ := Int.eq_ofNat_of_zero_le (hA (.inl rfl))
      obtain ⟨f1, t1, a1, b1, hy1, hR1⟩ := hY [] j W h0 (by simp)
      dsimp only at hy1
      gi_wp2
      refine hR1.mono ?_
      rintro e W1 (⟨rfl, hJ1, _⟩ | ⟨rfl, hx1⟩)
      · gi_wp2
        go_end0
        refine ⟨⟨_, rfl⟩, .inl ⟨[j], ?_, hJ1⟩⟩
        rw [← unhide HL]; rfl
      · gi_wp2
        go_end0
        refine ⟨⟨_, rfl⟩, .inr ⟨[j], ⟨[], ?_⟩, hx1⟩⟩
        rw [← unhide HL]; rfl
    · have g9 : (kd == 9) = false := beq_eq_false_iff_ne.2 h9
      have N9 := hide h9
      clear h9
      by_cases h10 : kd = 10
      · subst h10
        obtain ⟨j, rfl⟩ := Int.eq_ofNat_of_zero_le (hA (.inr rfl))
        obtain ⟨f1, t1, a1, b1, hy1, hR1⟩ := hY [] j W h0 (by simp)
        dsimp only at hy1
        gi_wp2
        refine hR1.mono ?_
        rintro e W1 (⟨rfl, hJ1, hk1⟩ | ⟨rfl, hx1⟩)
        · have d3 : W1.cell? ⟨Ba, 0, none⟩ = some (.int .i64 at_) := Eq.trans hk1 d2
          obtain ⟨f2, t2, a2, b2, hy2, hR2⟩ := hY [j] (at_ + 1) W1 hJ1 (by simp)
          rw [show ((at_ + 1 : Nat) : Int) = (at_ : Int) + 1 from by omega] at hy2
          clear hk1
          gi_wp2
          refine hR2.mono ?_
          rintro e W2 (⟨rfl, hJ2, _⟩ | ⟨rfl, hx2⟩)
          · gi_wp2
            go_end0
            refine ⟨⟨_, rfl⟩, .inl ⟨[j, at_ + 1], ?_, hJ2⟩⟩
            rw [← unhide HL]; rfl
          · gi_wp2
            go_end0
            refine ⟨⟨_, rfl⟩, .inr ⟨[j, at_ + 1], ⟨[], ?_⟩, hx2⟩⟩
            rw [← unhide HL]; rfl
        · gi_wp2
          go_end0
          refine ⟨⟨_, rfl⟩, .inr ⟨[j], ⟨[at_ + 1], ?_⟩, hx1⟩⟩
          rw [← unhide HL]; rfl
      · have g10 : (kd == 10) = false := beq_eq_false_iff_ne.2 h10
        have hl : nexts (kd, a) at_ = [at_ + 1] := by
          unfold nexts
          rw [if_neg (unhide N12), if_neg (unhide N9), if_neg h10]
        have HM := hide hl
        clear h10 hl
        obtain ⟨f1, t1, a1, b1, hy1, hR1⟩ := hY [] (at_ + 1) W h0 (by simp)
        dsimp only at hy1
        rw [show ((at_ + 1 : Nat) : Int) = (at_ : Int) + 1 from by omega] at hy1
        gi_wp2
        refine hR1.mono ?_
        rintro e W1 (⟨rfl, hJ1, _⟩ | ⟨rfl, hx1⟩)
        · gi_wp2
          go_end0
          refine ⟨⟨_, rfl⟩, .inl ⟨[at_ + 1], ?_, hJ1⟩⟩
          rw [← unhide HL, unhide HM]; rfl
        · gi_wp2
          go_end0
          refine ⟨⟨_, rfl⟩, .inr ⟨[at_ + 1], ⟨[], ?_⟩, hx1⟩⟩
          rw [← unhide HL, unhide HM]; rfl
end Go.Proofs.YtlapliclhfpgkaaDoor
namespace Go.Proofs.YtlapliclhfpgkaaDoor
open Go.RowKit
def HeightsAt (w : World) (B : Nat) (H : List Int) : Prop := w.heap[B]? = some (.cells (H.map (fun z => Value.int .i64 z)).toArray 3)
theorem HeightsAt.kept {w w' : World} {B : Nat} {H : List Int} (h : HeightsAt w B H) (k : Kept w w') : HeightsAt w' B H := lays_kept k h
theorem HeightsAt.cell {w : World} {B : Nat} {H : List Int} (h : HeightsAt w B H) {k : Nat} (hk : k < H.length) : w.cell? ⟨B, k, none⟩ = some (.int .i64 (H.getD k 0)) := by
  rw [cell_lays h k]; simp [hk, List.getD]
theorem HeightsAt.frozen {w : World} {B : Nat} {H : List Int} (h : HeightsAt w B H) (k : Nat) : w.frozen? ⟨B, k, none⟩ = false := frozen_lays h k
theorem HeightsAt.set {w : World} {B : Nat} {H : List Int} (h : HeightsAt w B H) (k : Nat) (z : Int) : HeightsAt (w.setCell ⟨B, k, none⟩ (.int .i64 z)) B (H.set k z) := by
  unfold HeightsAt at *
  rw [lays_set h k]
  congr 2
  simp [List.map_set]
theorem HeightsAt.lt {w : World} {B : Nat} {H : List Int} (h : HeightsAt w B H) : B < w.heap.size := (Array.getElem?_eq_some_iff.1 h).1
theorem HeightsAt.other {w : World} {B : Nat} {H : List Int} (h : HeightsAt w B H) {p : Addr} (hp : p.block ≠ B) (u : Value) : HeightsAt (w.setCell p u) B H := lays_other h (fun e => hp e.symm) u
structure ComeAt (w0 w : World) (p : List Fn) (g : Fn) (vp vc : Value) (B : Nat) (H : List Int) : Prop where
  prog : ProgAt w0 vp p
  code : CodeAt w0 vc g.code
  kinds : KindsAt w0
  right : ∀ x, x ∈ g.code → opS p g x = 0
  most : g.code.length ≤ 24
  kept : Kept w0 w
  new : w0.heap.size ≤ B
  hs : HeightsAt w B H
  len : H.length = g.code.length
def ComePost (p : List Fn) (g : Fn) (n : Nat) (H : List Int) (at_ : Nat) (h : Int) (B : Nat) (w : World) (e : Ending) (w' : World) : Prop :=
  ∃ b H', comeS p g.code n H at_ h = (b, H') ∧ e = .returned (.bool b) ∧ HeightsAt w' B H' ∧ KeptX B w w'
end Go.Proofs.YtlapliclhfpgkaaDoor
namespace Go.Proofs.YtlapliclhfpgkaaDoor
open Go.RowKit Go.Shelf
attribute [local go_sem] Oper.semAt_some
set_option maxHeartbeats 1000000 in
theorem come_beyond (n : Nat) (p : List Fn) (g : Fn) (oa oc : Option Addr) (lp cp lc cc B : Nat) (H : List Int) (at_ : Nat) (h : Int) (w : World) (hH : HeightsAt w B H) (hlc : lc = g.code.length) (hat : ((lc : Int) ≤ at_)) :
    Calls Tryd.prog 45 #[.agg #[.slice oa lp cp, .slice oc lc cc, .slice (some ⟨B, 0, none⟩) lc lc], .int .i64 at_, .int .i64 h] w fun e w' => ComePost p g (n + 1) H at_ h B w e w' := by
  have HL := hide hlc
  have HH := hide hH
  clear hlc hH
  refine (callsIn_wide (n := 9)).1 (callsIn_of_wp_marks Tryd.func45 rfl trivial ?_ rfl)
  refine wpIn_wide.2 ?_
  simp only [Tryd.ntmps45, List.size_toArray, List.length_cons, List.length_nil, Nat.reduceAdd, Nat.reduceSub, Array.replicate_succ, Array.replicate_zero, List.push_toArray, List.append_toArray, List.nil_append, List.cons_append]
  go_wp2
  refine ⟨.bool false, by simp [results, Tryd.results45, go_sem], false, H, ?_, rfl, (unhide HH).kept (((Kept.refl _).alloc _).alloc _), .of (((Kept.refl _).alloc _).alloc _)⟩
  have := unhide HL
  unfold comeS
  rw [if_pos (by omega)]
set_option maxHeartbeats 1000000 in
theorem come_seen (n : Nat) (p : List Fn) (g : Fn) (oa oc : Option Addr) (lp cp lc cc B : Nat) (H : List Int) (at_ : Nat) (h : Int) (w : World) (hH : HeightsAt w B H) (hlc : lc = g.code.length) (hlh : H.length = g.code.length) (hat : ¬ ((lc : Int) ≤ at_)) (hs : H.getD at_ 0 ≠ -1) :
    Calls Tryd.prog 45 #[.agg #[.slice oa lp cp, .slice oc lc cc, .slice (some ⟨B, 0, none⟩) lc lc], .int .i64 at_, .int .i64 h] w fun e w' => ComePost p g (n + 1) H at_ h B w e w' := by
  have q := hH.cell (k := at_) (by omega)
  generalize hz : H.getD at_ 0 = z at *
  have d := (((Kept.refl w).alloc (.cells #[.slice oa lp cp, .slice oc lc cc, .slice (some ⟨B, 0, none⟩) lc lc] 84)).alloc (.cells #[.bool false] 4)).cell q
  have hs' : (z != -1) = true := by rw [bne_iff_ne]; exact hs
  have HS := hide hs
  have HL := hide hlc
  have HZ := hide hz
  have HH := hide hH
  clear hlc hH hz q hs hlh
  refine (callsIn_wide (n := 9)).1 (callsIn_of_wp_marks Tryd.func45 rfl trivial ?_ rfl)
  refine wpIn_wide.2 ?_
  simp only [Tryd.ntmps45, List.size_toArray, List.length_cons, List.length_nil, Nat.reduceAdd, Nat.reduceSub, Array.replicate_succ, Array.replicate_zero, List.push_toArray, List.append_toArray, List.nil_append, List.cons_append]
  go_wp2
  refine ⟨.bool (z == h), by simp [results, Tryd.results45, go_sem], z == h, H, ?_, rfl, (unhide HH).kept (((Kept.refl _).alloc _).alloc _), .of (((Kept.refl _).alloc _).alloc _)⟩
  have := unhide HL
  unfold comeS
  rw [if_neg (by omega), unhide HZ, if_neg (unhide HS)]
  rfl
end Go.Proofs.YtlapliclhfpgkaaDoor
namespace Go.Proofs.YtlapliclhfpgkaaDoor
def Reach (p : List Fn) (c : List (Int × Int)) (k : Nat) (h : Int) : Prop :=
  ∀ S : Nat → Int → Prop, S 0 0 → (∀ k h x m j, S k h → c[k]? = some x → beh p x h = some m → j ∈ nexts x k → S j m) → S k h
theorem Reach.zero (p : List Fn) (c : List (Int × Int)) : Reach p c 0 0 := fun _ h _ => h
theorem Reach.step {p : List Fn} {c : List (Int × Int)} {k : Nat} {h : Int} {x : Int × Int} {m : Int} {j : Nat} (r : Reach p c k h) (hx : c[k]? = some x) (hm : beh p x h = some m) (hj : j ∈ nexts x k) : Reach p c j m :=
  fun S h0 hs => hs k h x m j (r S h0 hs) hx hm hj
def Done (p : List Fn) (c : List (Int × Int)) (H : List Int) (k : Nat) : Prop :=
  ∃ x m, c[k]? = some x ∧ beh p x (H.getD k 0) = some m ∧ ∀ j, j ∈ nexts x k → j < c.length ∧ H.getD j 0 = m
structure Cons (p : List Fn) (c : List (Int × Int)) (H : List Int) : Prop where
  len : H.length = c.length
  pos : 0 < c.length
  first : H.getD 0 0 = 0
  done : ∀ k, k < c.length → H.getD k 0 ≠ -1 → Done p c H k
def Sound (p : List Fn) (c : List (Int × Int)) (H : List Int) : Prop :=
  ∀ k, k < c.length → H.getD k 0 = -1 ∨ (0 ≤ H.getD k 0 ∧ Reach p c k (H.getD k 0))
def Right (p : List Fn) (c : List (Int × Int)) : Prop := ∃ g : Fn, g.code = c ∧ ∀ x, x ∈ c → opS p g x = 0
theorem beh_nonneg {p : List Fn} {c : List (Int × Int)} (hr : Right p c) {x : Int × Int} (hx : x ∈ c) {h m : Int} (hm : beh p x h = some m) : 0 ≤ m ∧ m ≤ 8 := by
  obtain ⟨g, _, hg⟩ := hr
  have hop := hg x hx
  have hl : 0 ≤ (effS p x.1 x.2).2.1 := by
    by_cases h11 : x.1 = 11
    · rw [(effS_call hop h11).2.2.2]; exact Int.le_of_lt Int.one_pos
    · obtain ⟨ta, lb, h1, _, _, h4, _⟩ := effS_plain hop h11; rw [h1]; exact h4
  unfold beh at hm
  split at hm
  · rename_i hc
    simp only [Option.some.injEq] at hm
    omega
  · cases hm
theorem Reach.in {p : List Fn} {c : List (Int × Int)} {H : List Int} (hc : Cons p c H) (hr : Right p c) {k : Nat} {h : Int} (r : Reach p c k h) : k < c.length ∧ H.getD k 0 = h ∧ 0 ≤ h := by
  refine r (fun k h => k < c.length ∧ H.getD k 0 = h ∧ 0 ≤ h) ⟨hc.pos, hc.first, by omega⟩ ?_
  rintro k h x m j ⟨h1, h2, h3⟩ hx hm hj
  obtain ⟨x', m', hx', hm', hn⟩ := hc.done k h1 (by omega)
  obtain rfl : x = x' := by rw [hx] at hx'; exact Option.some.inj hx'
  rw [h2] at hm'
  obtain rfl : m = m' := by rw [hm] at hm'; exact Option.some.inj hm'
  obtain ⟨h4, h5⟩ := hn j hj
  exact ⟨h4, h5, (beh_nonneg hr (List.mem_of_getElem? hx) hm).1⟩
theorem cons_one {p : List Fn} {c : List (Int × Int)} (hr : Right p c) {H H' : List Int} (h : Cons p c H) (s : Sound p c H) (h' : Cons p c H') (s' : Sound p c H') : H = H' := by
  apply List.ext_getElem (h.len.trans h'.len.symm)
  intro k hk hk'
  have hkc : k < c.length := h.len ▸ hk
  have e1 : H[k] = H.getD k 0 := by simp [List.getD, hk]
  have e2 : H'[k] = H'.getD k 0 := by simp [List.getD, hk']
  rw [e1, e2]
  rcases s k hkc with a | ⟨a1, a2⟩
  · rcases s' k hkc with b | ⟨b1, b2⟩
    · rw [a, b]
    · have := b2.in h hr; omega
  · have := a2.in h' hr; omega
def Mono (H H' : List Int) : Prop := H'.length = H.length ∧ ∀ k, H.getD k 0 ≠ -1 → H'.getD k 0 = H.getD k 0
theorem Mono.refl (H : List Int) : Mono H H := ⟨rfl, fun _ _ => rfl⟩
theorem Mono.trans {A B C : List Int} (h : Mono A B) (k : Mono B C) : Mono A C :=
  ⟨k.1.trans h.1, fun i hi => by have := h.2 i hi; rw [k.2 i (by rw [this]; exact hi), this]⟩
theorem getD_set {H : List Int} {k : Nat} (hk : k < H.length) (z : Int) (i : Nat) : (H.set k z).getD i 0 = if i = k then z else H.getD i 0 := by
  simp only [List.getD, List.getElem?_set]
  by_cases h : k = i
  · subst h; simp [hk]
  · rw [if_neg h, if_neg (fun e => h e.symm)]
theorem Mono.set {H : List Int} {k : Nat} (hk : k < H.length) {z : Int} (h : H.getD k 0 = -1 ∨ H.getD k 0 = z) : Mono H (H.set k z) := by
  refine ⟨by simp, fun i hi => ?_⟩
  rw [getD_set hk]
  split
  · rename_i e; subst e; rcases h with h | h
    · exact absurd h hi
    · exact h.symm
  · rfl
theorem Done.mono {p : List Fn} {c : List (Int × Int)} (hr : Right p c) {H H' : List Int} (m : Mono H H') {k : Nat} (hk : H.getD k 0 ≠ -1) (d : Done p c H k) : Done p c H' k := by
  obtain ⟨x, n, hx, hn, hj⟩ := d
  refine ⟨x, n, hx, by rw [m.2 k hk]; exact hn, fun j hjn => ?_⟩
  obtain ⟨h1, h2⟩ := hj j hjn
  have h3 := (beh_nonneg hr (List.mem_of_getElem? hx) hn).1
  exact ⟨h1, by rw [m.2 j (by omega), h2]⟩
theorem comes_ok {p : List Fn} {c : List (Int × Int)} (hr : Right p c) (f : List Int → Nat → Int → Bool × List Int)
    (hf : ∀ H j m H', H.length = c.length → 0 ≤ m → f H j m = (true, H') → Mono H H' ∧ j < c.length ∧ H'.getD j 0 = m ∧ (∀ k, k < c.length → H.getD k 0 = -1 → H'.getD k 0 ≠ -1 → Done p c H' k) ∧ (Reach p c j m → Sound p c H → Sound p c H')) :
    ∀ (l : List Nat) (H : List Int) (m : Int) (H' : List Int), H.length = c.length → 0 ≤ m → comesS f l H m = (true, H') →
      Mono H H' ∧ (∀ j, j ∈ l → j < c.length ∧ H'.getD j 0 = m) ∧ (∀ k, k < c.length → H.getD k 0 = -1 → H'.getD k 0 ≠ -1 → Done p c H' k) ∧ ((∀ j, j ∈ l → Reach p c j m) → Sound p c H → Sound p c H')
  | [], H, m, H', hl, hm, h => by
    simp [comesS] at h
    subst h
    exact ⟨Mono.refl _, (fun j hj => by cases hj), fun k _ h1 h2 => absurd h1 h2, fun _ s => s⟩
  | i :: l, H, m, H', hl, hm, h => by
    simp only [comesS] at h
    cases hi : f H i m with
    | mk b H2 =>
      rw [hi] at h
      cases b with
      | false => simp at h
      | true =>
        obtain ⟨m1, i1, i2, d1, s1⟩ := hf H i m H2 hl hm hi
        obtain ⟨m2, j2, d2, s2⟩ := comes_ok hr f hf l H2 m H' (m1.1.trans hl) hm h
        refine ⟨m1.trans m2, ?_, ?_, ?_⟩
        · intro j hj
          rcases List.mem_cons.1 hj with rfl | hj
          · exact ⟨i1, by rw [m2.2 j (by omega), i2]⟩
          · exact j2 j hj
        · intro k hk h1 h2
          by_cases h3 : H2.getD k 0 = -1
          · exact d2 k hk h3 h2
          · exact (d1 k hk h1 h3).mono hr m2 h3
        · intro hR hs
          exact s2 (fun j hj => hR j (by simp [hj])) (s1 (hR i (by simp)) hs)
theorem come_ok {p : List Fn} {c : List (Int × Int)} (hr : Right p c) : ∀ (n : Nat) (H : List Int) (at_ : Nat) (h : Int) (H' : List Int), H.length = c.length → 0 ≤ h → comeS p c n H at_ h = (true, H') →
    Mono H H' ∧ at_ < c.length ∧ H'.getD at_ 0 = h ∧ (∀ k, k < c.length → H.getD k 0 = -1 → H'.getD k 0 ≠ -1 → Done p c H' k) ∧ (Reach p c at_ h → Sound p c H → Sound p c H')
  | 0, H, at_, h, H', _, _, hc => by simp [comeS] at hc
  | n + 1, H, at_, h, H', hl, hh, hc => by
    unfold comeS at hc
    by_cases h1 : c.length ≤ at_
    · rw [if_pos h1] at hc; simp at hc
    · rw [if_neg h1] at hc
      by_cases h2 : H.getD at_ 0 = -1
      · rw [if_pos h2] at hc
        have hx : c[at_]? = some (c.getD at_ (0, 0)) := getD_of_lt c at_ (0, 0) (by omega)
        generalize c.getD at_ (0, 0) = x at hx hc
        cases hb : beh p x h with
        | none => rw [hb] at hc; simp at hc
        | some m =>
          rw [hb] at hc
          have hm := (beh_nonneg hr (List.mem_of_getElem? hx) hb).1
          obtain ⟨m1, j1, d1, s1⟩ := comes_ok hr (comeS p c n) (fun H j m H' a b => come_ok hr n H j m H' a b) (nexts x at_) (H.set at_ h) m H' (by simpa using hl) hm hc
          have hlt : at_ < H.length := by omega
          have hset : (H.set at_ h).getD at_ 0 = h := by rw [getD_set hlt, if_pos rfl]
          have hat : H'.getD at_ 0 = h := by rw [m1.2 at_ (by omega), hset]
          refine ⟨(Mono.set hlt (.inl h2)).trans m1, by omega, hat, ?_, ?_⟩
          · intro k hk k1 k2
            by_cases e : k = at_
            · subst e
              exact ⟨x, m, hx, by rw [hat]; exact hb, j1⟩
            · exact d1 k hk (by rw [getD_set hlt, if_neg e]; exact k1) k2
          · intro hR hs
            refine s1 (fun j hj => hR.step hx hb hj) ?_
            intro k hk
            rw [getD_set hlt]
            by_cases e : k = at_
            · rw [if_pos e, e]; exact .inr ⟨hh, hR⟩
            · rw [if_neg e]; exact hs k hk
      · rw [if_neg h2] at hc
        simp at hc
        obtain ⟨hd, rfl⟩ := hc
        exact ⟨Mono.refl _, by omega, hd, fun k _ a b => absurd a b, fun _ s => s⟩
theorem comes_all {c : List (Int × Int)} (f : List Int → Nat → Int → Bool × List Int) {G : List Int} (n : Nat) {m : Int}
    (hf : ∀ H j, Mono H G → unv H < n → j < c.length → G.getD j 0 = m → ∃ H', f H j m = (true, H') ∧ Mono H' G ∧ unv H' ≤ unv H) :
    ∀ (l : List Nat) (H : List Int), Mono H G → unv H < n → (∀ j, j ∈ l → j < c.length ∧ G.getD j 0 = m) → ∃ H', comesS f l H m = (true, H') ∧ Mono H' G ∧ unv H' ≤ unv H
  | [], H, h, _, _ => ⟨H, rfl, h, Nat.le_refl _⟩
  | i :: l, H, h, hn, hj => by
    obtain ⟨H2, h2, m2, u2⟩ := hf H i h hn (hj i (by simp)).1 (hj i (by simp)).2
    obtain ⟨H3, h3, m3, u3⟩ := comes_all f n hf l H2 m2 (by omega) (fun j hjl => hj j (by simp [hjl]))
    exact ⟨H3, by simp only [comesS]; rw [h2]; exact h3, m3, by omega⟩
theorem come_all {p : List Fn} {c : List (Int × Int)} (hr : Right p c) {G : List Int} (hG : Cons p c G) : ∀ (n : Nat) (H : List Int) (at_ : Nat) (h : Int), Mono H G → unv H < n → at_ < c.length → G.getD at_ 0 = h → 0 ≤ h →
    ∃ H', comeS p c n H at_ h = (true, H') ∧ Mono H' G ∧ unv H' ≤ unv H
  | 0, H, at_, h, _, hn, _, _, _ => by omega
  | n + 1, H, at_, h, hm, hn, ha, hg, hh => by
    unfold comeS
    rw [if_neg (by omega)]
    have hlt : at_ < H.length := by rw [← hm.1, hG.len]; exact ha
    by_cases h2 : H.getD at_ 0 = -1
    · rw [if_pos h2]
      obtain ⟨x, m, hx, hb, hj⟩ := hG.done at_ ha (by omega)
      have hx' := getD_of_lt c at_ (0, 0) ha
      rw [hx] at hx'
      rw [← Option.some.inj hx', ← hg, hb]
      have hmm := (beh_nonneg hr (List.mem_of_getElem? hx) hb).1
      have hu := unv_set H at_ (G.getD at_ 0) h2 (by omega)
      have hset : Mono (H.set at_ (G.getD at_ 0)) G := by
        refine ⟨by simpa using hm.1, fun k hk => ?_⟩
        rw [getD_set hlt] at hk ⊢
        split
        · rename_i e; rw [e]
        · rename_i e; rw [if_neg e] at hk; exact hm.2 k hk
      obtain ⟨H', h3, h4, h5⟩ := comes_all (c := c) (comeS p c n) n (fun H j a b d e => come_all hr hG n H j m a b d e hmm) (nexts x at_) (H.set at_ (G.getD at_ 0)) hset (by omega) hj
      exact ⟨H', h3, h4, by omega⟩
    · rw [if_neg h2]
      have : H.getD at_ 0 = h := by rw [← hm.2 at_ h2, hg]
      exact ⟨H, by simp only [this, decide_true], hm, Nat.le_refl _⟩
end Go.Proofs.YtlapliclhfpgkaaDoor
