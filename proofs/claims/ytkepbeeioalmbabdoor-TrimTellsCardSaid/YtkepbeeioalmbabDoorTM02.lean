/- TrimS, OpA, Blocks, OpE -/
import Derived.Test.YtkepbeeioalmbabDoorTM01
import Derived.Test.YtkepbeeioalmbabDoorChecked
import Derived.Laws.EntriesVeiled
set_option maxRecDepth 100000
set_option maxHeartbeats 8000000
namespace Go.Proofs.YtkepbeeioalmbabDoor
def placeS (H : List Int) : Nat → Nat
  | 0 => 0
  | k + 1 => if 0 ≤ H.getD k 0 then placeS H k + 1 else placeS H k
def pick {α : Type} (H : List Int) (f : Nat → α) : Nat → List α
  | 0 => []
  | k + 1 => if 0 ≤ H.getD k 0 then pick H f k ++ [f k] else pick H f k
def moveS (H : List Int) (x : Int × Int) : Int × Int := if x.1 = 9 ∨ x.1 = 10 then (x.1, (placeS H x.2.toNat : Nat)) else x
def trimC (H : List Int) (c : List (Int × Int)) : List (Int × Int) := pick H (fun k => moveS H (c.getD k (0, 0))) H.length
theorem pick_len {α : Type} (H : List Int) (f : Nat → α) : ∀ n, (pick H f n).length = placeS H n
  | 0 => rfl
  | n + 1 => by
    unfold pick placeS
    split
    · simp [pick_len H f n]
    · exact pick_len H f n
theorem placeS_le (H : List Int) : ∀ n, placeS H n ≤ n
  | 0 => Nat.le_refl _
  | n + 1 => by
    have := placeS_le H n
    unfold placeS
    split <;> omega
theorem placeS_succ {H : List Int} {k : Nat} (h : 0 ≤ H.getD k 0) : placeS H (k + 1) = placeS H k + 1 := by
  conv => lhs; unfold placeS
  rw [if_pos h]
def Alike (p q : List Fn) : Prop := q.length = p.length ∧ ∀ k, (q.getD k Fn.zero).args = (p.getD k Fn.zero).args ∧ (q.getD k Fn.zero).locals = (p.getD k Fn.zero).locals
theorem Alike.eff {p q : List Fn} (h : Alike p q) (kd a : Int) : effS q kd a = effS p kd a := by
  unfold effS
  rw [h.1, (h.2 a.toNat).1]
theorem Alike.beh {p q : List Fn} (h : Alike p q) (x : Int × Int) (z : Int) : beh q x z = beh p x z := by
  unfold Proofs.YtkepbeeioalmbabDoor.beh
  rw [h.eff]
theorem next_stays {p : List Fn} {c : List (Int × Int)} {H : List Int} (hc : Cons p c H) (hr : Right p c) {k : Nat} (hk : k < c.length) (hs : 0 ≤ H.getD k 0) {x : Int × Int} (hx : c[k]? = some x) {j : Nat} (hj : j ∈ nexts x k) :
    j < c.length ∧ 0 ≤ H.getD j 0 := by
  obtain ⟨x', m, hx', hm, hn⟩ := hc.done k hk (by omega)
  obtain rfl : x = x' := by rw [hx] at hx'; exact Option.some.inj hx'
  obtain ⟨h1, h2⟩ := hn j hj
  exact ⟨h1, by rw [h2]; exact (beh_nonneg hr (List.mem_of_getElem? hx) hm).1⟩
theorem trimC_len (H : List Int) (c : List (Int × Int)) : (trimC H c).length = placeS H H.length := pick_len H _ _
def hgtL (p : List Fn) (k : Nat) : List Int := (heightsS p (codeOf p k)).getD []
def trimF (p : List Fn) (k : Nat) : Fn := ⟨(p.getD k Fn.zero).args, (p.getD k Fn.zero).locals, trimC (hgtL p k) (codeOf p k)⟩
def trimP (p : List Fn) : List Fn := (List.range p.length).map (trimF p)
theorem trimP_get {p : List Fn} {k : Nat} (hk : k < p.length) : (trimP p).getD k Fn.zero = trimF p k := by
  simp [trimP, List.getD, hk]
theorem progS_heights {p : List Fn} (h : progS p = 0) {k : Nat} (hk : k < p.length) : heightsS p (codeOf p k) = some (hgtL p k) := by
  unfold progS at h
  split at h
  · cases h
  · split at h
    · cases h
    · split at h
      · cases h
      · split at h
        · have := firstS_zero h k (by omega) (by omega)
          unfold hgtE at this
          unfold hgtL
          split at this
          · rename_i H hH; rw [hH]; rfl
          · cases this
        · rename_i h0; exact absurd h h0
open Go.RowKit
theorem isIndex_any (i n : Int) (w : World) :
    Calls Tryd.prog 35 #[.int .i64 i, .int .i64 n] w fun e w' => e = .returned (.bool (ixB i n)) ∧ w = w' := by
  by_cases h1 : 0 ≤ i
  · by_cases h2 : i < n
    · rw [ixB_true h1 h2]
      go_enter Tryd.func35, Tryd.ntmps35
      go_wp2
      go_ret
      exact ⟨rfl, rfl⟩
    · rw [ixB_false (by omega)]
      go_enter Tryd.func35, Tryd.ntmps35
      go_wp2
      go_ret
      exact ⟨rfl, rfl⟩
  · rw [ixB_false (by omega)]
    go_enter Tryd.func35, Tryd.ntmps35
    go_wp2
    go_ret
    exact ⟨rfl, rfl⟩
theorem hasRoom_any (a l : Int) (c : Value) (w : World) :
    Calls Tryd.prog 36 #[.agg #[.int .i64 a, .int .i64 l, c]] w fun e w' => e = .returned (.bool (roomB a l)) ∧ w' = w.alloc (.cells #[.int .i64 a, .int .i64 l, c] 36) := by
  by_cases h1 : 0 ≤ a
  · by_cases h2 : a ≤ l
    · by_cases h3 : l ≤ 4
      · rw [show roomB a l = true from by rw [roomB_iff]; exact ⟨h1, h2, h3⟩]
        go_enter Tryd.func36, Tryd.ntmps36
        go_wp2
        go_ret
        exact ⟨rfl, rfl⟩
      · rw [show roomB a l = false from by rw [← Bool.not_eq_true, roomB_iff]; omega]
        go_enter Tryd.func36, Tryd.ntmps36
        go_wp2
        go_ret
        exact ⟨rfl, rfl⟩
    · rw [show roomB a l = false from by rw [← Bool.not_eq_true, roomB_iff]; omega]
      go_enter Tryd.func36, Tryd.ntmps36
      go_wp2
      go_ret
      exact ⟨rfl, rfl⟩
  · rw [show roomB a l = false from by rw [← Bool.not_eq_true, roomB_iff]; omega]
    go_enter Tryd.func36, Tryd.ntmps36
    go_wp2
    go_ret
    exact ⟨rfl, rfl⟩
def flatOps (c : List (Int × Int)) : List Value := c.flatMap fun x => [.int .i64 x.1, .int .i64 x.2]
theorem flatOps_at : ∀ (c : List (Int × Int)) (i : Nat) (x : Int × Int), c[i]? = some x → (flatOps c)[i * 2]? = some (.int .i64 x.1) ∧ (flatOps c)[i * 2 + 1]? = some (.int .i64 x.2)
  | [], i, x, h => by simp at h
  | y :: c, 0, x, h => by simp at h; subst h; simp [flatOps]
  | y :: c, i + 1, x, h => by
    have := flatOps_at c i x (by simpa using h)
    have e : flatOps (y :: c) = .int .i64 y.1 :: .int .i64 y.2 :: flatOps c := by simp [flatOps]
    rw [e, show (i + 1) * 2 = i * 2 + 1 + 1 by omega]
    simpa using this
theorem codeAt_block {w : World} {b : Nat} {A : Array Value} {t : TypeId} {fr : Nat × Nat} (h : w.heap[b]? = some (.cells A t fr)) (c : List (Int × Int)) (hA : A = (flatOps c).toArray) (hl : c.length ≤ 8796093022208) (n cap : Nat) (hn : n = c.length) :
    CodeAt w (.slice (some ⟨b, 0, none⟩) n cap) c := by
  subst hn hA
  refine ⟨_, _, rfl, hl, fun i x hx => ⟨b, 0, rfl, ?_, ?_⟩⟩
  · rw [cell_lays h]; simpa using (flatOps_at c i x hx).1
  · rw [cell_lays h]; simpa using (flatOps_at c i x hx).2
def flatFns (l : List (Fn × Value)) : List Value := l.flatMap fun x => [.int .i64 x.1.args, .int .i64 x.1.locals, x.2]
theorem flatFns_at : ∀ (l : List (Fn × Value)) (i : Nat) (x : Fn × Value), l[i]? = some x → (flatFns l)[i * 3]? = some (.int .i64 x.1.args) ∧ (flatFns l)[i * 3 + 1]? = some (.int .i64 x.1.locals) ∧ (flatFns l)[i * 3 + 2]? = some x.2
  | [], i, x, h => by simp at h
  | y :: c, 0, x, h => by simp at h; subst h; simp [flatFns]
  | y :: c, i + 1, x, h => by
    have := flatFns_at c i x (by simpa using h)
    have e : flatFns (y :: c) = .int .i64 y.1.args :: .int .i64 y.1.locals :: y.2 :: flatFns c := by simp [flatFns]
    rw [e, show (i + 1) * 3 = i * 3 + 1 + 1 + 1 by omega]
    simpa using this
theorem progAt_block {w : World} {b : Nat} {A : Array Value} {t : TypeId} {fr : Nat × Nat} (h : w.heap[b]? = some (.cells A t fr)) (l : List (Fn × Value)) (hA : A = (flatFns l).toArray) (hl : l.length ≤ 8796093022208)
    (hc : ∀ x, x ∈ l → CodeAt w x.2 x.1.code) (n cap : Nat) (hn : n = l.length) (p : List Fn) (hp : p = l.map (·.1)) : ProgAt w (.slice (some ⟨b, 0, none⟩) n cap) p := by
  subst hn hA hp
  refine ⟨_, cap, by rw [List.length_map], by simpa using hl, fun i f hf => ?_⟩
  rw [List.getElem?_map, Option.map_eq_some_iff] at hf
  obtain ⟨x, hx, rfl⟩ := hf
  obtain ⟨h1, h2, h3⟩ := flatFns_at l i x hx
  refine ⟨b, 0, x.2, rfl, ?_, ?_, ?_, hc x (List.mem_of_getElem? hx)⟩
  · rw [cell_lays h]; simpa using h1
  · rw [cell_lays h]; simpa using h2
  · rw [cell_lays h]; simpa using h3
def cnt0 : List (Int × Int) := [(13, 1), (3, 0), (2, 0), (0, 7), (14, 0), (16, 0), (2, 0), (0, 0), (14, 0), (16, 0), (2, 0), (0, 0), (14, 0), (12, 0)]
def cnt1 : List (Int × Int) := [(2, 0), (15, 0), (1, 0), (2, 0), (0, 1), (11, 2), (15, 0), (1, 0), (0, 99), (12, 0), (0, 5), (9, 9)]
def cnt2 : List (Int × Int) := [(2, 0), (2, 1), (4, 0), (12, 0)]
def cntL : List Fn := [⟨0, 1, cnt0⟩, ⟨1, 1, cnt1⟩, ⟨2, 2, cnt2⟩]
def CountAt (n0 : Nat) (w : World) (v : Value) : Prop :=
  ∃ b0 b1 b2 b, n0 ≤ b0 ∧ b0 < b1 ∧ b1 < b2 ∧ b2 < b ∧ v = .slice (some ⟨b, 0, none⟩) 3 3 ∧ w.heap[b0]? = some (.cells (flatOps cnt0).toArray 38) ∧ w.heap[b1]? = some (.cells (flatOps cnt1).toArray 38) ∧
    w.heap[b2]? = some (.cells (flatOps cnt2).toArray 38) ∧
    w.heap[b]? = some (.cells #[.int .i64 0, .int .i64 1, .slice (some ⟨b0, 0, none⟩) 14 14, .int .i64 1, .int .i64 1, .slice (some ⟨b1, 0, none⟩) 12 12, .int .i64 2, .int .i64 2, .slice (some ⟨b2, 0, none⟩) 4 4] 36)
theorem CountAt.prog {n0 : Nat} {w : World} {v : Value} (h : CountAt n0 w v) : ProgAt w v cntL := by
  obtain ⟨b0, b1, b2, b, _, _, _, _, rfl, h0, h1, h2, h3⟩ := h
  refine progAt_block h3 [(⟨0, 1, cnt0⟩, .slice (some ⟨b0, 0, none⟩) 14 14), (⟨1, 1, cnt1⟩, .slice (some ⟨b1, 0, none⟩) 12 12), (⟨2, 2, cnt2⟩, .slice (some ⟨b2, 0, none⟩) 4 4)] rfl (by simp) ?_ 3 3 rfl cntL rfl
  intro x hx
  simp only [List.mem_cons, List.not_mem_nil, or_false] at hx
  rcases hx with rfl | rfl | rfl
  · exact codeAt_block h0 cnt0 rfl (by decide) 14 14 rfl
  · exact codeAt_block h1 cnt1 rfl (by decide) 12 12 rfl
  · exact codeAt_block h2 cnt2 rfl (by decide) 4 4 rfl
theorem may0_any (a : Int) (w : World) :
    Calls Tryd.prog 46 #[.int .i64 a] w fun e w' => e = .returned (.bool (a == 0)) ∧ w' = w := by
  go_enter Tryd.func46, Tryd.ntmps46
  go_wp2
  go_ret
  exact ⟨rfl, rfl⟩
theorem may1_any (a : Int) (w : World) :
    Calls Tryd.prog 47 #[.int .i64 a] w fun e w' => e = .returned (.bool (inB a 0 999)) ∧ w' = w := by
  by_cases h1 : 0 ≤ a
  · by_cases h2 : a ≤ 999
    · rw [inB_true h1 h2]
      go_enter Tryd.func47, Tryd.ntmps47
      go_wp2
      go_ret
      exact ⟨rfl, rfl⟩
    · rw [inB_false (by omega)]
      go_enter Tryd.func47, Tryd.ntmps47
      go_wp2
      go_ret
      exact ⟨rfl, rfl⟩
  · rw [inB_false (by omega)]
    go_enter Tryd.func47, Tryd.ntmps47
    go_wp2
    go_ret
    exact ⟨rfl, rfl⟩
theorem may2_any (a l : Int) (B : Nat) (w : World) (h : w.cell? ⟨B, 1, none⟩ = some (.int .i64 l)) :
    Calls Tryd.prog 48 #[.int .i64 a, .pointer (some ⟨B, 0, none⟩)] w fun e w' => e = .returned (.bool (ixB a l)) ∧ w' = w := by
  go_enter Tryd.func48, Tryd.ntmps48
  go_wp2_with (go_at_call 35; refine (isIndex_any _ _ _).mono ?_; rintro e w' ⟨rfl, rfl⟩)
  go_ret
  exact ⟨rfl, rfl⟩
theorem may3_any (a : Int) (B : Nat) (oa : Option Addr) (n cap : Nat) (w : World) (h : w.cell? ⟨B, 2, none⟩ = some (.slice oa n cap)) :
    Calls Tryd.prog 49 #[.int .i64 a, .pointer (some ⟨B, 0, none⟩)] w fun e w' => e = .returned (.bool (ixB a n)) ∧ w' = w := by
  go_enter Tryd.func49, Tryd.ntmps49
  go_wp2_with (go_at_call 35; refine (isIndex_any _ _ _).mono ?_; rintro e w' ⟨rfl, rfl⟩)
  go_ret
  exact ⟨rfl, rfl⟩
theorem may4_no (a : Int) (B : Nat) (oa : Option Addr) (n cap : Nat) (w : World) (h : w.cell? ⟨B, 0, none⟩ = some (.slice oa n cap)) (ha : ixB a n = false) :
    Calls Tryd.prog 50 #[.int .i64 a, .pointer (some ⟨B, 0, none⟩)] w fun e w' => e = .returned (.bool false) ∧ w' = w := by
  go_enter Tryd.func50, Tryd.ntmps50
  go_wp2_with (go_at_call 35; refine (isIndex_any _ _ _).mono ?_; rintro e w' ⟨rfl, rfl⟩)
  go_ret
  exact ⟨rfl, rfl⟩
theorem may4_yes (i B b o n cap : Nat) (ar lo : Int) (cv : Value) (w : World) (h : w.cell? ⟨B, 0, none⟩ = some (.slice (some ⟨b, o, none⟩) n cap)) (hi : i < n)
    (c0 : w.cell? ⟨b, o + i * 3, none⟩ = some (.int .i64 ar)) (c1 : w.cell? ⟨b, o + i * 3 + 1, none⟩ = some (.int .i64 lo)) (c2 : w.cell? ⟨b, o + i * 3 + 2, none⟩ = some cv) :
    Calls Tryd.prog 50 #[.int .i64 i, .pointer (some ⟨B, 0, none⟩)] w fun e w' => e = .returned (.bool (roomB ar lo)) ∧ Kept w w' := by
  have ha : ixB i n = true := ixB_true (by omega) (by omega)
  go_enter Tryd.func50, Tryd.ntmps50
  go_wp2_with (first | (go_at_call 35; refine (isIndex_any _ _ _).mono ?_; rintro e w' ⟨rfl, rfl⟩) | (go_at_call 36; refine (hasRoom_any _ _ _ _).mono ?_; rintro e w' ⟨rfl, rfl⟩))
  go_ret
  exact ⟨rfl, (Kept.refl _).alloc _⟩
theorem may4_any (p : List Fn) (v : Value) (a : Int) (B : Nat) (w : World) (h : w.cell? ⟨B, 0, none⟩ = some v) (hp : ProgAt w v p) :
    Calls Tryd.prog 50 #[.int .i64 a, .pointer (some ⟨B, 0, none⟩)] w fun e w' => e = .returned (.bool (ixB a p.length && roomB (p.getD a.toNat Fn.zero).args (p.getD a.toNat Fn.zero).locals)) ∧ Kept w w' := by
  obtain ⟨oa, cap, rfl, hl, hi⟩ := hp
  by_cases ha : 0 ≤ a ∧ a < p.length
  · obtain ⟨i, rfl⟩ := Int.eq_ofNat_of_zero_le ha.1
    obtain ⟨b, o, cv, rfl, c0, c1, c2, _⟩ := hi i _ (getD_of_lt p i Fn.zero (by omega))
    rw [Int.toNat_natCast, ixB_true ha.1 ha.2, Bool.true_and]
    exact may4_yes i B b o p.length cap _ _ cv w h (by omega) c0 c1 c2
  · rw [ixB_false ha, Bool.false_and]
    exact (may4_no a B oa p.length cap w h (ixB_false ha)).mono fun e w' ⟨h1, h2⟩ => ⟨h1, h2 ▸ Kept.refl _⟩
def mayV (Bp Bf : Nat) : Value := .agg #[.func (.func 46) #[] #[], .func (.func 47) #[] #[], .func (.func 48) #[] #[.pointer (some ⟨Bf, 0, none⟩)], .func (.func 49) #[] #[.pointer (some ⟨Bf, 0, none⟩)], .func (.func 50) #[] #[.pointer (some ⟨Bp, 0, none⟩)]]
theorem bounds_any (oa : Option Addr) (n cap : Nat) (ar lo : Int) (oc : Option Addr) (m cc : Nat) (w : World) :
    Calls Tryd.prog 37 #[.slice oa n cap, .agg #[.int .i64 ar, .int .i64 lo, .slice oc m cc]] w fun e w' => ∃ Bp Bf, e = .returned (mayV Bp Bf) ∧ w'.cell? ⟨Bp, 0, none⟩ = some (.slice oa n cap) ∧ w'.cell? ⟨Bf, 1, none⟩ = some (.int .i64 lo) ∧ w'.cell? ⟨Bf, 2, none⟩ = some (.slice oc m cc) ∧ Kept w w' := by
  go_enter Tryd.func37, Tryd.ntmps37
  go_wp2
  refine bodyPost_ret (v := mayV w.heap.size (w.heap.size + 1)) (by simp [results, Tryd.results37, go_sem, mayV]) rfl ⟨w.heap.size, w.heap.size + 1, rfl, ?_, ?_, ?_, ?_⟩
  · exact cell_lays (lays_alloc (lays_alloc (lays_new rfl) _) _) 0
  · exact cell_lays (lays_alloc (lays_new (by simp)) _) 1
  · exact cell_lays (lays_alloc (lays_new (by simp)) _) 2
  · exact (((Kept.refl _).alloc _).alloc _).alloc _
end Go.Proofs.YtkepbeeioalmbabDoor
