/-
  Plain functions: a function without the ops to which one never comes (D1), and what holds of it (D2).
  Facts that are kept from the walk.
  The contract of op.Check: it answers what A2 says.
  The contract of op.Effect: it answers what A1 says.
  The contracts of the statements' own o and count: the program with which they begin lies in new memory.
  The contracts of op.Effect and op.Check at told programs; the statements' own count, turned.
-/
import Derived.Test.YtgdcecibfoganacDoorSR09
import Derived.Test.YtgdcecibfoganacDoorSR01
import Derived.Deep.LoopGhost
import Derived.Test.YtgdcecibfoganacDoorChecked

namespace Go.Proofs.YtgdcecibfoganacDoor

/-- How many of the first k ops stay. -/
def placeS (H : List Int) : Nat → Nat
  | 0 => 0
  | k + 1 => if 0 ≤ H.getD k 0 then placeS H k + 1 else placeS H k
/-- What is told of those of the first k that stay. -/
def pick {α : Type} (H : List Int) (f : Nat → α) : Nat → List α
  | 0 => []
  | k + 1 => if 0 ≤ H.getD k 0 then pick H f k ++ [f k] else pick H f k
/-- An op, where it goes then. -/
def moveS (H : List Int) (x : Int × Int) : Int × Int := if x.1 = 9 ∨ x.1 = 10 then (x.1, (placeS H x.2.toNat : Nat)) else x
def trimC (H : List Int) (c : List (Int × Int)) : List (Int × Int) := pick H (fun k => moveS H (c.getD k (0, 0))) H.length
def leftC (H : List Int) : List Int := pick H (fun k => H.getD k 0) H.length

theorem pick_len {α : Type} (H : List Int) (f : Nat → α) : ∀ n, (pick H f n).length = placeS H n
  | 0 => rfl
  | n + 1 => by
    unfold pick placeS
    split
    · simp [pick_len H f n]
    · exact pick_len H f n
theorem placeS_mono (H : List Int) : ∀ {n m : Nat}, n ≤ m → placeS H n ≤ placeS H m
  | n, 0, h => by obtain rfl : n = 0 := by omega
                  exact Nat.le_refl _
  | n, m + 1, h => by
    rcases Nat.lt_or_eq_of_le h with h1 | rfl
    · have := placeS_mono H (n := n) (m := m) (by omega)
      conv => rhs; unfold placeS
      split <;> omega
    · exact Nat.le_refl _
theorem placeS_le (H : List Int) : ∀ n, placeS H n ≤ n
  | 0 => Nat.le_refl _
  | n + 1 => by
    have := placeS_le H n
    unfold placeS
    split <;> omega
theorem placeS_succ {H : List Int} {k : Nat} (h : 0 ≤ H.getD k 0) : placeS H (k + 1) = placeS H k + 1 := by
  conv => lhs; unfold placeS
  rw [if_pos h]
theorem placeS_lt {H : List Int} {k n : Nat} (h : 0 ≤ H.getD k 0) (hk : k < n) : placeS H k < placeS H n := by
  have := placeS_mono H (n := k + 1) (m := n) hk
  rw [placeS_succ h] at this
  omega
theorem placeS_inj {H : List Int} {k j : Nat} (hk : 0 ≤ H.getD k 0) (hj : 0 ≤ H.getD j 0) (h : placeS H k = placeS H j) : k = j := by
  rcases Nat.lt_trichotomy k j with h1 | h1 | h1
  · have := placeS_lt hk h1; omega
  · exact h1
  · have := placeS_lt hj h1; omega
theorem pick_at {α : Type} {H : List Int} (f : Nat → α) {k : Nat} (hs : 0 ≤ H.getD k 0) : ∀ {n : Nat}, k < n → (pick H f n)[placeS H k]? = some (f k)
  | 0, h => by omega
  | n + 1, h => by
    unfold pick
    rcases Nat.lt_or_eq_of_le (Nat.lt_succ_iff.1 h) with h1 | rfl
    · have ih := pick_at f hs h1
      split
      · rw [List.getElem?_append_left (by rw [pick_len]; exact placeS_lt hs h1)]; exact ih
      · exact ih
    · rw [if_pos hs, List.getElem?_append_right (by rw [pick_len]; exact Nat.le_refl _), pick_len]
      simp
theorem place_inv {H : List Int} : ∀ {n i : Nat}, i < placeS H n → ∃ k, k < n ∧ 0 ≤ H.getD k 0 ∧ placeS H k = i
  | 0, i, h => by simp [placeS] at h
  | n + 1, i, h => by
    by_cases hs : 0 ≤ H.getD n 0
    · rw [placeS_succ hs] at h
      by_cases e : i = placeS H n
      · exact ⟨n, by omega, hs, e.symm⟩
      · obtain ⟨k, a, b, c⟩ := place_inv (H := H) (n := n) (i := i) (by omega)
        exact ⟨k, by omega, b, c⟩
    · conv at h => rhs; unfold placeS
      rw [if_neg hs] at h
      obtain ⟨k, a, b, c⟩ := place_inv h
      exact ⟨k, by omega, b, c⟩

/-- Heights that are all there: nothing moves. -/
theorem place_all {H : List Int} (h : ∀ k, k < H.length → 0 ≤ H.getD k 0) : ∀ k, k ≤ H.length → placeS H k = k
  | 0, _ => rfl
  | k + 1, hk => by rw [placeS_succ (h k hk), place_all h k (by omega)]
theorem pick_all {α : Type} {H : List Int} (f : Nat → α) (h : ∀ k, k < H.length → 0 ≤ H.getD k 0) : ∀ n, n ≤ H.length → pick H f n = (List.range n).map f
  | 0, _ => rfl
  | n + 1, hn => by
    unfold pick
    rw [if_pos (h n hn), pick_all f h n (by omega), List.range_succ]
    simp

/-- Two programs whose functions have the same Args and Locals. -/
def Alike (p q : List Fn) : Prop := q.length = p.length ∧ ∀ k, (q.getD k Fn.zero).args = (p.getD k Fn.zero).args ∧ (q.getD k Fn.zero).locals = (p.getD k Fn.zero).locals
theorem Alike.eff {p q : List Fn} (h : Alike p q) (kd a : Int) : effS q kd a = effS p kd a := by
  unfold effS
  rw [h.1, (h.2 a.toNat).1]
theorem Alike.beh {p q : List Fn} (h : Alike p q) (x : Int × Int) (z : Int) : beh q x z = beh p x z := by
  unfold Proofs.YtgdcecibfoganacDoor.beh
  rw [h.eff]

theorem eff_move (p : List Fn) (H : List Int) (x : Int × Int) (hk : 0 ≤ x.1) (hk' : x.1 < 17) : effS p (moveS H x).1 (moveS H x).2 = effS p x.1 x.2 := by
  unfold moveS
  split
  · rename_i h
    have h11 : x.1 ≠ 11 := by omega
    unfold effS
    simp only [hk, hk', h11, and_self, if_true, if_false]
  · rfl
theorem move_kind (H : List Int) (x : Int × Int) : (moveS H x).1 = x.1 := by
  unfold moveS
  split <;> rfl
theorem beh_move (p : List Fn) (H : List Int) (x : Int × Int) (hk : 0 ≤ x.1) (hk' : x.1 < 17) (z : Int) : beh p (moveS H x) z = beh p x z := by
  unfold beh
  rw [eff_move p H x hk hk', move_kind]

/-- A right function's code, trimmed: where one goes then. -/
theorem nexts_move {H : List Int} {k : Nat} (hs : 0 ≤ H.getD k 0) (x : Int × Int) :
    nexts (moveS H x) (placeS H k) = (nexts x k).map (placeS H) := by
  unfold nexts
  rw [move_kind]
  split
  · rfl
  · split
    · rename_i h; simp [moveS, h]
    · split
      · rename_i h; simp [moveS, h, placeS_succ hs]
      · simp [placeS_succ hs]

theorem next_stays {p : List Fn} {c : List (Int × Int)} {H : List Int} (hc : Cons p c H) (hr : Right p c) {k : Nat} (hk : k < c.length) (hs : 0 ≤ H.getD k 0) {x : Int × Int} (hx : c[k]? = some x) {j : Nat} (hj : j ∈ nexts x k) :
    j < c.length ∧ 0 ≤ H.getD j 0 := by
  obtain ⟨x', m, hx', hm, hn⟩ := hc.done k hk (by omega)
  obtain rfl : x = x' := by rw [hx] at hx'; exact Option.some.inj hx'
  obtain ⟨h1, h2⟩ := hn j hj
  exact ⟨h1, by rw [h2]; exact (beh_nonneg hr (List.mem_of_getElem? hx) hm).1⟩

theorem trimC_len (H : List Int) (c : List (Int × Int)) : (trimC H c).length = placeS H H.length := pick_len H _ _
theorem leftC_len (H : List Int) : (leftC H).length = placeS H H.length := pick_len H _ _
theorem trimC_at {p : List Fn} {c : List (Int × Int)} {H : List Int} (hc : Cons p c H) {k : Nat} (hk : k < c.length) (hs : 0 ≤ H.getD k 0) {x : Int × Int} (hx : c[k]? = some x) : (trimC H c)[placeS H k]? = some (moveS H x) := by
  unfold trimC
  rw [pick_at _ hs (by rw [hc.len]; exact hk)]
  simp [List.getD, hx]
theorem leftC_at {p : List Fn} {c : List (Int × Int)} {H : List Int} (hc : Cons p c H) {k : Nat} (hk : k < c.length) (hs : 0 ≤ H.getD k 0) : (leftC H).getD (placeS H k) 0 = H.getD k 0 := by
  unfold leftC
  rw [List.getD_eq_getElem?_getD, pick_at _ hs (by rw [hc.len]; exact hk)]
  rfl

/-- A function, trimmed; a program. -/
def hgtL (p : List Fn) (k : Nat) : List Int := (heightsS p (codeOf p k)).getD []
def trimF (p : List Fn) (k : Nat) : Fn := ⟨(p.getD k Fn.zero).args, (p.getD k Fn.zero).locals, trimC (hgtL p k) (codeOf p k)⟩
def trimP (p : List Fn) : List Fn := (List.range p.length).map (trimF p)

theorem trimP_get {p : List Fn} {k : Nat} (hk : k < p.length) : (trimP p).getD k Fn.zero = trimF p k := by
  simp [trimP, List.getD, hk]
theorem trimP_alike (p : List Fn) : Alike p (trimP p) := by
  refine ⟨by simp [trimP], fun k => ?_⟩
  by_cases hk : k < p.length
  · rw [trimP_get hk]; exact ⟨rfl, rfl⟩
  · simp [List.getD, hk, trimP]

/-- The ops of a trimmed function are right. -/
theorem trim_op {p q : List Fn} (ha : Alike p q) {g g' : Fn} {H : List Int} (hc : Cons p g.code H) (hr : ∀ x, x ∈ g.code → opS p g x = 0) (hl : g'.locals = g.locals) (hg : g'.code = trimC H g.code) {y : Int × Int} (hy : y ∈ g'.code) : opS q g' y = 0 := by
  obtain ⟨i, hi⟩ := List.getElem?_of_mem hy
  have hlt : i < placeS H H.length := by
    rw [← trimC_len H g.code, ← hg]; exact (List.getElem?_eq_some_iff.1 hi).1
  obtain ⟨k, hk, hs, rfl⟩ := place_inv hlt
  rw [hc.len] at hk
  obtain ⟨x, hx⟩ : ∃ x, g.code[k]? = some x := ⟨_, List.getElem?_eq_getElem hk⟩
  rw [hg, trimC_at hc hk hs hx] at hi
  obtain rfl := Option.some.inj hi
  have hop := hr x (List.mem_of_getElem? hx)
  obtain ⟨h0, h17, hm⟩ := opS_kind hop
  have hRt : Right p g.code := ⟨g, rfl, hr⟩
  by_cases hj : x.1 = 9 ∨ x.1 = 10
  · have hmv : moveS H x = (x.1, ((placeS H x.2.toNat : Nat) : Int)) := by unfold moveS; rw [if_pos hj]
    have ho : opd x.1.toNat = 3 := by rcases hj with e | e <;> rw [e] <;> rfl
    rw [ho] at hm
    have hx2 := ixB_iff.1 (show ixB x.2 g.code.length = true from hm)
    have hin : x.2.toNat ∈ nexts x k := by
      unfold nexts
      rcases hj with e | e
      · rw [if_neg (by omega), if_pos e]; simp
      · rw [if_neg (by omega), if_neg (by omega), if_pos e]; simp
    obtain ⟨s1, s2⟩ := next_stays hc hRt hk hs hx hin
    have := placeS_lt s2 (n := H.length) (by rw [hc.len]; exact s1)
    unfold opS
    rw [hmv]
    simp only
    rw [if_pos ⟨h0, h17⟩, ho, if_pos, if_neg (by omega)]
    show ixB ((placeS H x.2.toNat : Nat) : Int) g'.code.length = true
    rw [ixB_iff, hg, trimC_len]
    omega
  · have hmv : moveS H x = x := by unfold moveS; rw [if_neg hj]
    rw [hmv]
    have ho : opd x.1.toNat ≠ 3 := by
      have hn : x.1.toNat ≠ 9 ∧ x.1.toNat ≠ 10 ∧ x.1.toNat < 17 := by omega
      generalize x.1.toNat = n at hn
      have : ∀ m, m < 17 → m ≠ 9 → m ≠ 10 → opd m ≠ 3 := by decide
      exact this n hn.2.2 hn.1 hn.2.1
    unfold opS at hop ⊢
    rw [if_pos ⟨h0, h17⟩] at hop ⊢
    have hmm : mayB q g' (opd x.1.toNat) x.2 = mayB p g (opd x.1.toNat) x.2 := by
      unfold mayB
      rw [if_neg ho, if_neg ho, hl, ha.1, (ha.2 x.2.toNat).1, (ha.2 x.2.toNat).2]
    rw [hmm, (ha.2 x.2.toNat).1]
    exact hop

/-- The heights of a trimmed function are those that are left. -/
theorem trim_cons {p q : List Fn} (ha : Alike p q) {c : List (Int × Int)} {H : List Int} (hc : Cons p c H) (hs : Sound p c H) (hr : Right p c) : Cons q (trimC H c) (leftC H) ∧ Sound q (trimC H c) (leftC H) := by
  have hst : ∀ k, k < c.length → H.getD k 0 ≠ -1 → 0 ≤ H.getD k 0 := fun k hk hn => by
    rcases hs k hk with h | h
    · exact absurd h hn
    · exact h.1
  have h0 : 0 ≤ H.getD 0 0 := by rw [hc.first]; exact Int.le_refl _
  have hkind : ∀ x, x ∈ c → 0 ≤ x.1 ∧ x.1 < 17 := fun x hx => by
    obtain ⟨g, rfl, hg⟩ := hr
    obtain ⟨a, b, _⟩ := opS_kind (hg x hx)
    exact ⟨a, b⟩
  have hinv : ∀ i, i < (trimC H c).length → ∃ k, k < c.length ∧ 0 ≤ H.getD k 0 ∧ placeS H k = i := fun i hi => by
    rw [trimC_len] at hi
    obtain ⟨k, a, b, d⟩ := place_inv hi
    exact ⟨k, by rw [← hc.len]; exact a, b, d⟩
  have hreach : ∀ k z, Reach p c k z → k < c.length ∧ H.getD k 0 = z ∧ 0 ≤ z ∧ Reach q (trimC H c) (placeS H k) z := by
    intro k z r
    refine r (fun k z => k < c.length ∧ H.getD k 0 = z ∧ 0 ≤ z ∧ Reach q (trimC H c) (placeS H k) z) ⟨hc.pos, hc.first, Int.le_refl _, Reach.zero _ _⟩ ?_
    rintro k h x m j ⟨h1, h2, h3, h4⟩ hx hm hj
    obtain ⟨x', m', hx', hm', hn⟩ := hc.done k h1 (by omega)
    obtain rfl : x = x' := by rw [hx] at hx'; exact Option.some.inj hx'
    rw [h2] at hm'
    obtain rfl : m = m' := by rw [hm] at hm'; exact Option.some.inj hm'
    obtain ⟨h5, h6⟩ := hn j hj
    refine ⟨h5, h6, (beh_nonneg hr (List.mem_of_getElem? hx) hm).1, ?_⟩
    refine h4.step (trimC_at hc h1 (by omega) hx) ?_ (m := m) ?_
    · obtain ⟨a, b⟩ := hkind x (List.mem_of_getElem? hx)
      rw [ha.beh, beh_move p H x a b]; exact hm
    · rw [nexts_move (by omega) x]
      exact List.mem_map_of_mem hj
  refine ⟨⟨?_, ?_, ?_, ?_⟩, ?_⟩
  · rw [leftC_len, trimC_len]
  · rw [trimC_len]
    have := placeS_lt h0 (n := H.length) (by rw [hc.len]; exact hc.pos)
    omega
  · have := leftC_at hc hc.pos h0
    rw [show placeS H 0 = 0 from rfl] at this
    rw [this]; exact hc.first
  · intro i hi _
    obtain ⟨k, hk, hks, rfl⟩ := hinv i hi
    obtain ⟨x, m, hx, hm, hn⟩ := hc.done k hk (by omega)
    obtain ⟨a, b⟩ := hkind x (List.mem_of_getElem? hx)
    refine ⟨moveS H x, m, trimC_at hc hk hks hx, ?_, ?_⟩
    · rw [leftC_at hc hk hks, ha.beh, beh_move p H x a b]; exact hm
    · rw [nexts_move hks x]
      intro j hj
      obtain ⟨j', hj', rfl⟩ := List.mem_map.1 hj
      obtain ⟨s1, s2⟩ := next_stays hc hr hk hks hx hj'
      refine ⟨?_, ?_⟩
      · rw [trimC_len]; exact placeS_lt s2 (by rw [hc.len]; exact s1)
      · rw [leftC_at hc s1 s2]; exact (hn j' hj').2
  · intro i hi
    obtain ⟨k, hk, hks, rfl⟩ := hinv i hi
    right
    rw [leftC_at hc hk hks]
    rcases hs k hk with h | ⟨h, hR⟩
    · omega
    · exact ⟨h, (hreach k _ hR).2.2.2⟩

theorem heights_of_cons {p : List Fn} {c : List (Int × Int)} (hr : Right p c) {H : List Int} (a : Cons p c H) (b : Sound p c H) : heightsS p c = some H := by
  obtain ⟨H', h', _⟩ := rounds_all a (c.length + 1) _ (start_mono a).1
  have hh : heightsS p c = some H' := by
    unfold heightsS
    rw [if_neg (by have := a.pos; omega)]
    exact h'
  obtain ⟨a', b'⟩ := heightsS_ok hr hh
  rw [hh, cons_one hr a b a' b']

theorem opsS_of_all {p : List Fn} {g : Fn} : ∀ {c : List (Int × Int)}, (∀ x, x ∈ c → opS p g x = 0) → opsS p g c = 0
  | [], _ => rfl
  | x :: c, h => by
    unfold opsS
    rw [if_pos (h x (by simp))]
    exact opsS_of_all fun y hy => h y (by simp [hy])

theorem progS_heights {p : List Fn} (h : progS p = 0) {k : Nat} (hk : k < p.length) : heightsS p (codeOf p k) = some (hgtL p k) := by
  unfold progS at h
  split at h
  · cases h
  · split at h
    · cases h
    · split at h
      · cases h
      · split at h
        · have := firstS_zero h k (by omega) (by omega)
          unfold hgtE at this
          unfold hgtL
          split at this
          · rename_i H hH; rw [hH]; rfl
          · cases this
        · rename_i h0; exact absurd h h0

theorem firstS_all {e : Nat → Int} : ∀ (n k : Nat), (∀ i, k ≤ i → i < k + n → e i = 0) → firstS e k n = 0
  | 0, _, _ => rfl
  | n + 1, k, h => by
    unfold firstS
    rw [if_pos (h k (Nat.le_refl k) (by omega))]
    exact firstS_all n (k + 1) fun i h1 h2 => h i (by omega) (by omega)

/-- D2: of a right program, trimmed. -/
theorem trim_right {p : List Fn} (h : progS p = 0) : progS (trimP p) = 0 ∧ ∀ k, k < p.length → heightsS (trimP p) (codeOf (trimP p) k) = some (leftC (hgtL p k)) := by
  obtain ⟨hm, hp, hck⟩ := progS_right h
  have ha := trimP_alike p
  have hk : ∀ k, k < p.length → chkS (trimP p) k = 0 ∧ heightsS (trimP p) (codeOf (trimP p) k) = some (leftC (hgtL p k)) := by
    intro k hk
    obtain ⟨i, hi0, hi, hlen, hroom, hops⟩ := chkS_zero (hck k hk)
    obtain rfl : k = i := by omega
    have hh := progS_heights h hk
    have hR : Right p (codeOf p k) := ⟨p.getD k Fn.zero, rfl, opsS_all hops⟩
    obtain ⟨hc, hs⟩ := heightsS_ok hR hh
    have hcode : codeOf (trimP p) k = trimC (hgtL p k) (codeOf p k) := by unfold codeOf; rw [trimP_get hk]; rfl
    have hop' : ∀ y, y ∈ (trimF p k).code → opS (trimP p) (trimF p k) y = 0 := fun y hy => trim_op (g := p.getD k Fn.zero) (g' := trimF p k) ha hc (opsS_all hops) rfl rfl hy
    have hR' : Right (trimP p) (codeOf (trimP p) k) := ⟨trimF p k, hcode.symm, by rw [hcode]; exact hop'⟩
    obtain ⟨a, b⟩ := trim_cons ha hc hs hR
    refine ⟨?_, ?_⟩
    · unfold chkS
      rw [if_pos ⟨by omega, by rw [ha.1]; omega⟩]
      simp only [Int.toNat_natCast]
      rw [trimP_get hk, if_neg, if_pos, opsS_of_all hop']
      · exact hroom
      · show ¬ 24 < (trimC (hgtL p k) (codeOf p k)).length
        rw [trimC_len, hc.len]
        have := placeS_le (hgtL p k) (codeOf p k).length
        have : (codeOf p k).length ≤ 24 := hlen
        omega
    · rw [hcode] at hR' ⊢
      exact heights_of_cons hR' a b
  refine ⟨?_, fun k hk' => (hk k hk').2⟩
  unfold progS
  rw [ha.1, if_neg (by omega), if_neg (by omega), if_neg, if_pos]
  · exact firstS_all _ _ fun i _ hi => by unfold hgtE; rw [(hk i (by omega)).2]
  · exact firstS_all _ _ fun i _ hi => (hk i (by omega)).1
  · rw [(ha.2 0).1]
    intro hn
    unfold progS at h
    rw [if_neg (by omega), if_neg (by omega), if_pos hn] at h
    cases h

theorem left_nonneg {p : List Fn} {c : List (Int × Int)} {H : List Int} (hc : Cons p c H) : ∀ i, i < (leftC H).length → 0 ≤ (leftC H).getD i 0 := by
  intro i hi
  rw [leftC_len] at hi
  obtain ⟨k, a, b, rfl⟩ := place_inv hi
  rw [leftC_at hc (by rw [← hc.len]; exact a) b]
  exact b

/-- Trimmed once more it is the same. -/
theorem trim_again {p : List Fn} (h : progS p = 0) : trimP (trimP p) = trimP p := by
  obtain ⟨_, h2⟩ := trim_right h
  obtain ⟨hm, hp, hck⟩ := progS_right h
  have ha := trimP_alike p
  apply List.ext_getElem (by simp [trimP])
  intro k h1 h3
  have hk : k < p.length := by rw [← ha.1]; exact h3
  have e1 : (trimP (trimP p))[k] = trimF (trimP p) k := by simp [trimP]
  have e2 : (trimP p)[k] = (trimP p).getD k Fn.zero := by simp [List.getD, h3]
  rw [e1, e2]
  obtain ⟨i, hi0, hi, hlen, hroom, hops⟩ := chkS_zero (hck k hk)
  obtain rfl : k = i := by omega
  have hR : Right p (codeOf p k) := ⟨p.getD k Fn.zero, rfl, opsS_all hops⟩
  obtain ⟨hc, hs⟩ := heightsS_ok hR (progS_heights h hk)
  have hl : hgtL (trimP p) k = leftC (hgtL p k) := by unfold hgtL; rw [h2 k hk]; rfl
  have hnn := left_nonneg hc
  unfold trimF
  rw [hl]
  generalize hL : leftC (hgtL p k) = L at *
  have hcl : (codeOf (trimP p) k).length = L.length := by
    rw [← hL, leftC_len]
    unfold codeOf
    rw [trimP_get hk]
    exact trimC_len _ _
  suffices hs : trimC L (codeOf (trimP p) k) = codeOf (trimP p) k by
    rw [hs]
    rfl
  unfold trimC
  rw [pick_all _ hnn _ (Nat.le_refl _)]
  apply List.ext_getElem (by simp [hcl])
  intro i h5 h6
  simp only [List.getElem_map, List.getElem_range]
  have e3 : (codeOf (trimP p) k).getD i (0, 0) = (codeOf (trimP p) k)[i] := by simp [List.getD, h6]
  rw [e3]
  generalize hx : (codeOf (trimP p) k)[i] = x
  unfold moveS
  split
  · rename_i hj
    have hx2 : 0 ≤ x.2 ∧ x.2 < (codeOf (trimP p) k).length := by
      have hmem : x ∈ (trimF p k).code := by
        have : codeOf (trimP p) k = (trimF p k).code := by unfold codeOf; rw [trimP_get hk]
        rw [← this, ← hx]; exact List.getElem_mem _
      have hop := trim_op (g := p.getD k Fn.zero) (g' := trimF p k) ha hc (opsS_all hops) rfl rfl hmem
      obtain ⟨_, _, hm⟩ := opS_kind hop
      have ho : opd x.1.toNat = 3 := by rcases hj with e | e <;> rw [e] <;> rfl
      rw [ho] at hm
      have := ixB_iff.1 (show ixB x.2 (trimF p k).code.length = true from hm)
      have e : (codeOf (trimP p) k).length = (trimF p k).code.length := by unfold codeOf; rw [trimP_get hk]
      omega
    rw [place_all hnn _ (by omega)]
    apply Prod.ext
    · rfl
    · simp only; omega
  · rfl
end Go.Proofs.YtgdcecibfoganacDoor

namespace Go.Proofs.YtgdcecibfoganacDoor
open Go.RowKit
end Go.Proofs.YtgdcecibfoganacDoor

namespace Go.Proofs.YtgdcecibfoganacDoor
open Go.RowKit

set_option maxHeartbeats 400000 in
theorem check_none (f : Int) (oa : Option Addr) (n cap : Nat) (w : World) (h : ixB f n = false) :
    Calls Tryd.prog 32 #[.slice oa n cap, .int .i64 f] w fun e w' => e = .returned (.int .i64 5) ∧ Kept w w' := by
  go_enter Tryd.func32, Tryd.ntmps32
  go_wp2_with (go_at_call 24; refine (isIndex_any _ _ _).mono ?_; rintro e w' ⟨rfl, rfl⟩)
  go_ret
  exact ⟨rfl, Kept.refl _⟩

set_option maxHeartbeats 400000 in
theorem check_many (i b o n cap : Nat) (oc : Option Addr) (m cc : Nat) (w : World) (hi : i < n) (c2 : w.cell? ⟨b, o + i * 3 + 2, none⟩ = some (.slice oc m cc)) (hm : 24 < (m : Int)) :
    Calls Tryd.prog 32 #[.slice (some ⟨b, o, none⟩) n cap, .int .i64 i] w fun e w' => e = .returned (.int .i64 2) ∧ Kept w w' := by
  have h : ixB i n = true := ixB_true (by omega) (by omega)
  go_enter Tryd.func32, Tryd.ntmps32
  go_wp2_with (go_at_call 24; refine (isIndex_any _ _ _).mono ?_; rintro e w' ⟨rfl, rfl⟩)
  go_ret
  exact ⟨rfl, Kept.refl _⟩

set_option maxHeartbeats 400000 in
theorem check_range (i b o n cap : Nat) (ar lo : Int) (oc : Option Addr) (m cc : Nat) (w : World) (hi : i < n) (c0 : w.cell? ⟨b, o + i * 3, none⟩ = some (.int .i64 ar)) (c1 : w.cell? ⟨b, o + i * 3 + 1, none⟩ = some (.int .i64 lo))
    (c2 : w.cell? ⟨b, o + i * 3 + 2, none⟩ = some (.slice oc m cc)) (hm : ¬ 24 < (m : Int)) (hr : roomB ar lo = false) :
    Calls Tryd.prog 32 #[.slice (some ⟨b, o, none⟩) n cap, .int .i64 i] w fun e w' => e = .returned (.int .i64 3) ∧ Kept w w' := by
  have h : ixB i n = true := ixB_true (by omega) (by omega)
  go_enter Tryd.func32, Tryd.ntmps32
  go_wp2_with (first | (go_at_call 24; refine (isIndex_any _ _ _).mono ?_; rintro e w' ⟨rfl, rfl⟩) | (go_at_call 47; refine (hasRoom_any _ _ _ _).mono ?_; rintro e w' ⟨rfl, rfl⟩))
  go_ret
  exact ⟨rfl, (Kept.refl _).alloc _⟩

theorem opsS_step {p : List Fn} {f : Fn} {c : List (Int × Int)} {k : Nat} {x : Int × Int} (h : c[k]? = some x) : opsS p f (c.drop k) = if opS p f x = 0 then opsS p f (c.drop (k + 1)) else opS p f x := by
  have hk : k < c.length := (List.getElem?_eq_some_iff.1 h).1
  have hx : c[k] = x := (List.getElem?_eq_some_iff.1 h).2
  rw [List.drop_eq_getElem_cons hk, hx]
  rfl

set_option maxHeartbeats 2000000 in
theorem check_ops (p : List Fn) (f : Fn) (i b o cap : Nat) (oc : Option Addr) (m cc : Nat) (w : World) (hk : KindsAt w) (hp : ProgAt w (.slice (some ⟨b, o, none⟩) p.length cap) p) (hi : i < p.length)
    (c0 : w.cell? ⟨b, o + i * 3, none⟩ = some (.int .i64 f.args)) (c1 : w.cell? ⟨b, o + i * 3 + 1, none⟩ = some (.int .i64 f.locals))
    (c2 : w.cell? ⟨b, o + i * 3 + 2, none⟩ = some (.slice oc m cc)) (hc : CodeAt w (.slice oc m cc) f.code) (hml : m = f.code.length) (hm : m ≤ 24) (hr : roomB f.args f.locals = true) :
    Calls Tryd.prog 32 #[.slice (some ⟨b, o, none⟩) p.length cap, .int .i64 i] w fun e w' => e = .returned (.int .i64 (opsS p f f.code)) ∧ Kept w w' := by
  have h : ixB i p.length = true := ixB_true (by omega) (by omega)
  have hm' : ¬ 24 < (m : Int) := by omega
  have HP : Hid (ProgAt w (.slice (some ⟨b, o, none⟩) p.length cap) p) := hp
  have HK : Hid (KindsAt w) := hk
  have HC : Hid (CodeAt w (.slice oc m cc) f.code) := hc
  have HL : Hid (m = f.code.length) := hml
  clear hp hk hc hml
  have d0 : (w.alloc (.cells #[.int .i64 f.args, .int .i64 f.locals, .slice oc m cc] 38)).cell? ⟨b, o + i * 3, none⟩ = some (.int .i64 f.args) := ((Kept.refl w).alloc _).cell c0
  have d1 : (w.alloc (.cells #[.int .i64 f.args, .int .i64 f.locals, .slice oc m cc] 38)).cell? ⟨b, o + i * 3 + 1, none⟩ = some (.int .i64 f.locals) := ((Kept.refl w).alloc _).cell c1
  have d2 : (w.alloc (.cells #[.int .i64 f.args, .int .i64 f.locals, .slice oc m cc] 38)).cell? ⟨b, o + i * 3 + 2, none⟩ = some (.slice oc m cc) := ((Kept.refl w).alloc _).cell c2
  go_enter Tryd.func32, Tryd.ntmps32
  go_wp2_with (first | (go_at_call 24; refine (isIndex_any _ _ _).mono ?_; rintro e w' ⟨rfl, rfl⟩) | (go_at_call 47; refine (hasRoom_any _ _ _ _).mono ?_; rintro e w' ⟨rfl, rfl⟩))
  refine (bounds_any _ _ _ _ _ _ _ _ _).mono ?_
  rintro e w1 ⟨Bp, Bf, he, hbp, hbl, hbc, hbk⟩
  unfold mayV at he
  subst he
  have g2 : ∀ o1, (w1.alloc o1).cell? ⟨b, o + i * 3 + 2, none⟩ = some (.slice oc m cc) := fun o1 => ((Kept.refl w1).alloc _).cell (hbk.cell d2)
  have HB : Hid (Kept w w1) := Kept.trans ((Kept.refl w).alloc _) hbk
  have HM : Hid (MayAt w1 p f (.slice (some ⟨b, o, none⟩) p.length cap) Bp Bf) := ⟨HP.out.kept HB.out, hbp, hbl, ⟨oc, cc, by rw [← HL.out]; exact hbc⟩⟩
  clear d0 d1 d2 hbp hbl hbc hbk c0 c1 c2
  go_wp2
  generalize hW0 : w1.alloc (.cells #[.func (.func 62) #[] #[], .func (.func 63) #[] #[], .func (.func 64) #[] #[.pointer (some ⟨Bf, 0, none⟩)], .func (.func 65) #[] #[.pointer (some ⟨Bf, 0, none⟩)], .func (.func 66) #[] #[.pointer (some ⟨Bp, 0, none⟩)]] 86) = W0
  have HW : Hid (∀ u, Kept W0 u → ∀ j v, (#[Value.func (.func 62) #[] #[], .func (.func 63) #[] #[], .func (.func 64) #[] #[.pointer (some ⟨Bf, 0, none⟩)], .func (.func 65) #[] #[.pointer (some ⟨Bf, 0, none⟩)], .func (.func 66) #[] #[.pointer (some ⟨Bp, 0, none⟩)]])[j]? = some v → u.cell? ⟨w1.heap.size, j, none⟩ = some v) := by
    intro u hu j v hv
    refine hu.cell ?_
    rw [← hW0]
    exact (cell_lays (lays_new rfl) j).trans hv
  have H0 : Hid (Kept w1 W0) := by rw [← hW0]; exact (Kept.refl _).alloc _
  clear hW0 g2
  go_loopw [39] (fun i wr => ∃ k : Nat, k ≤ m ∧ i = .int .i64 k ∧ Hid (opsS p f (f.code.drop k) = opsS p f f.code) ∧ Hid (Kept W0 wr)) (fun i _ => m - (intOf i).toNat)
  case atStart => exact ⟨0, Nat.zero_le _, rfl, rfl, Kept.refl _⟩
  case round =>
    obtain ⟨k, hkm, rfl, HO, HKW⟩ := hrel
    by_cases hlt : k < m
    · obtain ⟨x, hx⟩ : ∃ x, f.code[k]? = some x := ⟨f.code[k]'(by rw [← HL.out]; exact hlt), List.getElem?_eq_getElem _⟩
      have hKr : Kept w wr := HB.out.trans (H0.out.trans HKW.out)
      obtain ⟨oa', cap', he, _, hcell⟩ := HC.out.kept hKr
      obtain ⟨b', o', rfl, x0, x1⟩ := hcell k x hx
      obtain ⟨rfl, -, -⟩ := (by simpa using he : oc = some ⟨b', o', none⟩ ∧ m = f.code.length ∧ cc = cap')
      have HX : Hid (f.code[k]? = some x) := hx
      have HKr : Hid (Kept w wr) := hKr
      have e0 := HW.out _ (HKW.out.alloc (.cells #[.int .i64 x.1, .int .i64 x.2] 42)) 0 _ rfl
      have e1 := HW.out _ (HKW.out.alloc (.cells #[.int .i64 x.1, .int .i64 x.2] 42)) 1 _ rfl
      have e2 := HW.out _ (HKW.out.alloc (.cells #[.int .i64 x.1, .int .i64 x.2] 42)) 2 _ rfl
      have e3 := HW.out _ (HKW.out.alloc (.cells #[.int .i64 x.1, .int .i64 x.2] 42)) 3 _ rfl
      have e4 := HW.out _ (HKW.out.alloc (.cells #[.int .i64 x.1, .int .i64 x.2] 42)) 4 _ rfl
      clear hcell he hx hKr
      have hck := checkOp_any p f (.slice (some ⟨b, o, none⟩) p.length cap) x.1 x.2 Bp Bf (wr.alloc (.cells #[.int .i64 x.1, .int .i64 x.2] 42)) (HK.out.kept (HKr.out.alloc _)) (HM.out.kept ((H0.out.trans HKW.out).alloc _))
      unfold mayV at hck
      have HCK := hide hck
      clear hck
      have hst := opsS_step (p := p) (f := f) HX.out
      go_wp2_with fail
      refine (unhide HCK).mono ?_
      clear HCK
      rintro e w2 ⟨he, hk2⟩
      by_cases hz : opS p f x = 0
      · rw [if_pos hz] at hst
        rw [show opS p f (x.1, x.2) = 0 from hz] at he
        subst he
        have HST := hide hst
        have HK2 : Hid (Kept W0 w2) := Kept.trans (HKW.out.alloc _) hk2
        clear hst hz hk2
        go_wp2
        go_roundw
        case rel => exact ⟨k + 1, by omega, by go_num, (unhide HST).symm.trans HO.out, HK2⟩
        case measure => simp [intOf]; omega
      · rw [if_neg hz] at hst
        have hz' : (opS p f (x.1, x.2) != 0) = true := by rw [bne_iff_ne]; exact hz
        have HST := hide hst
        have HK2 : Hid (Kept w w2) := Kept.trans (HKr.out.alloc _) hk2
        clear hst hz hk2
        subst he
        go_wp2
        go_ret
        exact ⟨by rw [← HO.out, unhide HST]; rfl, HK2⟩
    · have hke : k = f.code.length := by have := HL.out; omega
      have HE := hide hke
      clear hke
      go_wp2
      go_ret
      refine ⟨?_, HB.out.trans (H0.out.trans HKW.out)⟩
      rw [← HO.out, unhide HE, List.drop_length]
      rfl

/-- op.Check answers what A2 says. -/
theorem check_any (p : List Fn) (v : Value) (f : Int) (w : World) (hp : ProgAt w v p) (hk : KindsAt w) :
    Calls Tryd.prog 32 #[v, .int .i64 f] w fun e w' => e = .returned (.int .i64 (chkS p f)) ∧ Kept w w' := by
  have hp0 := hp
  obtain ⟨oa, cap, rfl, hl, hi⟩ := hp
  unfold chkS
  by_cases h : 0 ≤ f ∧ f < p.length
  · rw [if_pos h]
    obtain ⟨i, rfl⟩ := Int.eq_ofNat_of_zero_le h.1
    obtain ⟨b, o, cv, rfl, c0, c1, c2, hc⟩ := hi i _ (getD_of_lt p i Fn.zero (by omega))
    have hc0 := hc
    obtain ⟨oc, cc, rfl, _, _⟩ := hc
    rw [Int.toNat_natCast]
    generalize p.getD i Fn.zero = g at *
    by_cases hm : 24 < g.code.length
    · simp only [if_pos hm]
      exact check_many i b o p.length cap oc _ cc w (by omega) c2 (by omega)
    · simp only [if_neg hm]
      cases hr : roomB g.args g.locals with
      | false =>
        rw [if_neg (by decide)]
        exact check_range i b o p.length cap _ _ oc _ cc w (by omega) c0 c1 c2 (by omega) hr
      | true =>
        rw [if_pos rfl]
        exact check_ops p g i b o cap oc _ cc w hk hp0 (by omega) c0 c1 c2 hc0 rfl (by omega) hr
  · rw [if_neg h]
    exact check_none f oa p.length cap w (ixB_false h)
end Go.Proofs.YtgdcecibfoganacDoor

namespace Go.Proofs.YtgdcecibfoganacDoor
open Go.RowKit

set_option maxHeartbeats 400000 in
theorem effect_bad (kd a : Int) (v : Value) (w : World) (h : ixB kd 17 = false) :
    Calls Tryd.prog 9 #[v, .agg #[.int .i64 kd, .int .i64 a]] w fun e w' => e = .returned (.tuple #[.int .i64 0, .int .i64 0, .int .i64 4]) ∧ Kept w w' := by
  go_enter Tryd.func9, Tryd.ntmps9
  go_wp2_with (go_at_call 24; refine (isIndex_any _ _ _).mono ?_; rintro e w' ⟨rfl, rfl⟩)
  go_ret3
  exact ⟨rfl, (Kept.refl _).alloc _⟩

set_option maxHeartbeats 400000 in
theorem effect_plain (k : Nat) (a : Int) (v : Value) (w : World) (hk : KindsAt w) (h : ixB k 17 = true) (hn : ((k : Int) != 11) = true) :
    Calls Tryd.prog 9 #[v, .agg #[.int .i64 k, .int .i64 a]] w fun e w' => e = .returned (.tuple #[.int .i64 (tk k), .int .i64 (lv k), .int .i64 0]) ∧ Kept w w' := by
  have hb : k < 17 := by rw [ixB_iff] at h; omega
  have c0 : (w.alloc (.cells #[.int .i64 k, .int .i64 a] 42)).cell? ⟨0, k * 3, none⟩ = some (.int .i64 (tk k)) := (Kept.alloc (Kept.refl w) _).cell (hk (k * 3) (by omega))
  have c1 : (w.alloc (.cells #[.int .i64 k, .int .i64 a] 42)).cell? ⟨0, k * 3 + 1, none⟩ = some (.int .i64 (lv k)) := (Kept.alloc (Kept.refl w) _).cell (hk (k * 3 + 1) (by omega))
  have c2 : (w.alloc (.cells #[.int .i64 k, .int .i64 a] 42)).cell? ⟨0, k * 3 + 2, none⟩ = some (.int .i64 (opd k)) := (Kept.alloc (Kept.refl w) _).cell (hk (k * 3 + 2) (by omega))
  clear hk
  go_enter Tryd.func9, Tryd.ntmps9
  go_wp2_with (go_at_call 24; refine (isIndex_any _ _ _).mono ?_; rintro e w' ⟨rfl, rfl⟩)
  go_quiet (fail)
  go_wp2
  go_ret3
  exact ⟨rfl, (((Kept.refl _).alloc _).alloc _).drewN _⟩

set_option maxHeartbeats 400000 in
theorem effect_none (a : Int) (oa : Option Addr) (n cap : Nat) (w : World) (hk : KindsAt w) (ha : ixB a n = false) :
    Calls Tryd.prog 9 #[.slice oa n cap, .agg #[.int .i64 11, .int .i64 a]] w fun e w' => e = .returned (.tuple #[.int .i64 0, .int .i64 0, .int .i64 5]) ∧ Kept w w' := by
  have h : ixB 11 17 = true := rfl
  have c0 : (w.alloc (.cells #[.int .i64 11, .int .i64 a] 42)).cell? ⟨0, 33, none⟩ = some (.int .i64 (tk 11)) := (Kept.alloc (Kept.refl w) _).cell (hk 33 (by omega))
  have c1 : (w.alloc (.cells #[.int .i64 11, .int .i64 a] 42)).cell? ⟨0, 34, none⟩ = some (.int .i64 (lv 11)) := (Kept.alloc (Kept.refl w) _).cell (hk 34 (by omega))
  have c2 : (w.alloc (.cells #[.int .i64 11, .int .i64 a] 42)).cell? ⟨0, 35, none⟩ = some (.int .i64 (opd 11)) := (Kept.alloc (Kept.refl w) _).cell (hk 35 (by omega))
  clear hk
  go_enter Tryd.func9, Tryd.ntmps9
  go_wp2_with (go_at_call 24; refine (isIndex_any _ _ _).mono ?_; rintro e w' ⟨rfl, rfl⟩)
  go_ret3
  exact ⟨rfl, (((Kept.refl _).alloc _).alloc _)⟩

set_option maxHeartbeats 400000 in
theorem effect_call (i b o n cap : Nat) (r : Int) (w : World) (hk : KindsAt w) (hi : i < n) (hc : w.cell? ⟨b, o + i * 3, none⟩ = some (.int .i64 r)) :
    Calls Tryd.prog 9 #[.slice (some ⟨b, o, none⟩) n cap, .agg #[.int .i64 11, .int .i64 i]] w fun e w' => e = .returned (.tuple #[.int .i64 r, .int .i64 1, .int .i64 0]) ∧ Kept w w' := by
  have h : ixB 11 17 = true := rfl
  have ha : ixB i n = true := ixB_true (by omega) (by omega)
  have c0 : (w.alloc (.cells #[.int .i64 11, .int .i64 i] 42)).cell? ⟨0, 33, none⟩ = some (.int .i64 0) := (Kept.alloc (Kept.refl w) _).cell (hk 33 (by omega))
  have c1 : (w.alloc (.cells #[.int .i64 11, .int .i64 i] 42)).cell? ⟨0, 34, none⟩ = some (.int .i64 1) := (Kept.alloc (Kept.refl w) _).cell (hk 34 (by omega))
  have c2 : (w.alloc (.cells #[.int .i64 11, .int .i64 i] 42)).cell? ⟨0, 35, none⟩ = some (.int .i64 4) := (Kept.alloc (Kept.refl w) _).cell (hk 35 (by omega))
  have c3 : ((w.alloc (.cells #[.int .i64 11, .int .i64 i] 42)).alloc (.cells #[.int .i64 0, .int .i64 1, .int .i64 4] 61)).cell? ⟨b, o + i * 3, none⟩ = some (.int .i64 r) := (((Kept.refl w).alloc _).alloc _).cell hc
  clear hk hc
  go_enter Tryd.func9, Tryd.ntmps9
  go_wp2_with (go_at_call 24; refine (isIndex_any _ _ _).mono ?_; rintro e w' ⟨rfl, rfl⟩)
  go_quiet (fail)
  go_wp2
  go_ret3
  exact ⟨rfl, (((Kept.refl _).alloc _).alloc _).drewN _⟩

/-- op.Effect answers what A1 says. -/
theorem effect_any (p : List Fn) (v : Value) (kd a : Int) (w : World) (hp : ProgAt w v p) (hk : KindsAt w) :
    Calls Tryd.prog 9 #[v, .agg #[.int .i64 kd, .int .i64 a]] w fun e w' => e = .returned (.tuple #[.int .i64 (effS p kd a).1, .int .i64 (effS p kd a).2.1, .int .i64 (effS p kd a).2.2]) ∧ Kept w w' := by
  unfold effS
  by_cases h : 0 ≤ kd ∧ kd < 17
  · rw [if_pos h]
    by_cases h11 : kd = 11
    · rw [if_pos h11]
      subst h11
      obtain ⟨oa, cap, rfl, hl, hi⟩ := hp
      by_cases ha : 0 ≤ a ∧ a < p.length
      · rw [if_pos ha]
        obtain ⟨i, rfl⟩ := Int.eq_ofNat_of_zero_le ha.1
        obtain ⟨b, o, cv, rfl, c0, _⟩ := hi i _ (getD_of_lt p i Fn.zero (by omega))
        rw [Int.toNat_natCast]
        exact effect_call i b o p.length cap _ w hk (by omega) c0
      · rw [if_neg ha]
        exact effect_none a oa p.length cap w hk (ixB_false ha)
    · rw [if_neg h11]
      obtain ⟨k, rfl⟩ := Int.eq_ofNat_of_zero_le h.1
      rw [Int.toNat_natCast]
      exact effect_plain k a v w hk (ixB_true h.1 h.2) (by rw [bne_iff_ne]; exact h11)
  · rw [if_neg h]
    exact effect_bad kd a v w (ixB_false h)

end Go.Proofs.YtgdcecibfoganacDoor

namespace Go.Proofs.YtgdcecibfoganacDoor
open Go.RowKit

set_option maxHeartbeats 400000 in
theorem o_any (k a : Int) (w : World) :
    Calls Tryd.prog 40 #[.int .i64 k, .int .i64 a] w fun e w' => e = .returned (.agg #[.int .i64 k, .int .i64 a]) ∧ w' = w.alloc (.cells #[.int .i64 k, .int .i64 a] 42) := by
  go_enter Tryd.func40, Tryd.ntmps40
  go_wp2
  exact bodyPost_ret (v := .agg #[.int .i64 k, .int .i64 a]) (by simp [results, Tryd.results40, go_sem]) rfl ⟨rfl, rfl⟩

set_option maxHeartbeats 4000000 in
theorem count_any (w : World) :
    Calls Tryd.prog 20 #[] w fun e w' => ∃ v, e = .returned v ∧ CountAt w.heap.size w' v ∧ Kept w w' := by
  go_enter Tryd.func20, Tryd.ntmps20
  go_wp2_with (go_at_call 40; refine (o_any _ _ _).mono ?_; rintro e w' ⟨rfl, rfl⟩)
  go_ret
  refine ⟨_, rfl, ⟨w.heap.size + 14, w.heap.size + 27, w.heap.size + 32, w.heap.size + 33, by omega, by omega, by omega, by omega, rfl, ?_, ?_, ?_, ?_⟩, ?_⟩
  · repeat (first | exact lays_new (by simp) | refine lays_alloc ?_ _)
  · repeat (first | exact lays_new (by simp) | refine lays_alloc ?_ _)
  · repeat (first | exact lays_new (by simp) | refine lays_alloc ?_ _)
  · repeat (first | exact lays_new (by simp) | refine lays_alloc ?_ _)
  · repeat (refine Kept.alloc ?_ _)
    exact Kept.refl _
end Go.Proofs.YtgdcecibfoganacDoor

namespace Go.Proofs.YtgdcecibfoganacDoor
open Go.RowKit

theorem effect_is (p : List Fn) (v : Value) (kd a r1 r2 r3 : Int) (w : World) (hp : ProgAt w v p) (hk : KindsAt w) (h : effS p kd a = (r1, r2, r3)) :
    Calls Tryd.prog 9 #[v, .agg #[.int .i64 kd, .int .i64 a]] w fun e w' => e = .returned (.tuple #[.int .i64 r1, .int .i64 r2, .int .i64 r3]) ∧ Kept w w' := by
  have := effect_any p v kd a w hp hk
  rw [h] at this
  exact this
theorem check_is (p : List Fn) (v : Value) (f r : Int) (w : World) (hp : ProgAt w v p) (hk : KindsAt w) (h : chkS p f = r) :
    Calls Tryd.prog 32 #[v, .int .i64 f] w fun e w' => e = .returned (.int .i64 r) ∧ Kept w w' := by
  have := check_any p v f w hp hk
  rw [h] at this
  exact this

theorem nilProg (w : World) : ProgAt w (.slice none 0 0) [] := ⟨none, 0, rfl, by simp, fun i f h => by simp at h⟩

def cntX : List Fn := [⟨0, 1, (13, 2) :: cnt0.tail⟩, ⟨1, 1, cnt1⟩, ⟨2, 2, cnt2⟩]
theorem CountAt.kept {n0 : Nat} {w w' : World} {v : Value} (h : CountAt n0 w v) (k : Kept w w') : CountAt n0 w' v := by
  obtain ⟨b0, b1, b2, b, h1, h2, h3, h4, rfl, g0, g1, g2, g3⟩ := h
  exact ⟨b0, b1, b2, b, h1, h2, h3, h4, rfl, lays_kept k g0, lays_kept k g1, lays_kept k g2, lays_kept k g3⟩

/-- What the store 'x[0].Code[0].A = 2' finds and leaves. -/
theorem CountAt.opened {n0 : Nat} {w : World} {v : Value} (h : CountAt n0 w v) : ∃ b b0, n0 ≤ b0 ∧ v = .slice (some ⟨b, 0, none⟩) 3 3 ∧ w.cell? ⟨b, 2, none⟩ = some (.slice (some ⟨b0, 0, none⟩) 14 14) ∧
    w.cell? ⟨b0, 1, none⟩ = some (.int .i64 1) ∧ w.frozen? ⟨b0, 1, none⟩ = false ∧ ProgAt (w.setCell ⟨b0, 1, none⟩ (.int .i64 2)) (.slice (some ⟨b, 0, none⟩) 3 3) cntX := by
  obtain ⟨b0, b1, b2, b, h1, h2, h3, h4, rfl, g0, g1, g2, g3⟩ := h
  refine ⟨b, b0, h1, rfl, cell_lays g3 2, cell_lays g0 1, frozen_lays g0 1, ?_⟩
  refine progAt_block (lays_other g3 (by simp; omega) _) [(⟨0, 1, (13, 2) :: cnt0.tail⟩, .slice (some ⟨b0, 0, none⟩) 14 14), (⟨1, 1, cnt1⟩, .slice (some ⟨b1, 0, none⟩) 12 12), (⟨2, 2, cnt2⟩, .slice (some ⟨b2, 0, none⟩) 4 4)] rfl (by simp) ?_ 3 3 rfl cntX rfl
  intro x hx
  simp only [List.mem_cons, List.not_mem_nil, or_false] at hx
  rcases hx with rfl | rfl | rfl
  · exact codeAt_block (lays_set g0 1 _) ((13, 2) :: cnt0.tail) rfl (by decide) 14 14 rfl
  · exact codeAt_block (lays_other g1 (by simp; omega) _) cnt1 rfl (by decide) 12 12 rfl
  · exact codeAt_block (lays_other g2 (by simp; omega) _) cnt2 rfl (by decide) 4 4 rfl

end Go.Proofs.YtgdcecibfoganacDoor
