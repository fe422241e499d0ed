/-
  Plain functions: a function without the ops to which one never comes (D1), and what holds of it (D2).
-/
import Derived.Test.YtkepbeeioalmbabDoorProgT
namespace Go.Proofs.YtkepbeeioalmbabDoor

/-- How many of the first k ops stay. -/
def placeS (H : List Int) : Nat → Nat
  | 0 => 0
  | k + 1 => if 0 ≤ H.getD k 0 then placeS H k + 1 else placeS H k
/-- What is told of those of the first k that stay. -/
def pick {α : Type} (H : List Int) (f : Nat → α) : Nat → List α
  | 0 => []
  | k + 1 => if 0 ≤ H.getD k 0 then pick H f k ++ [f k] else pick H f k
/-- An op, where it goes then. -/
def moveS (H : List Int) (x : Int × Int) : Int × Int := if x.1 = 9 ∨ x.1 = 10 then (x.1, (placeS H x.2.toNat : Nat)) else x
def trimC (H : List Int) (c : List (Int × Int)) : List (Int × Int) := pick H (fun k => moveS H (c.getD k (0, 0))) H.length
def leftC (H : List Int) : List Int := pick H (fun k => H.getD k 0) H.length

theorem pick_len {α : Type} (H : List Int) (f : Nat → α) : ∀ n, (pick H f n).length = placeS H n
  | 0 => rfl
  | n + 1 => by
    unfold pick placeS
    split
    · simp [pick_len H f n]
    · exact pick_len H f n
theorem placeS_mono (H : List Int) : ∀ {n m : Nat}, n ≤ m → placeS H n ≤ placeS H m
  | n, 0, h => by obtain rfl : n = 0 := by omega
                  exact Nat.le_refl _
  | n, m + 1, h => by
    rcases Nat.lt_or_eq_of_le h with h1 | rfl
    · have := placeS_mono H (n := n) (m := m) (by omega)
      conv => rhs; unfold placeS
      split <;> omega
    · exact Nat.le_refl _
theorem placeS_le (H : List Int) : ∀ n, placeS H n ≤ n
  | 0 => Nat.le_refl _
  | n + 1 => by
    have := placeS_le H n
    unfold placeS
    split <;> omega
theorem placeS_succ {H : List Int} {k : Nat} (h : 0 ≤ H.getD k 0) : placeS H (k + 1) = placeS H k + 1 := by
  conv => lhs; unfold placeS
  rw [if_pos h]
theorem placeS_lt {H : List Int} {k n : Nat} (h : 0 ≤ H.getD k 0) (hk : k < n) : placeS H k < placeS H n := by
  have := placeS_mono H (n := k + 1) (m := n) hk
  rw [placeS_succ h] at this
  omega
theorem placeS_inj {H : List Int} {k j : Nat} (hk : 0 ≤ H.getD k 0) (hj : 0 ≤ H.getD j 0) (h : placeS H k = placeS H j) : k = j := by
  rcases Nat.lt_trichotomy k j with h1 | h1 | h1
  · have := placeS_lt hk h1; omega
  · exact h1
  · have := placeS_lt hj h1; omega
theorem pick_at {α : Type} {H : List Int} (f : Nat → α) {k : Nat} (hs : 0 ≤ H.getD k 0) : ∀ {n : Nat}, k < n → (pick H f n)[placeS H k]? = some (f k)
  | 0, h => by omega
  | n + 1, h => by
    unfold pick
    rcases Nat.lt_or_eq_of_le (Nat.lt_succ_iff.1 h) with h1 | rfl
    · have ih := pick_at f hs h1
      split
      · rw [List.getElem?_append_left (by rw [pick_len]; exact placeS_lt hs h1)]; exact ih
      · exact ih
    · rw [if_pos hs, List.getElem?_append_right (by rw [pick_len]; exact Nat.le_refl _), pick_len]
      simp
theorem place_inv {H : List Int} : ∀ {n i : Nat}, i < placeS H n → ∃ k, k < n ∧ 0 ≤ H.getD k 0 ∧ placeS H k = i
  | 0, i, h => by simp [placeS] at h
  | n + 1, i, h => by
    by_cases hs : 0 ≤ H.getD n 0
    · rw [placeS_succ hs] at h
      by_cases e : i = placeS H n
      · exact ⟨n, by omega, hs, e.symm⟩
      · obtain ⟨k, a, b, c⟩ := place_inv (H := H) (n := n) (i := i) (by omega)
        exact ⟨k, by omega, b, c⟩
    · conv at h => rhs; unfold placeS
      rw [if_neg hs] at h
      obtain ⟨k, a, b, c⟩ := place_inv h
      exact ⟨k, by omega, b, c⟩

/-- Heights that are all there: nothing moves. -/
theorem place_all {H : List Int} (h : ∀ k, k < H.length → 0 ≤ H.getD k 0) : ∀ k, k ≤ H.length → placeS H k = k
  | 0, _ => rfl
  | k + 1, hk => by rw [placeS_succ (h k hk), place_all h k (by omega)]
theorem pick_all {α : Type} {H : List Int} (f : Nat → α) (h : ∀ k, k < H.length → 0 ≤ H.getD k 0) : ∀ n, n ≤ H.length → pick H f n = (List.range n).map f
  | 0, _ => rfl
  | n + 1, hn => by
    unfold pick
    rw [if_pos (h n hn), pick_all f h n (by omega), List.range_succ]
    simp

/-- Two programs whose functions have the same Args and Locals. -/
def Alike (p q : List Fn) : Prop := q.length = p.length ∧ ∀ k, (q.getD k Fn.zero).args = (p.getD k Fn.zero).args ∧ (q.getD k Fn.zero).locals = (p.getD k Fn.zero).locals
theorem Alike.eff {p q : List Fn} (h : Alike p q) (kd a : Int) : effS q kd a = effS p kd a := by
  unfold effS
  rw [h.1, (h.2 a.toNat).1]
theorem Alike.beh {p q : List Fn} (h : Alike p q) (x : Int × Int) (z : Int) : beh q x z = beh p x z := by
  unfold Proofs.YtkepbeeioalmbabDoor.beh
  rw [h.eff]

theorem eff_move (p : List Fn) (H : List Int) (x : Int × Int) (hk : 0 ≤ x.1) (hk' : x.1 < 17) : effS p (moveS H x).1 (moveS H x).2 = effS p x.1 x.2 := by
  unfold moveS
  split
  · rename_i h
    have h11 : x.1 ≠ 11 := by omega
    unfold effS
    simp only [hk, hk', h11, and_self, if_true, if_false]
  · rfl
theorem move_kind (H : List Int) (x : Int × Int) : (moveS H x).1 = x.1 := by
  unfold moveS
  split <;> rfl
theorem beh_move (p : List Fn) (H : List Int) (x : Int × Int) (hk : 0 ≤ x.1) (hk' : x.1 < 17) (z : Int) : beh p (moveS H x) z = beh p x z := by
  unfold beh
  rw [eff_move p H x hk hk', move_kind]

/-- A right function's code, trimmed: where one goes then. -/
theorem nexts_move {H : List Int} {k : Nat} (hs : 0 ≤ H.getD k 0) (x : Int × Int) :
    nexts (moveS H x) (placeS H k) = (nexts x k).map (placeS H) := by
  unfold nexts
  rw [move_kind]
  split
  · rfl
  · split
    · rename_i h; simp [moveS, h]
    · split
      · rename_i h; simp [moveS, h, placeS_succ hs]
      · simp [placeS_succ hs]

theorem next_stays {p : List Fn} {c : List (Int × Int)} {H : List Int} (hc : Cons p c H) (hr : Right p c) {k : Nat} (hk : k < c.length) (hs : 0 ≤ H.getD k 0) {x : Int × Int} (hx : c[k]? = some x) {j : Nat} (hj : j ∈ nexts x k) :
    j < c.length ∧ 0 ≤ H.getD j 0 := by
  obtain ⟨x', m, hx', hm, hn⟩ := hc.done k hk (by omega)
  obtain rfl : x = x' := by rw [hx] at hx'; exact Option.some.inj hx'
  obtain ⟨h1, h2⟩ := hn j hj
  exact ⟨h1, by rw [h2]; exact (beh_nonneg hr (List.mem_of_getElem? hx) hm).1⟩

theorem trimC_len (H : List Int) (c : List (Int × Int)) : (trimC H c).length = placeS H H.length := pick_len H _ _
theorem leftC_len (H : List Int) : (leftC H).length = placeS H H.length := pick_len H _ _
theorem trimC_at {p : List Fn} {c : List (Int × Int)} {H : List Int} (hc : Cons p c H) {k : Nat} (hk : k < c.length) (hs : 0 ≤ H.getD k 0) {x : Int × Int} (hx : c[k]? = some x) : (trimC H c)[placeS H k]? = some (moveS H x) := by
  unfold trimC
  rw [pick_at _ hs (by rw [hc.len]; exact hk)]
  simp [List.getD, hx]
theorem leftC_at {p : List Fn} {c : List (Int × Int)} {H : List Int} (hc : Cons p c H) {k : Nat} (hk : k < c.length) (hs : 0 ≤ H.getD k 0) : (leftC H).getD (placeS H k) 0 = H.getD k 0 := by
  unfold leftC
  rw [List.getD_eq_getElem?_getD, pick_at _ hs (by rw [hc.len]; exact hk)]
  rfl

/-- A function, trimmed; a program. -/
def hgtL (p : List Fn) (k : Nat) : List Int := (heightsS p (codeOf p k)).getD []
def trimF (p : List Fn) (k : Nat) : Fn := ⟨(p.getD k Fn.zero).args, (p.getD k Fn.zero).locals, trimC (hgtL p k) (codeOf p k)⟩
def trimP (p : List Fn) : List Fn := (List.range p.length).map (trimF p)

theorem trimP_get {p : List Fn} {k : Nat} (hk : k < p.length) : (trimP p).getD k Fn.zero = trimF p k := by
  simp [trimP, List.getD, hk]
theorem trimP_alike (p : List Fn) : Alike p (trimP p) := by
  refine ⟨by simp [trimP], fun k => ?_⟩
  by_cases hk : k < p.length
  · rw [trimP_get hk]; exact ⟨rfl, rfl⟩
  · simp [List.getD, hk, trimP]

/-- The ops of a trimmed function are right. -/
theorem trim_op {p q : List Fn} (ha : Alike p q) {g g' : Fn} {H : List Int} (hc : Cons p g.code H) (hr : ∀ x, x ∈ g.code → opS p g x = 0) (hl : g'.locals = g.locals) (hg : g'.code = trimC H g.code) {y : Int × Int} (hy : y ∈ g'.code) : opS q g' y = 0 := by
  obtain ⟨i, hi⟩ := List.getElem?_of_mem hy
  have hlt : i < placeS H H.length := by
    rw [← trimC_len H g.code, ← hg]; exact (List.getElem?_eq_some_iff.1 hi).1
  obtain ⟨k, hk, hs, rfl⟩ := place_inv hlt
  rw [hc.len] at hk
  obtain ⟨x, hx⟩ : ∃ x, g.code[k]? = some x := ⟨_, List.getElem?_eq_getElem hk⟩
  rw [hg, trimC_at hc hk hs hx] at hi
  obtain rfl := Option.some.inj hi
  have hop := hr x (List.mem_of_getElem? hx)
  obtain ⟨h0, h17, hm⟩ := opS_kind hop
  have hRt : Right p g.code := ⟨g, rfl, hr⟩
  by_cases hj : x.1 = 9 ∨ x.1 = 10
  · have hmv : moveS H x = (x.1, ((placeS H x.2.toNat : Nat) : Int)) := by unfold moveS; rw [if_pos hj]
    have ho : opd x.1.toNat = 3 := by rcases hj with e | e <;> rw [e] <;> rfl
    rw [ho] at hm
    have hx2 := ixB_iff.1 (show ixB x.2 g.code.length = true from hm)
    have hin : x.2.toNat ∈ nexts x k := by
      unfold nexts
      rcases hj with e | e
      · rw [if_neg (by omega), if_pos e]; simp
      · rw [if_neg (by omega), if_neg (by omega), if_pos e]; simp
    obtain ⟨s1, s2⟩ := next_stays hc hRt hk hs hx hin
    have := placeS_lt s2 (n := H.length) (by rw [hc.len]; exact s1)
    unfold opS
    rw [hmv]
    simp only
    rw [if_pos ⟨h0, h17⟩, ho, if_pos, if_neg (by omega)]
    show ixB ((placeS H x.2.toNat : Nat) : Int) g'.code.length = true
    rw [ixB_iff, hg, trimC_len]
    omega
  · have hmv : moveS H x = x := by unfold moveS; rw [if_neg hj]
    rw [hmv]
    have ho : opd x.1.toNat ≠ 3 := by
      have hn : x.1.toNat ≠ 9 ∧ x.1.toNat ≠ 10 ∧ x.1.toNat < 17 := by omega
      generalize x.1.toNat = n at hn
      have : ∀ m, m < 17 → m ≠ 9 → m ≠ 10 → opd m ≠ 3 := by decide
      exact this n hn.2.2 hn.1 hn.2.1
    unfold opS at hop ⊢
    rw [if_pos ⟨h0, h17⟩] at hop ⊢
    have hmm : mayB q g' (opd x.1.toNat) x.2 = mayB p g (opd x.1.toNat) x.2 := by
      unfold mayB
      rw [if_neg ho, if_neg ho, hl, ha.1, (ha.2 x.2.toNat).1, (ha.2 x.2.toNat).2]
    rw [hmm, (ha.2 x.2.toNat).1]
    exact hop

/-- The heights of a trimmed function are those that are left. -/
theorem trim_cons {p q : List Fn} (ha : Alike p q) {c : List (Int × Int)} {H : List Int} (hc : Cons p c H) (hs : Sound p c H) (hr : Right p c) : Cons q (trimC H c) (leftC H) ∧ Sound q (trimC H c) (leftC H) := by
  have hst : ∀ k, k < c.length → H.getD k 0 ≠ -1 → 0 ≤ H.getD k 0 := fun k hk hn => by
    rcases hs k hk with h | h
    · exact absurd h hn
    · exact h.1
  have h0 : 0 ≤ H.getD 0 0 := by rw [hc.first]; exact Int.le_refl _
  have hkind : ∀ x, x ∈ c → 0 ≤ x.1 ∧ x.1 < 17 := fun x hx => by
    obtain ⟨g, rfl, hg⟩ := hr
    obtain ⟨a, b, _⟩ := opS_kind (hg x hx)
    exact ⟨a, b⟩
  have hinv : ∀ i, i < (trimC H c).length → ∃ k, k < c.length ∧ 0 ≤ H.getD k 0 ∧ placeS H k = i := fun i hi => by
    rw [trimC_len] at hi
    obtain ⟨k, a, b, d⟩ := place_inv hi
    exact ⟨k, by rw [← hc.len]; exact a, b, d⟩
  have hreach : ∀ k z, Reach p c k z → k < c.length ∧ H.getD k 0 = z ∧ 0 ≤ z ∧ Reach q (trimC H c) (placeS H k) z := by
    intro k z r
    refine r (fun k z => k < c.length ∧ H.getD k 0 = z ∧ 0 ≤ z ∧ Reach q (trimC H c) (placeS H k) z) ⟨hc.pos, hc.first, Int.le_refl _, Reach.zero _ _⟩ ?_
    rintro k h x m j ⟨h1, h2, h3, h4⟩ hx hm hj
    obtain ⟨x', m', hx', hm', hn⟩ := hc.done k h1 (by omega)
    obtain rfl : x = x' := by rw [hx] at hx'; exact Option.some.inj hx'
    rw [h2] at hm'
    obtain rfl : m = m' := by rw [hm] at hm'; exact Option.some.inj hm'
    obtain ⟨h5, h6⟩ := hn j hj
    refine ⟨h5, h6, (beh_nonneg hr (List.mem_of_getElem? hx) hm).1, ?_⟩
    refine h4.step (trimC_at hc h1 (by omega) hx) ?_ (m := m) ?_
    · obtain ⟨a, b⟩ := hkind x (List.mem_of_getElem? hx)
      rw [ha.beh, beh_move p H x a b]; exact hm
    · rw [nexts_move (by omega) x]
      exact List.mem_map_of_mem hj
  refine ⟨⟨?_, ?_, ?_, ?_⟩, ?_⟩
  · rw [leftC_len, trimC_len]
  · rw [trimC_len]
    have := placeS_lt h0 (n := H.length) (by rw [hc.len]; exact hc.pos)
    omega
  · have := leftC_at hc hc.pos h0
    rw [show placeS H 0 = 0 from rfl] at this
    rw [this]; exact hc.first
  · intro i hi _
    obtain ⟨k, hk, hks, rfl⟩ := hinv i hi
    obtain ⟨x, m, hx, hm, hn⟩ := hc.done k hk (by omega)
    obtain ⟨a, b⟩ := hkind x (List.mem_of_getElem? hx)
    refine ⟨moveS H x, m, trimC_at hc hk hks hx, ?_, ?_⟩
    · rw [leftC_at hc hk hks, ha.beh, beh_move p H x a b]; exact hm
    · rw [nexts_move hks x]
      intro j hj
      obtain ⟨j', hj', rfl⟩ := List.mem_map.1 hj
      obtain ⟨s1, s2⟩ := next_stays hc hr hk hks hx hj'
      refine ⟨?_, ?_⟩
      · rw [trimC_len]; exact placeS_lt s2 (by rw [hc.len]; exact s1)
      · rw [leftC_at hc s1 s2]; exact (hn j' hj').2
  · intro i hi
    obtain ⟨k, hk, hks, rfl⟩ := hinv i hi
    right
    rw [leftC_at hc hk hks]
    rcases hs k hk with h | ⟨h, hR⟩
    · omega
    · exact ⟨h, (hreach k _ hR).2.2.2⟩

theorem heights_of_cons {p : List Fn} {c : List (Int × Int)} (hr : Right p c) {H : List Int} (a : Cons p c H) (b : Sound p c H) : heightsS p c = some H := by
  obtain ⟨H', h', _⟩ := rounds_all a (c.length + 1) _ (start_mono a).1
  have hh : heightsS p c = some H' := by
    unfold heightsS
    rw [if_neg (by have := a.pos; omega)]
    exact h'
  obtain ⟨a', b'⟩ := heightsS_ok hr hh
  rw [hh, cons_one hr a b a' b']

theorem opsS_of_all {p : List Fn} {g : Fn} : ∀ {c : List (Int × Int)}, (∀ x, x ∈ c → opS p g x = 0) → opsS p g c = 0
  | [], _ => rfl
  | x :: c, h => by
    unfold opsS
    rw [if_pos (h x (by simp))]
    exact opsS_of_all fun y hy => h y (by simp [hy])

theorem progS_heights {p : List Fn} (h : progS p = 0) {k : Nat} (hk : k < p.length) : heightsS p (codeOf p k) = some (hgtL p k) := by
  unfold progS at h
  split at h
  · cases h
  · split at h
    · cases h
    · split at h
      · cases h
      · split at h
        · have := firstS_zero h k (by omega) (by omega)
          unfold hgtE at this
          unfold hgtL
          split at this
          · rename_i H hH; rw [hH]; rfl
          · cases this
        · rename_i h0; exact absurd h h0

theorem firstS_all {e : Nat → Int} : ∀ (n k : Nat), (∀ i, k ≤ i → i < k + n → e i = 0) → firstS e k n = 0
  | 0, _, _ => rfl
  | n + 1, k, h => by
    unfold firstS
    rw [if_pos (h k (Nat.le_refl k) (by omega))]
    exact firstS_all n (k + 1) fun i h1 h2 => h i (by omega) (by omega)

/-- D2: of a right program, trimmed. -/
theorem trim_right {p : List Fn} (h : progS p = 0) : progS (trimP p) = 0 ∧ ∀ k, k < p.length → heightsS (trimP p) (codeOf (trimP p) k) = some (leftC (hgtL p k)) := by
  obtain ⟨hm, hp, hck⟩ := progS_right h
  have ha := trimP_alike p
  have hk : ∀ k, k < p.length → chkS (trimP p) k = 0 ∧ heightsS (trimP p) (codeOf (trimP p) k) = some (leftC (hgtL p k)) := by
    intro k hk
    obtain ⟨i, hi0, hi, hlen, hroom, hops⟩ := chkS_zero (hck k hk)
    obtain rfl : k = i := by omega
    have hh := progS_heights h hk
    have hR : Right p (codeOf p k) := ⟨p.getD k Fn.zero, rfl, opsS_all hops⟩
    obtain ⟨hc, hs⟩ := heightsS_ok hR hh
    have hcode : codeOf (trimP p) k = trimC (hgtL p k) (codeOf p k) := by unfold codeOf; rw [trimP_get hk]; rfl
    have hop' : ∀ y, y ∈ (trimF p k).code → opS (trimP p) (trimF p k) y = 0 := fun y hy => trim_op (g := p.getD k Fn.zero) (g' := trimF p k) ha hc (opsS_all hops) rfl rfl hy
    have hR' : Right (trimP p) (codeOf (trimP p) k) := ⟨trimF p k, hcode.symm, by rw [hcode]; exact hop'⟩
    obtain ⟨a, b⟩ := trim_cons ha hc hs hR
    refine ⟨?_, ?_⟩
    · unfold chkS
      rw [if_pos ⟨by omega, by rw [ha.1]; omega⟩]
      simp only [Int.toNat_natCast]
      rw [trimP_get hk, if_neg, if_pos, opsS_of_all hop']
      · exact hroom
      · show ¬ 24 < (trimC (hgtL p k) (codeOf p k)).length
        rw [trimC_len, hc.len]
        have := placeS_le (hgtL p k) (codeOf p k).length
        have : (codeOf p k).length ≤ 24 := hlen
        omega
    · rw [hcode] at hR' ⊢
      exact heights_of_cons hR' a b
  refine ⟨?_, fun k hk' => (hk k hk').2⟩
  unfold progS
  rw [ha.1, if_neg (by omega), if_neg (by omega), if_neg, if_pos]
  · exact firstS_all _ _ fun i _ hi => by unfold hgtE; rw [(hk i (by omega)).2]
  · exact firstS_all _ _ fun i _ hi => (hk i (by omega)).1
  · rw [(ha.2 0).1]
    intro hn
    unfold progS at h
    rw [if_neg (by omega), if_neg (by omega), if_pos hn] at h
    cases h

theorem left_nonneg {p : List Fn} {c : List (Int × Int)} {H : List Int} (hc : Cons p c H) : ∀ i, i < (leftC H).length → 0 ≤ (leftC H).getD i 0 := by
  intro i hi
  rw [leftC_len] at hi
  obtain ⟨k, a, b, rfl⟩ := place_inv hi
  rw [leftC_at hc (by rw [← hc.len]; exact a) b]
  exact b

/-- Trimmed once more it is the same. -/
theorem trim_again {p : List Fn} (h : progS p = 0) : trimP (trimP p) = trimP p := by
  obtain ⟨_, h2⟩ := trim_right h
  obtain ⟨hm, hp, hck⟩ := progS_right h
  have ha := trimP_alike p
  apply List.ext_getElem (by simp [trimP])
  intro k h1 h3
  have hk : k < p.length := by rw [← ha.1]; exact h3
  have e1 : (trimP (trimP p))[k] = trimF (trimP p) k := by simp [trimP]
  have e2 : (trimP p)[k] = (trimP p).getD k Fn.zero := by simp [List.getD, h3]
  rw [e1, e2]
  obtain ⟨i, hi0, hi, hlen, hroom, hops⟩ := chkS_zero (hck k hk)
  obtain rfl : k = i := by omega
  have hR : Right p (codeOf p k) := ⟨p.getD k Fn.zero, rfl, opsS_all hops⟩
  obtain ⟨hc, hs⟩ := heightsS_ok hR (progS_heights h hk)
  have hl : hgtL (trimP p) k = leftC (hgtL p k) := by unfold hgtL; rw [h2 k hk]; rfl
  have hnn := left_nonneg hc
  unfold trimF
  rw [hl]
  generalize hL : leftC (hgtL p k) = L at *
  have hcl : (codeOf (trimP p) k).length = L.length := by
    rw [← hL, leftC_len]
    unfold codeOf
    rw [trimP_get hk]
    exact trimC_len _ _
  suffices hs : trimC L (codeOf (trimP p) k) = codeOf (trimP p) k by
    rw [hs]
    rfl
  unfold trimC
  rw [pick_all _ hnn _ (Nat.le_refl _)]
  apply List.ext_getElem (by simp [hcl])
  intro i h5 h6
  simp only [List.getElem_map, List.getElem_range]
  have e3 : (codeOf (trimP p) k).getD i (0, 0) = (codeOf (trimP p) k)[i] := by simp [List.getD, h6]
  rw [e3]
  generalize hx : (codeOf (trimP p) k)[i] = x
  unfold moveS
  split
  · rename_i hj
    have hx2 : 0 ≤ x.2 ∧ x.2 < (codeOf (trimP p) k).length := by
      have hmem : x ∈ (trimF p k).code := by
        have : codeOf (trimP p) k = (trimF p k).code := by unfold codeOf; rw [trimP_get hk]
        rw [← this, ← hx]; exact List.getElem_mem _
      have hop := trim_op (g := p.getD k Fn.zero) (g' := trimF p k) ha hc (opsS_all hops) rfl rfl hmem
      obtain ⟨_, _, hm⟩ := opS_kind hop
      have ho : opd x.1.toNat = 3 := by rcases hj with e | e <;> rw [e] <;> rfl
      rw [ho] at hm
      have := ixB_iff.1 (show ixB x.2 (trimF p k).code.length = true from hm)
      have e : (codeOf (trimP p) k).length = (trimF p k).code.length := by unfold codeOf; rw [trimP_get hk]
      omega
    rw [place_all hnn _ (by omega)]
    apply Prod.ext
    · rfl
    · simp only; omega
  · rfl
end Go.Proofs.YtkepbeeioalmbabDoor
