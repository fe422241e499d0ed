/- TrimS, StateLp, StateTq, GoodA -/
import Derived.Test.YtokhibfenccijaaGreatDoorKB03
import Derived.Test.YtokhibfenccijaaGreatDoorKB19
import Derived.Test.YtokhibfenccijaaGreatDoorKB21
set_option maxRecDepth 100000
set_option maxHeartbeats 8000000
namespace Go.Proofs.YtokhibfenccijaaGreatDoor
def placeS (H : List Int) : Nat → Nat
  | 0 => 0
  | k + 1 => if 0 ≤ H.getD k 0 then placeS H k + 1 else placeS H k
def pick {α : Type} (H : List Int) (f : Nat → α) : Nat → List α
  | 0 => []
  | k + 1 => if 0 ≤ H.getD k 0 then pick H f k ++ [f k] else pick H f k
def moveS (H : List Int) (x : Int × Int) : Int × Int := if x.1 = 9 ∨ x.1 = 10 then (x.1, (placeS H x.2.toNat : Nat)) else x
def trimC (H : List Int) (c : List (Int × Int)) : List (Int × Int) := pick H (fun k => moveS H (c.getD k (0, 0))) H.length
def leftC (H : List Int) : List Int := pick H (fun k => H.getD k 0) H.length
theorem pick_len {α : Type} (H : List Int) (f : Nat → α) : ∀ n, (pick H f n).length = placeS H n
  | 0 => rfl
  | n + 1 => by
    unfold pick placeS
    split
    · simp [pick_len H f n]
    · exact pick_len H f n
theorem placeS_mono (H : List Int) : ∀ {n m : Nat}, n ≤ m → placeS H n ≤ placeS H m
  | n, 0, h => by obtain rfl : n = 0 := by omega
                  exact Nat.le_refl _
  | n, m + 1, h => by
    rcases Nat.lt_or_eq_of_le h with h1 | rfl
    · have := placeS_mono H (n := n) (m := m) (by omega)
      conv => rhs; unfold placeS
      split <;> omega
    · exact Nat.le_refl _
theorem placeS_le (H : List Int) : ∀ n, placeS H n ≤ n
  | 0 => Nat.le_refl _
  | n + 1 => by
    have := placeS_le H n
    unfold placeS
    split <;> omega
theorem placeS_succ {H : List Int} {k : Nat} (h : 0 ≤ H.getD k 0) : placeS H (k + 1) = placeS H k + 1 := by
  conv => lhs; unfold placeS
  rw [if_pos h]
theorem placeS_lt {H : List Int} {k n : Nat} (h : 0 ≤ H.getD k 0) (hk : k < n) : placeS H k < placeS H n := by
  have := placeS_mono H (n := k + 1) (m := n) hk
  rw [placeS_succ h] at this
  omega
theorem pick_at {α : Type} {H : List Int} (f : Nat → α) {k : Nat} (hs : 0 ≤ H.getD k 0) : ∀ {n : Nat}, k < n → (pick H f n)[placeS H k]? = some (f k)
  | 0, h => by omega
  | n + 1, h => by
    unfold pick
    rcases Nat.lt_or_eq_of_le (Nat.lt_succ_iff.1 h) with h1 | rfl
    · have ih := pick_at f hs h1
      split
      · rw [List.getElem?_append_left (by rw [pick_len]; exact placeS_lt hs h1)]; exact ih
      · exact ih
    · rw [if_pos hs, List.getElem?_append_right (by rw [pick_len]; exact Nat.le_refl _), pick_len]
      simp
theorem place_inv {H : List Int} : ∀ {n i : Nat}, i < placeS H n → ∃ k, k < n ∧ 0 ≤ H.getD k 0 ∧ placeS H k = i
  | 0, i, h => by simp [placeS] at h
  | n + 1, i, h => by
    by_cases hs : 0 ≤ H.getD n 0
    · rw [placeS_succ hs] at h
      by_cases e : i = placeS H n
      · exact ⟨n, by omega, hs, e.symm⟩
      · obtain ⟨k, a, b, c⟩ := place_inv (H := H) (n := n) (i := i) (by omega)
        exact ⟨k, by omega, b, c⟩
    · conv at h => rhs; unfold placeS
      rw [if_neg hs] at h
      obtain ⟨k, a, b, c⟩ := place_inv h
      exact ⟨k, by omega, b, c⟩
def Alike (p q : List Fn) : Prop := q.length = p.length ∧ ∀ k, (q.getD k Fn.zero).args = (p.getD k Fn.zero).args ∧ (q.getD k Fn.zero).locals = (p.getD k Fn.zero).locals
theorem Alike.eff {p q : List Fn} (h : Alike p q) (kd a : Int) : effS q kd a = effS p kd a := by
  unfold effS
  rw [h.1, (h.2 a.toNat).1]
theorem Alike.beh {p q : List Fn} (h : Alike p q) (x : Int × Int) (z : Int) : beh q x z = beh p x z := by
  unfold Proofs.YtokhibfenccijaaGreatDoor.beh
  rw [h.eff]
theorem eff_move (p : List Fn) (H : List Int) (x : Int × Int) (hk : 0 ≤ x.1) (hk' : x.1 < 17) : effS p (moveS H x).1 (moveS H x).2 = effS p x.1 x.2 := by
  unfold moveS
  split
  · rename_i h
    have h11 : x.1 ≠ 11 := by omega
    unfold effS
    simp only [hk, hk', h11, and_self, if_true, if_false]
  · rfl
theorem move_kind (H : List Int) (x : Int × Int) : (moveS H x).1 = x.1 := by
  unfold moveS
  split <;> rfl
theorem beh_move (p : List Fn) (H : List Int) (x : Int × Int) (hk : 0 ≤ x.1) (hk' : x.1 < 17) (z : Int) : beh p (moveS H x) z = beh p x z := by
  unfold beh
  rw [eff_move p H x hk hk', move_kind]
theorem nexts_move {H : List Int} {k : Nat} (hs : 0 ≤ H.getD k 0) (x : Int × Int) :
    nexts (moveS H x) (placeS H k) = (nexts x k).map (placeS H) := by
  unfold nexts
  rw [move_kind]
  split
  · rfl
  · split
    · rename_i h; simp [moveS, h]
    · split
      · rename_i h; simp [moveS, h, placeS_succ hs]
      · simp [placeS_succ hs]
theorem next_stays {p : List Fn} {c : List (Int × Int)} {H : List Int} (hc : Cons p c H) (hr : Right p c) {k : Nat} (hk : k < c.length) (hs : 0 ≤ H.getD k 0) {x : Int × Int} (hx : c[k]? = some x) {j : Nat} (hj : j ∈ nexts x k) :
    j < c.length ∧ 0 ≤ H.getD j 0 := by
  obtain ⟨x', m, hx', hm, hn⟩ := hc.done k hk (by omega)
  obtain rfl : x = x' := by rw [hx] at hx'; exact Option.some.inj hx'
  obtain ⟨h1, h2⟩ := hn j hj
  exact ⟨h1, by rw [h2]; exact (beh_nonneg hr (List.mem_of_getElem? hx) hm).1⟩
theorem trimC_len (H : List Int) (c : List (Int × Int)) : (trimC H c).length = placeS H H.length := pick_len H _ _
theorem leftC_len (H : List Int) : (leftC H).length = placeS H H.length := pick_len H _ _
theorem trimC_at {p : List Fn} {c : List (Int × Int)} {H : List Int} (hc : Cons p c H) {k : Nat} (hk : k < c.length) (hs : 0 ≤ H.getD k 0) {x : Int × Int} (hx : c[k]? = some x) : (trimC H c)[placeS H k]? = some (moveS H x) := by
  unfold trimC
  rw [pick_at _ hs (by rw [hc.len]; exact hk)]
  simp [List.getD, hx]
theorem leftC_at {p : List Fn} {c : List (Int × Int)} {H : List Int} (hc : Cons p c H) {k : Nat} (hk : k < c.length) (hs : 0 ≤ H.getD k 0) : (leftC H).getD (placeS H k) 0 = H.getD k 0 := by
  unfold leftC
  rw [List.getD_eq_getElem?_getD, pick_at _ hs (by rw [hc.len]; exact hk)]
  rfl
def hgtL (p : List Fn) (k : Nat) : List Int := (heightsS p (codeOf p k)).getD []
def trimF (p : List Fn) (k : Nat) : Fn := ⟨(p.getD k Fn.zero).args, (p.getD k Fn.zero).locals, trimC (hgtL p k) (codeOf p k)⟩
def trimP (p : List Fn) : List Fn := (List.range p.length).map (trimF p)
theorem trimP_get {p : List Fn} {k : Nat} (hk : k < p.length) : (trimP p).getD k Fn.zero = trimF p k := by
  simp [trimP, List.getD, hk]
theorem trimP_alike (p : List Fn) : Alike p (trimP p) := by
  refine ⟨by simp [trimP], fun k => ?_⟩
  by_cases hk : k < p.length
  · rw [trimP_get hk]; exact ⟨rfl, rfl⟩
  · simp [List.getD, hk, trimP]
theorem trim_op {p q : List Fn} (ha : Alike p q) {g g' : Fn} {H : List Int} (hc : Cons p g.code H) (hr : ∀ x, x ∈ g.code → opS p g x = 0) (hl : g'.locals = g.locals) (hg : g'.code = trimC H g.code) {y : Int × Int} (hy : y ∈ g'.code) : opS q g' y = 0 := by
  obtain ⟨i, hi⟩ := List.getElem?_of_mem hy
  have hlt : i < placeS H H.length := by
    rw [← trimC_len H g.code, ← hg]; exact (List.getElem?_eq_some_iff.1 hi).1
  obtain ⟨k, hk, hs, rfl⟩ := place_inv hlt
  rw [hc.len] at hk
  obtain ⟨x, hx⟩ : ∃ x, g.code[k]? = some x := ⟨_, List.getElem?_eq_getElem hk⟩
  rw [hg, trimC_at hc hk hs hx] at hi
  obtain rfl := Option.some.inj hi
  have hop := hr x (List.mem_of_getElem? hx)
  obtain ⟨h0, h17, hm⟩ := opS_kind hop
  have hRt : Right p g.code := ⟨g, rfl, hr⟩
  by_cases hj : x.1 = 9 ∨ x.1 = 10
  · have hmv : moveS H x = (x.1, ((placeS H x.2.toNat : Nat) : Int)) := by unfold moveS; rw [if_pos hj]
    have ho : opd x.1.toNat = 3 := by rcases hj with e | e <;> rw [e] <;> rfl
    rw [ho] at hm
    have hx2 := ixB_iff.1 (show ixB x.2 g.code.length = true from hm)
    have hin : x.2.toNat ∈ nexts x k := by
      unfold nexts
      rcases hj with e | e
      · rw [if_neg (by omega), if_pos e]; simp
      · rw [if_neg (by omega), if_neg (by omega), if_pos e]; simp
    obtain ⟨s1, s2⟩ := next_stays hc hRt hk hs hx hin
    have := placeS_lt s2 (n := H.length) (by rw [hc.len]; exact s1)
    unfold opS
    rw [hmv]
    simp only
    rw [if_pos ⟨h0, h17⟩, ho, if_pos, if_neg (by omega)]
    show ixB ((placeS H x.2.toNat : Nat) : Int) g'.code.length = true
    rw [ixB_iff, hg, trimC_len]
    omega
  · have hmv : moveS H x = x := by unfold moveS; rw [if_neg hj]
    rw [hmv]
    have ho : opd x.1.toNat ≠ 3 := by
      have hn : x.1.toNat ≠ 9 ∧ x.1.toNat ≠ 10 ∧ x.1.toNat < 17 := by omega
      generalize x.1.toNat = n at hn
      have : ∀ m, m < 17 → m ≠ 9 → m ≠ 10 → opd m ≠ 3 := by decide
      exact this n hn.2.2 hn.1 hn.2.1
    unfold opS at hop ⊢
    rw [if_pos ⟨h0, h17⟩] at hop ⊢
    have hmm : mayB q g' (opd x.1.toNat) x.2 = mayB p g (opd x.1.toNat) x.2 := by
      unfold mayB
      rw [if_neg ho, if_neg ho, hl, ha.1, (ha.2 x.2.toNat).1, (ha.2 x.2.toNat).2]
    rw [hmm, (ha.2 x.2.toNat).1]
    exact hop
theorem trim_cons {p q : List Fn} (ha : Alike p q) {c : List (Int × Int)} {H : List Int} (hc : Cons p c H) (hs : Sound p c H) (hr : Right p c) : Cons q (trimC H c) (leftC H) ∧ Sound q (trimC H c) (leftC H) := by
  have hst : ∀ k, k < c.length → H.getD k 0 ≠ -1 → 0 ≤ H.getD k 0 := fun k hk hn => by
    rcases hs k hk with h | h
    · exact absurd h hn
    · exact h.1
  have h0 : 0 ≤ H.getD 0 0 := by rw [hc.first]; exact Int.le_refl _
  have hkind : ∀ x, x ∈ c → 0 ≤ x.1 ∧ x.1 < 17 := fun x hx => by
    obtain ⟨g, rfl, hg⟩ := hr
    obtain ⟨a, b, _⟩ := opS_kind (hg x hx)
    exact ⟨a, b⟩
  have hinv : ∀ i, i < (trimC H c).length → ∃ k, k < c.length ∧ 0 ≤ H.getD k 0 ∧ placeS H k = i := fun i hi => by
    rw [trimC_len] at hi
    obtain ⟨k, a, b, d⟩ := place_inv hi
    exact ⟨k, by rw [← hc.len]; exact a, b, d⟩
  have hreach : ∀ k z, Reach p c k z → k < c.length ∧ H.getD k 0 = z ∧ 0 ≤ z ∧ Reach q (trimC H c) (placeS H k) z := by
    intro k z r
    refine r (fun k z => k < c.length ∧ H.getD k 0 = z ∧ 0 ≤ z ∧ Reach q (trimC H c) (placeS H k) z) ⟨hc.pos, hc.first, Int.le_refl _, Reach.zero _ _⟩ ?_
    rintro k h x m j ⟨h1, h2, h3, h4⟩ hx hm hj
    obtain ⟨x', m', hx', hm', hn⟩ := hc.done k h1 (by omega)
    obtain rfl : x = x' := by rw [hx] at hx'; exact Option.some.inj hx'
    rw [h2] at hm'
    obtain rfl : m = m' := by rw [hm] at hm'; exact Option.some.inj hm'
    obtain ⟨h5, h6⟩ := hn j hj
    refine ⟨h5, h6, (beh_nonneg hr (List.mem_of_getElem? hx) hm).1, ?_⟩
    refine h4.step (trimC_at hc h1 (by omega) hx) ?_ (m := m) ?_
    · obtain ⟨a, b⟩ := hkind x (List.mem_of_getElem? hx)
      rw [ha.beh, beh_move p H x a b]; exact hm
    · rw [nexts_move (by omega) x]
      exact List.mem_map_of_mem hj
  refine ⟨⟨?_, ?_, ?_, ?_⟩, ?_⟩
  · rw [leftC_len, trimC_len]
  · rw [trimC_len]
    have := placeS_lt h0 (n := H.length) (by rw [hc.len]; exact hc.pos)
    omega
  · have := leftC_at hc hc.pos h0
    rw [show placeS H 0 = 0 from rfl] at this
    rw [this]; exact hc.first
  · intro i hi _
    obtain ⟨k, hk, hks, rfl⟩ := hinv i hi
    obtain ⟨x, m, hx, hm, hn⟩ := hc.done k hk (by omega)
    obtain ⟨a, b⟩ := hkind x (List.mem_of_getElem? hx)
    refine ⟨moveS H x, m, trimC_at hc hk hks hx, ?_, ?_⟩
    · rw [leftC_at hc hk hks, ha.beh, beh_move p H x a b]; exact hm
    · rw [nexts_move hks x]
      intro j hj
      obtain ⟨j', hj', rfl⟩ := List.mem_map.1 hj
      obtain ⟨s1, s2⟩ := next_stays hc hr hk hks hx hj'
      refine ⟨?_, ?_⟩
      · rw [trimC_len]; exact placeS_lt s2 (by rw [hc.len]; exact s1)
      · rw [leftC_at hc s1 s2]; exact (hn j' hj').2
  · intro i hi
    obtain ⟨k, hk, hks, rfl⟩ := hinv i hi
    right
    rw [leftC_at hc hk hks]
    rcases hs k hk with h | ⟨h, hR⟩
    · omega
    · exact ⟨h, (hreach k _ hR).2.2.2⟩
theorem heights_of_cons {p : List Fn} {c : List (Int × Int)} (hr : Right p c) {H : List Int} (a : Cons p c H) (b : Sound p c H) : heightsS p c = some H := by
  obtain ⟨H', h', _⟩ := rounds_all a (c.length + 1) _ (start_mono a).1
  have hh : heightsS p c = some H' := by
    unfold heightsS
    rw [if_neg (by have := a.pos; omega)]
    exact h'
  obtain ⟨a', b'⟩ := heightsS_ok hr hh
  rw [hh, cons_one hr a b a' b']
theorem opsS_of_all {p : List Fn} {g : Fn} : ∀ {c : List (Int × Int)}, (∀ x, x ∈ c → opS p g x = 0) → opsS p g c = 0
  | [], _ => rfl
  | x :: c, h => by
    unfold opsS
    rw [if_pos (h x (by simp))]
    exact opsS_of_all fun y hy => h y (by simp [hy])
theorem progS_heights {p : List Fn} (h : progS p = 0) {k : Nat} (hk : k < p.length) : heightsS p (codeOf p k) = some (hgtL p k) := by
  unfold progS at h
  split at h
  · cases h
  · split at h
    · cases h
    · split at h
      · cases h
      · split at h
        · have := firstS_zero h k (by omega) (by omega)
          unfold hgtE at this
          unfold hgtL
          split at this
          · rename_i H hH; rw [hH]; rfl
          · cases this
        · rename_i h0; exact absurd h h0
theorem firstS_all {e : Nat → Int} : ∀ (n k : Nat), (∀ i, k ≤ i → i < k + n → e i = 0) → firstS e k n = 0
  | 0, _, _ => rfl
  | n + 1, k, h => by
    unfold firstS
    rw [if_pos (h k (Nat.le_refl k) (by omega))]
    exact firstS_all n (k + 1) fun i h1 h2 => h i (by omega) (by omega)
theorem trim_right {p : List Fn} (h : progS p = 0) : progS (trimP p) = 0 ∧ ∀ k, k < p.length → heightsS (trimP p) (codeOf (trimP p) k) = some (leftC (hgtL p k)) := by
  obtain ⟨hm, hp, hck⟩ := progS_right h
  have ha := trimP_alike p
  have hk : ∀ k, k < p.length → chkS (trimP p) k = 0 ∧ heightsS (trimP p) (codeOf (trimP p) k) = some (leftC (hgtL p k)) := by
    intro k hk
    obtain ⟨i, hi0, hi, hlen, hroom, hops⟩ := chkS_zero (hck k hk)
    obtain rfl : k = i := by omega
    have hh := progS_heights h hk
    have hR : Right p (codeOf p k) := ⟨p.getD k Fn.zero, rfl, opsS_all hops⟩
    obtain ⟨hc, hs⟩ := heightsS_ok hR hh
    have hcode : codeOf (trimP p) k = trimC (hgtL p k) (codeOf p k) := by unfold codeOf; rw [trimP_get hk]; rfl
    have hop' : ∀ y, y ∈ (trimF p k).code → opS (trimP p) (trimF p k) y = 0 := fun y hy => trim_op (g := p.getD k Fn.zero) (g' := trimF p k) ha hc (opsS_all hops) rfl rfl hy
    have hR' : Right (trimP p) (codeOf (trimP p) k) := ⟨trimF p k, hcode.symm, by rw [hcode]; exact hop'⟩
    obtain ⟨a, b⟩ := trim_cons ha hc hs hR
    refine ⟨?_, ?_⟩
    · unfold chkS
      rw [if_pos ⟨by omega, by rw [ha.1]; omega⟩]
      simp only [Int.toNat_natCast]
      rw [trimP_get hk, if_neg, if_pos, opsS_of_all hop']
      · exact hroom
      · show ¬ 24 < (trimC (hgtL p k) (codeOf p k)).length
        rw [trimC_len, hc.len]
        have := placeS_le (hgtL p k) (codeOf p k).length
        have : (codeOf p k).length ≤ 24 := hlen
        omega
    · rw [hcode] at hR' ⊢
      exact heights_of_cons hR' a b
  refine ⟨?_, fun k hk' => (hk k hk').2⟩
  unfold progS
  rw [ha.1, if_neg (by omega), if_neg (by omega), if_neg, if_pos]
  · exact firstS_all _ _ fun i _ hi => by unfold hgtE; rw [(hk i (by omega)).2]
  · exact firstS_all _ _ fun i _ hi => (hk i (by omega)).1
  · rw [(ha.2 0).1]
    intro hn
    unfold progS at h
    rw [if_neg (by omega), if_neg (by omega), if_pos hn] at h
    cases h
theorem right_code {p : List Fn} (h : progS p = 0) {k : Nat} (hk : k < p.length) : Right p (codeOf p k) := by
  obtain ⟨_, _, hck⟩ := progS_right h
  obtain ⟨_, _, hops⟩ := chkS_ops (hck k hk)
  exact ⟨p.getD k Fn.zero, rfl, fun x hx => opsS_all hops x hx⟩
theorem cons_code {p : List Fn} (h : progS p = 0) {k : Nat} (hk : k < p.length) : Cons p (codeOf p k) (hgt p k) ∧ Sound p (codeOf p k) (hgt p k) :=
  heightsS_ok (right_code h hk) (progS_heights h hk)
theorem hgt_le {p : List Fn} (h : progS p = 0) {k : Nat} (hk : k < p.length) (a : Nat) : -1 ≤ (hgt p k).getD a 0 ∧ (hgt p k).getD a 0 ≤ 8 := by
  by_cases ha : a < (hgt p k).length
  · obtain ⟨hc, hs⟩ := cons_code h hk
    rcases hs a (by rw [← hc.len]; exact ha) with e | ⟨h0, hr⟩
    · omega
    · have := hr (fun _ z => z ≤ 8) (by omega) (fun k' z x m j _ hx hm _ => (beh_nonneg (right_code h hk) (List.mem_of_getElem? hx) hm).2)
      exact ⟨by omega, this⟩
  · simp [List.getD, List.getElem?_eq_none (by omega : (hgt p k).length ≤ a)]
theorem bare_of {p : List Fn} (h : progS p = 0) : Bare p := by
  intro k i x hx hk
  by_cases hkl : k < p.length
  · obtain ⟨_, _, hck⟩ := progS_right h
    obtain ⟨_, _, hops⟩ := chkS_ops (hck k hkl)
    obtain ⟨_, _, hm⟩ := opS_kind (opsS_all hops x (List.mem_of_getElem? hx))
    have ho : opd x.1.toNat = 0 := by rcases hk with e | e <;> rw [e] <;> rfl
    rw [ho] at hm
    simpa [mayB] using hm
  · have : codeOf p k = [] := by
      unfold codeOf
      simp [List.getD, List.getElem?_eq_none (by omega : p.length ≤ k), Fn.zero]
    rw [this] at hx
    simp at hx
theorem right_parts {p : List Fn} {s : St} (h : stErrS p s = 0) : progS p = 0 ∧ limS s = 0 ∧ formR p s = true := by
  unfold stErrS at h
  split at h
  · rename_i h1
    split at h
    · rename_i h2
      split at h
      · rename_i h3; exact ⟨h1, h2, h3⟩
      · cases h
    · rename_i h2; exact absurd h h2
  · rename_i h1; exact absurd h h1
theorem right_fiber {p : List Fn} {s : St} (h : stErrS p s = 0) : ∃ l, lineS s = some l ∧ ∀ k, k < s.fibers.length → fiberB p (fibAt s k) (decide ((k : Int) ∈ l)) (decide ((k : Int) = s.now)) = true := by
  obtain ⟨_, _, h3⟩ := right_parts h
  unfold formR at h3
  cases hl : lineS s with
  | none => rw [hl] at h3; cases h3
  | some l =>
    rw [hl] at h3
    simp only [Bool.and_eq_true] at h3
    refine ⟨l, rfl, fun k hk => ?_⟩
    have := all_range.1 h3.2 k hk
    simp only [Bool.and_eq_true] at this
    exact this.1
theorem jwaits_at {p : List Fn} : ∀ (l : List Fr) (j : Nat), jwaitsB p l = true → j + 1 < l.length → ((l.getD j Fr.zero).stack.length : Int) = hAt p (l.getD j Fr.zero) - 1
  | [], j, _, hj => by simp at hj
  | [x], j, _, hj => by simp at hj
  | x :: y :: r, 0, h, _ => by
    simp only [jwaitsB, Bool.and_eq_true] at h
    obtain ⟨h1, _⟩ := h
    unfold jwaitB at h1
    simp only [Bool.and_eq_true, decide_eq_true_eq] at h1
    exact h1.1.2
  | x :: y :: r, j + 1, h, hj => by
    simp only [jwaitsB, Bool.and_eq_true] at h
    exact jwaits_at (y :: r) j h.2 (by simpa using hj)
theorem frame_parts {p : List Fn} {x : Fr} (h : frameB p x = true) : (0 ≤ x.fn ∧ x.fn < p.length) ∧ (x.locals.length : Int) = (p.getD x.fn.toNat Fn.zero).locals ∧ (0 ≤ x.at_ ∧ x.at_ < (codeOf p x.fn.toNat).length) ∧ 0 ≤ hAt p x := by
  unfold frameB at h
  simp only [Bool.and_eq_true, decide_eq_true_eq] at h
  obtain ⟨h1, h2, h3, h4⟩ := h
  exact ⟨ixB_iff.1 h1, h2, ixB_iff.1 h3, h4⟩
theorem right_frame {p : List Fn} {s : St} (h : stErrS p s = 0) {k j : Nat} (hk : k < s.fibers.length) (hj : j < (fibAt s k).frames.length) :
    frameB p (frAt s k j) = true ∧ (frAt s k j).stack.length ≤ 8 := by
  obtain ⟨hp, _, _⟩ := right_parts h
  obtain ⟨l, _, hf⟩ := right_fiber h
  have hfk := hf k hk
  unfold fiberB at hfk
  cases hlast : (fibAt s k).frames.getLast? with
  | none =>
    have := List.getLast?_eq_none_iff.1 hlast
    rw [this] at hj
    simp at hj
  | some t =>
    rw [hlast] at hfk
    simp only [Bool.and_eq_true] at hfk
    obtain ⟨hfr, hcond⟩ := hfk
    obtain ⟨hall, hjw⟩ := (framesB_iff p _).1 hfr
    have hfj : frameB p (frAt s k j) = true := all_getD hall hj
    refine ⟨hfj, ?_⟩
    obtain ⟨⟨q1, q2⟩, _, _, q3⟩ := frame_parts hfj
    have hle := (hgt_le hp (k := (frAt s k j).fn.toNat) (by omega) (frAt s k j).at_.toNat).2
    have hle' : hAt p (frAt s k j) ≤ 8 := hle
    by_cases hjl : j + 1 < (fibAt s k).frames.length
    · have := jwaits_at _ j hjw hjl
      have h2 : ((frAt s k j).stack.length : Int) = hAt p (frAt s k j) - 1 := this
      omega
    · have ht : t = frAt s k j := by
        rw [List.getLast?_eq_getElem?] at hlast
        have hj2 : j = (fibAt s k).frames.length - 1 := by omega
        unfold frAt
        rw [hj2]
        simp [List.getD, hlast]
      subst ht
      split at hcond
      · have := of_decide_eq_true hcond; omega
      · split at hcond
        · unfold waitB at hcond
          simp only [Bool.and_eq_true, decide_eq_true_eq] at hcond
          have := hcond.1.2
          omega
        · simp only [Bool.and_eq_true, Bool.or_eq_true] at hcond
          rcases hcond.2 with h1 | h1
          · unfold freshB at h1
            split at h1
            · rename_i x hx
              simp only [Bool.and_eq_true, decide_eq_true_eq] at h1
              have : frAt s k j = x := by unfold frAt; rw [hx] at hj ⊢; simp at hj; rw [hj]; rfl
              rw [this, h1.1.2.2]
              omega
            · cases h1
          · unfold waitB at h1
            simp only [Bool.and_eq_true, decide_eq_true_eq] at h1
            have := h1.1.2
            omega
def Path (fs : List Fb) : Int → List Int → Prop
  | n, [] => n = -1
  | n, x :: r => n = x ∧ 0 ≤ x ∧ x < fs.length ∧ Path fs (callerOf fs x) r
theorem path_of_line {fs : List Fb} (hc : ∀ b, b ∈ fs → -1 ≤ b.caller ∧ b.caller < fs.length) : ∀ (k : Nat) (n : Int) (acc l : List Int), lineF fs k n acc = some l → -1 ≤ n → n < fs.length → acc.Nodup → ∃ r, l = acc ++ r ∧ Path fs n r ∧ l.Nodup
  | 0, _, _, _, h, _, _, _ => by cases h
  | k + 1, n, acc, l, h, h1, h2, hd => by
    unfold lineF at h
    split at h
    · obtain rfl := Option.some.inj h
      exact ⟨[], by simp, by show n = -1; omega, hd⟩
    · split at h
      · cases h
      · rename_i hn hna
        have hc' : -1 ≤ callerOf fs n ∧ callerOf fs n < fs.length := hc _ (List.mem_of_getElem? (getD_of_lt fs n.toNat Fb.zero (by omega)))
        obtain ⟨r, e, hp, hl⟩ := path_of_line hc k _ _ l h hc'.1 hc'.2 (by
          rw [List.nodup_append]
          refine ⟨hd, by simp, fun a ha b hb e => ?_⟩
          simp only [List.mem_singleton] at hb
          subst hb e
          exact hna ha)
        exact ⟨n :: r, by rw [e]; simp, ⟨rfl, by omega, h2, hp⟩, hl⟩
theorem line_of_path {fs : List Fb} : ∀ (k : Nat) (n : Int) (acc r : List Int), Path fs n r → (acc ++ r).Nodup → r.length < k → lineF fs k n acc = some (acc ++ r)
  | 0, _, _, _, _, _, h => by omega
  | k + 1, n, acc, [], hp, _, _ => by
    have : n = -1 := hp
    unfold lineF
    rw [if_pos (by omega)]
    simp
  | k + 1, n, acc, x :: r, hp, hd, hk => by
    obtain ⟨rfl, h0, _, hp'⟩ := hp
    have hna : n ∉ acc := fun h => (List.nodup_append.1 hd).2.2 n h n (by simp) rfl
    unfold lineF
    rw [if_neg (by omega), if_neg hna]
    have := line_of_path k (callerOf fs n) (acc ++ [n]) r hp' (by simpa using hd) (by simpa using hk)
    simpa using this
theorem Path.inside {fs : List Fb} : ∀ {n : Int} {l : List Int}, Path fs n l → ∀ z, z ∈ l → 0 ≤ z ∧ z < fs.length
  | _, [], _, z, hz => by cases hz
  | _, x :: r, ⟨_, h0, h1, h2⟩, z, hz => by
    rcases List.mem_cons.1 hz with rfl | hz
    · exact ⟨h0, h1⟩
    · exact h2.inside z hz
theorem Path.congr {fs fs' : List Fb} (hl : fs.length ≤ fs'.length) : ∀ {n : Int} {l : List Int}, Path fs n l → (∀ z, z ∈ l → callerOf fs' z = callerOf fs z) → Path fs' n l
  | _, [], h, _ => h
  | _, x :: r, ⟨h0, h1, h2, h3⟩, hc => ⟨h0, h1, by omega, by rw [hc x (by simp)]; exact h3.congr hl (fun z hz => hc z (List.mem_cons_of_mem _ hz))⟩
theorem Path.range {fs : List Fb} {n : Int} {l : List Int} (h : Path fs n l) : -1 ≤ n ∧ (n < fs.length ∨ n = -1) := by
  cases l with
  | nil => have : n = -1 := h; omega
  | cons x r => obtain ⟨rfl, h0, h1, _⟩ := h; omega
theorem Path.next {fs : List Fb} : ∀ {n : Int} {l : List Int}, Path fs n l → ∀ z, z ∈ l → (callerOf fs z = -1 ∧ l.getLast? = some z) ∨ (callerOf fs z ∈ l)
  | _, [], _, z, hz => by cases hz
  | _, x :: r, ⟨_, _, _, h3⟩, z, hz => by
    rcases List.mem_cons.1 hz with rfl | hz
    · cases r with
      | nil => exact .inl ⟨h3, rfl⟩
      | cons y r' => obtain ⟨h4, _⟩ := h3; right; rw [h4]; simp
    · rcases h3.next z hz with ⟨h4, h5⟩ | h4
      · refine .inl ⟨h4, ?_⟩
        cases r with
        | nil => cases hz
        | cons y r' => rw [List.getLast?_cons_cons]; exact h5
      · exact .inr (List.mem_cons_of_mem _ h4)
structure Good (p : List Fn) (s : St) (l : List Int) : Prop where
  prog : progS p = 0
  n5 : s.fibers.length ≤ 5
  o30 : s.out.length ≤ 30
  f6 : ∀ k, k < s.fibers.length → (fibAt s k).frames.length ≤ 6
  path : Path s.fibers s.now l
  nodup : l.Nodup
  last : l = [] ∨ l.getLast? = some 0
  pos : 0 < s.fibers.length
  main : (0 : Int) ∉ l → (fibAt s 0).frames = []
  each : ∀ k, k < s.fibers.length → fiberB p (fibAt s k) (decide ((k : Int) ∈ l)) (decide ((k : Int) = s.now)) = true
theorem mem_fibAt {s : St} {b : Fb} (h : b ∈ s.fibers) : ∃ k, k < s.fibers.length ∧ fibAt s k = b := by
  obtain ⟨k, hk, rfl⟩ := List.getElem_of_mem h
  exact ⟨k, hk, by simp [fibAt, List.getD, hk]⟩
theorem right_good {p : List Fn} {s : St} (h : stErrS p s = 0) : ∃ l, lineS s = some l ∧ Good p s l := by
  obtain ⟨hp, hlim, hf⟩ := right_parts h
  obtain ⟨l, hl, hfib⟩ := right_fiber h
  obtain ⟨h5, h30, h6, hpos, ⟨hn1, hn2⟩, hcal⟩ := limS_zero hlim
  have hl' := hl
  unfold lineS at hl'
  cases hlf : lineF s.fibers (s.fibers.length + 1) s.now [] with
  | none => rw [hlf] at hl'; cases hl'
  | some l' =>
    rw [hlf] at hl'
    simp only at hl'
    split at hl'
    · rename_i hlast
      obtain rfl := Option.some.inj hl'
      obtain ⟨r, e, hpath, hnd⟩ := path_of_line hcal _ _ _ _ hlf hn1 hn2 List.nodup_nil
      rw [List.nil_append] at e
      subst e
      refine ⟨_, hl, hp, h5, h30, fun k hk => h6 _ (top_mem k hk), hpath, hnd, hlast, hpos, fun h0 => ?_, hfib⟩
      unfold formR at hf
      rw [hl] at hf
      simp only [Bool.and_eq_true] at hf
      have := all_range.1 hf.2 0 hpos
      simp only [Bool.and_eq_true, decide_true, Bool.true_and] at this
      have h2 := this.2
      rw [decide_eq_false h0] at h2
      have h3 : (s.fibers.getD 0 Fb.zero).frames.isEmpty = true := by simpa using h2
      exact List.isEmpty_iff.1 h3
    · cases hl'
theorem fiberB_off {p : List Fn} {b : Fb} {r : Bool} (h : fiberB p b false r = true) (hr : r = false) : b.caller = -1 := by
  subst hr
  unfold fiberB at h
  split at h
  · simpa using h
  · simp only [Bool.and_eq_true, Bool.false_eq_true, if_false, decide_eq_true_eq] at h
    exact h.2.1
theorem Good.head {p : List Fn} {s : St} {l : List Int} (h : Good p s l) (hn : 0 ≤ s.now) : ∃ r, l = s.now :: r := by
  have hp := h.path
  cases l with
  | nil => have : s.now = -1 := hp; omega
  | cons x r => obtain ⟨h1, _⟩ := hp; exact ⟨r, by rw [h1]⟩
theorem Good.now_mem {p : List Fn} {s : St} {l : List Int} (h : Good p s l) (hn : 0 ≤ s.now) : s.now ∈ l := by
  obtain ⟨r, rfl⟩ := h.head hn; simp
theorem Good.off {p : List Fn} {s : St} {l : List Int} (h : Good p s l) {k : Nat} (hk : k < s.fibers.length) (hm : (k : Int) ∉ l) : (fibAt s k).caller = -1 := by
  have := h.each k hk
  rw [decide_eq_false hm] at this
  refine fiberB_off this (decide_eq_false fun e => hm ?_)
  rw [e]; exact h.now_mem (by omega)
theorem Good.caller {p : List Fn} {s : St} {l : List Int} (h : Good p s l) {k : Nat} (hk : k < s.fibers.length) : -1 ≤ (fibAt s k).caller ∧ (fibAt s k).caller < s.fibers.length := by
  by_cases hm : (k : Int) ∈ l
  · rcases h.path.next _ hm with ⟨e, _⟩ | e
    · have : (fibAt s k).caller = -1 := e
      omega
    · have h1 := h.path.inside _ e
      have : callerOf s.fibers (k : Int) = (fibAt s k).caller := rfl
      omega
  · have := h.off hk hm
    omega
theorem Good.line {p : List Fn} {s : St} {l : List Int} (h : Good p s l) : lineF s.fibers (s.fibers.length + 1) s.now [] = some l ∧ lineS s = some l := by
  have hlen : l.length ≤ s.fibers.length := few h.nodup h.path.inside
  have h1 : lineF s.fibers (s.fibers.length + 1) s.now [] = some l := by
    have := line_of_path (fs := s.fibers) (s.fibers.length + 1) s.now [] l h.path (by simpa using h.nodup) (by omega)
    simpa using this
  refine ⟨h1, ?_⟩
  unfold lineS
  rw [h1]
  simp only
  rw [if_pos h.last]
theorem Good.lim {p : List Fn} {s : St} {l : List Int} (h : Good p s l) : limS s = 0 := by
  have hr := h.path.range
  unfold limS
  rw [if_pos ⟨h.n5, h.o30⟩, if_pos, if_pos h.pos, if_pos, if_pos]
  · rw [List.all_eq_true]
    intro b hb
    obtain ⟨k, hk, rfl⟩ := mem_fibAt hb
    have := h.caller hk
    rw [inB_iff]; omega
  · rw [inB_iff]
    have := h.pos
    rcases hr.2 with h1 | h1 <;> omega
  · rw [List.all_eq_true]
    intro b hb
    obtain ⟨k, hk, rfl⟩ := mem_fibAt hb
    exact decide_eq_true (h.f6 k hk)
theorem good_right {p : List Fn} {s : St} {l : List Int} (h : Good p s l) : stErrS p s = 0 := by
  unfold stErrS
  rw [if_pos h.prog, if_pos h.lim, if_pos]
  unfold formR
  rw [h.line.2]
  simp only [Bool.and_eq_true]
  have hmain : (0 : Int) ∉ l → (s.fibers.getD 0 Fb.zero).frames.isEmpty = true := fun h0 => List.isEmpty_iff.2 (h.main h0)
  constructor
  · by_cases hn : s.now = -1
    · have : l = [] := by
        have hp := h.path
        cases l with
        | nil => rfl
        | cons x r => obtain ⟨h1, h2, _⟩ := hp; omega
      rw [hmain (by rw [this]; simp)]
      simp
    · rw [decide_eq_false hn]; rfl
  · rw [all_range]
    intro k hk
    simp only [Bool.and_eq_true]
    refine ⟨h.each k hk, ?_⟩
    by_cases h0 : k = 0
    · by_cases hm : (0 : Int) ∈ l
      · rw [decide_eq_true hm]; simp
      · rw [hmain hm]; simp
    · rw [decide_eq_false h0]; rfl
theorem jwaits_snoc {p : List Fn} : ∀ (l : List Fr) (u t : Fr), jwaitsB p (l ++ [u, t]) = (jwaitsB p (l ++ [u]) && jwaitB p u (11, t.fn))
  | [], u, t => by simp [jwaitsB]
  | [x], u, t => by simp [jwaitsB]
  | x :: y :: l, u, t => by
    have := jwaits_snoc (p := p) (y :: l) u t
    simp only [List.cons_append, jwaitsB] at this ⊢
    rw [this, Bool.and_assoc]
theorem jwaits_top {p : List Fn} (l : List Fr) (t t' : Fr) (h : t'.fn = t.fn) : jwaitsB p (l ++ [t']) = jwaitsB p (l ++ [t]) := by
  rcases List.eq_nil_or_concat l with rfl | ⟨l', u, rfl⟩
  · rfl
  · simp only [List.concat_eq_append, List.append_assoc, List.cons_append, List.nil_append]
    rw [jwaits_snoc, jwaits_snoc, h]
def FrsG (p : List Fn) (fs : List Fr) (t : Fr) : Prop := (∀ f, f ∈ fs → frameB p f = true) ∧ frameB p t = true ∧ jwaitsB p (fs ++ [t]) = true
theorem FrsG.bool {p : List Fn} {fs : List Fr} {t : Fr} : framesB p (fs ++ [t]) = true ↔ FrsG p fs t := by
  rw [framesB_iff]
  unfold FrsG
  simp only [List.all_append, List.all_cons, List.all_nil, Bool.and_true, Bool.and_eq_true, List.all_eq_true]
  exact and_assoc
theorem FrsG.turn {p : List Fn} {fs : List Fr} {t t' : Fr} (h : FrsG p fs t) (ht : frameB p t' = true) (hf : t'.fn = t.fn) : FrsG p fs t' := ⟨h.1, ht, by rw [jwaits_top _ _ _ hf]; exact h.2.2⟩
theorem FrsG.push {p : List Fn} {fs : List Fr} {t u : Fr} (h : FrsG p fs t) (hw : jwaitB p t (11, u.fn) = true) (hu : frameB p u = true) : FrsG p (fs ++ [t]) u := by
  refine ⟨fun f hf => ?_, hu, ?_⟩
  · rcases List.mem_append.1 hf with hf | hf
    · exact h.1 f hf
    · rw [List.mem_singleton.1 hf]; exact h.2.1
  · rw [List.append_assoc]
    show jwaitsB p (fs ++ [t, u]) = true
    rw [jwaits_snoc, h.2.2, hw]; rfl
theorem FrsG.pop {p : List Fn} {fs : List Fr} {t u : Fr} (h : FrsG p (fs ++ [t]) u) : FrsG p fs t ∧ jwaitB p t (11, u.fn) = true := by
  obtain ⟨h1, _, h3⟩ := h
  rw [List.append_assoc] at h3
  have h3' : jwaitsB p (fs ++ [t, u]) = true := h3
  rw [jwaits_snoc, Bool.and_eq_true] at h3'
  exact ⟨⟨fun f hf => h1 f (by simp [hf]), h1 t (by simp), h3'.1⟩, h3'.2⟩
theorem fiber_parts {p : List Fn} {fs : List Fr} {t : Fr} {c : Int} {on runs : Bool} : fiberB p ⟨fs ++ [t], c⟩ on runs = true ↔ FrsG p fs t ∧
    (if runs = true then (t.stack.length : Int) = hAt p t else if on = true then waitB p t 14 0 = true else c = -1 ∧ (freshB p ⟨fs ++ [t], c⟩ = true ∨ waitB p t 15 0 = true)) := by
  unfold fiberB
  simp only [List.getLast?_append, List.getLast?_singleton, Option.some_or, Bool.and_eq_true, FrsG.bool]
  cases runs <;> cases on <;> simp
theorem fiber_none {p : List Fn} {c : Int} {on runs : Bool} : fiberB p ⟨[], c⟩ on runs = true ↔ on = false ∧ c = -1 := by
  unfold fiberB
  simp
theorem Fb.form (b : Fb) : b = ⟨[], b.caller⟩ ∨ ∃ fs t, b = ⟨fs ++ [t], b.caller⟩ := by
  rcases List.eq_nil_or_concat b.frames with h | ⟨fs, t, h⟩
  · left; rw [← h]
  · right; exact ⟨fs, t, by rw [List.concat_eq_append] at h; rw [← h]⟩
theorem Good.on {p : List Fn} {s : St} {l : List Int} (h : Good p s l) {k : Nat} (hk : (k : Int) ∈ l) : ∃ fs t, fibAt s k = ⟨fs ++ [t], (fibAt s k).caller⟩ := by
  rcases Fb.form (fibAt s k) with e | e
  · have := h.each k (by have := h.path.inside _ hk; omega)
    rw [e, fiber_none, decide_eq_true hk] at this
    cases this.1
  · exact e
end Go.Proofs.YtokhibfenccijaaGreatDoor
