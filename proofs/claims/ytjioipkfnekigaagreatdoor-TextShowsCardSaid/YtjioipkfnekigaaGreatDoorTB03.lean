/- FlowM, FlowN, ProgT, TextD -/
import Derived.Test.YtjioipkfnekigaaGreatDoorTB02
set_option maxRecDepth 100000
set_option maxHeartbeats 8000000
namespace Go.Proofs.YtjioipkfnekigaaGreatDoor
def Reach (p : List Fn) (c : List (Int × Int)) (k : Nat) (h : Int) : Prop :=
  ∀ S : Nat → Int → Prop, S 0 0 → (∀ k h x m j, S k h → c[k]? = some x → beh p x h = some m → j ∈ nexts x k → S j m) → S k h
theorem Reach.zero (p : List Fn) (c : List (Int × Int)) : Reach p c 0 0 := fun _ h _ => h
theorem Reach.step {p : List Fn} {c : List (Int × Int)} {k : Nat} {h : Int} {x : Int × Int} {m : Int} {j : Nat} (r : Reach p c k h) (hx : c[k]? = some x) (hm : beh p x h = some m) (hj : j ∈ nexts x k) : Reach p c j m :=
  fun S h0 hs => hs k h x m j (r S h0 hs) hx hm hj
def Done (p : List Fn) (c : List (Int × Int)) (H : List Int) (k : Nat) : Prop :=
  ∃ x m, c[k]? = some x ∧ beh p x (H.getD k 0) = some m ∧ ∀ j, j ∈ nexts x k → j < c.length ∧ H.getD j 0 = m
structure Cons (p : List Fn) (c : List (Int × Int)) (H : List Int) : Prop where
  len : H.length = c.length
  pos : 0 < c.length
  first : H.getD 0 0 = 0
  done : ∀ k, k < c.length → H.getD k 0 ≠ -1 → Done p c H k
def Sound (p : List Fn) (c : List (Int × Int)) (H : List Int) : Prop :=
  ∀ k, k < c.length → H.getD k 0 = -1 ∨ (0 ≤ H.getD k 0 ∧ Reach p c k (H.getD k 0))
def Right (p : List Fn) (c : List (Int × Int)) : Prop := ∃ g : Fn, g.code = c ∧ ∀ x, x ∈ c → opS p g x = 0
theorem beh_nonneg {p : List Fn} {c : List (Int × Int)} (hr : Right p c) {x : Int × Int} (hx : x ∈ c) {h m : Int} (hm : beh p x h = some m) : 0 ≤ m ∧ m ≤ 8 := by
  obtain ⟨g, _, hg⟩ := hr
  have hop := hg x hx
  have hl : 0 ≤ (effS p x.1 x.2).2.1 := by
    by_cases h11 : x.1 = 11
    · rw [(effS_call hop h11).2.2.2]; exact Int.le_of_lt Int.one_pos
    · obtain ⟨ta, lb, h1, _, _, h4, _⟩ := effS_plain hop h11; rw [h1]; exact h4
  unfold beh at hm
  split at hm
  · rename_i hc
    simp only [Option.some.injEq] at hm
    omega
  · cases hm
theorem Reach.in {p : List Fn} {c : List (Int × Int)} {H : List Int} (hc : Cons p c H) (hr : Right p c) {k : Nat} {h : Int} (r : Reach p c k h) : k < c.length ∧ H.getD k 0 = h ∧ 0 ≤ h := by
  refine r (fun k h => k < c.length ∧ H.getD k 0 = h ∧ 0 ≤ h) ⟨hc.pos, hc.first, by omega⟩ ?_
  rintro k h x m j ⟨h1, h2, h3⟩ hx hm hj
  obtain ⟨x', m', hx', hm', hn⟩ := hc.done k h1 (by omega)
  obtain rfl : x = x' := by rw [hx] at hx'; exact Option.some.inj hx'
  rw [h2] at hm'
  obtain rfl : m = m' := by rw [hm] at hm'; exact Option.some.inj hm'
  obtain ⟨h4, h5⟩ := hn j hj
  exact ⟨h4, h5, (beh_nonneg hr (List.mem_of_getElem? hx) hm).1⟩
theorem cons_one {p : List Fn} {c : List (Int × Int)} (hr : Right p c) {H H' : List Int} (h : Cons p c H) (s : Sound p c H) (h' : Cons p c H') (s' : Sound p c H') : H = H' := by
  apply List.ext_getElem (h.len.trans h'.len.symm)
  intro k hk hk'
  have hkc : k < c.length := h.len ▸ hk
  have e1 : H[k] = H.getD k 0 := by simp [List.getD, hk]
  have e2 : H'[k] = H'.getD k 0 := by simp [List.getD, hk']
  rw [e1, e2]
  rcases s k hkc with a | ⟨a1, a2⟩
  · rcases s' k hkc with b | ⟨b1, b2⟩
    · rw [a, b]
    · have := b2.in h hr; omega
  · have := a2.in h' hr; omega
def Mono (H H' : List Int) : Prop := H'.length = H.length ∧ ∀ k, H.getD k 0 ≠ -1 → H'.getD k 0 = H.getD k 0
theorem Mono.refl (H : List Int) : Mono H H := ⟨rfl, fun _ _ => rfl⟩
theorem Mono.trans {A B C : List Int} (h : Mono A B) (k : Mono B C) : Mono A C :=
  ⟨k.1.trans h.1, fun i hi => by have := h.2 i hi; rw [k.2 i (by rw [this]; exact hi), this]⟩
theorem getD_set {H : List Int} {k : Nat} (hk : k < H.length) (z : Int) (i : Nat) : (H.set k z).getD i 0 = if i = k then z else H.getD i 0 := by
  simp only [List.getD, List.getElem?_set]
  by_cases h : k = i
  · subst h; simp [hk]
  · rw [if_neg h, if_neg (fun e => h e.symm)]
theorem Mono.set {H : List Int} {k : Nat} (hk : k < H.length) {z : Int} (h : H.getD k 0 = -1 ∨ H.getD k 0 = z) : Mono H (H.set k z) := by
  refine ⟨by simp, fun i hi => ?_⟩
  rw [getD_set hk]
  split
  · rename_i e; subst e; rcases h with h | h
    · exact absurd h hi
    · exact h.symm
  · rfl
theorem Done.mono {p : List Fn} {c : List (Int × Int)} (hr : Right p c) {H H' : List Int} (m : Mono H H') {k : Nat} (hk : H.getD k 0 ≠ -1) (d : Done p c H k) : Done p c H' k := by
  obtain ⟨x, n, hx, hn, hj⟩ := d
  refine ⟨x, n, hx, by rw [m.2 k hk]; exact hn, fun j hjn => ?_⟩
  obtain ⟨h1, h2⟩ := hj j hjn
  have h3 := (beh_nonneg hr (List.mem_of_getElem? hx) hn).1
  exact ⟨h1, by rw [m.2 j (by omega), h2]⟩
theorem comes_ok {p : List Fn} {c : List (Int × Int)} (hr : Right p c) (f : List Int → Nat → Int → Bool × List Int)
    (hf : ∀ H j m H', H.length = c.length → 0 ≤ m → f H j m = (true, H') → Mono H H' ∧ j < c.length ∧ H'.getD j 0 = m ∧ (∀ k, k < c.length → H.getD k 0 = -1 → H'.getD k 0 ≠ -1 → Done p c H' k) ∧ (Reach p c j m → Sound p c H → Sound p c H')) :
    ∀ (l : List Nat) (H : List Int) (m : Int) (H' : List Int), H.length = c.length → 0 ≤ m → comesS f l H m = (true, H') →
      Mono H H' ∧ (∀ j, j ∈ l → j < c.length ∧ H'.getD j 0 = m) ∧ (∀ k, k < c.length → H.getD k 0 = -1 → H'.getD k 0 ≠ -1 → Done p c H' k) ∧ ((∀ j, j ∈ l → Reach p c j m) → Sound p c H → Sound p c H')
  | [], H, m, H', hl, hm, h => by
    simp [comesS] at h
    subst h
    exact ⟨Mono.refl _, (fun j hj => by cases hj), fun k _ h1 h2 => absurd h1 h2, fun _ s => s⟩
  | i :: l, H, m, H', hl, hm, h => by
    simp only [comesS] at h
    cases hi : f H i m with
    | mk b H2 =>
      rw [hi] at h
      cases b with
      | false => simp at h
      | true =>
        obtain ⟨m1, i1, i2, d1, s1⟩ := hf H i m H2 hl hm hi
        obtain ⟨m2, j2, d2, s2⟩ := comes_ok hr f hf l H2 m H' (m1.1.trans hl) hm h
        refine ⟨m1.trans m2, ?_, ?_, ?_⟩
        · intro j hj
          rcases List.mem_cons.1 hj with rfl | hj
          · exact ⟨i1, by rw [m2.2 j (by omega), i2]⟩
          · exact j2 j hj
        · intro k hk h1 h2
          by_cases h3 : H2.getD k 0 = -1
          · exact d2 k hk h3 h2
          · exact (d1 k hk h1 h3).mono hr m2 h3
        · intro hR hs
          exact s2 (fun j hj => hR j (by simp [hj])) (s1 (hR i (by simp)) hs)
theorem come_ok {p : List Fn} {c : List (Int × Int)} (hr : Right p c) : ∀ (n : Nat) (H : List Int) (at_ : Nat) (h : Int) (H' : List Int), H.length = c.length → 0 ≤ h → comeS p c n H at_ h = (true, H') →
    Mono H H' ∧ at_ < c.length ∧ H'.getD at_ 0 = h ∧ (∀ k, k < c.length → H.getD k 0 = -1 → H'.getD k 0 ≠ -1 → Done p c H' k) ∧ (Reach p c at_ h → Sound p c H → Sound p c H')
  | 0, H, at_, h, H', _, _, hc => by simp [comeS] at hc
  | n + 1, H, at_, h, H', hl, hh, hc => by
    unfold comeS at hc
    by_cases h1 : c.length ≤ at_
    · rw [if_pos h1] at hc; simp at hc
    · rw [if_neg h1] at hc
      by_cases h2 : H.getD at_ 0 = -1
      · rw [if_pos h2] at hc
        have hx : c[at_]? = some (c.getD at_ (0, 0)) := getD_of_lt c at_ (0, 0) (by omega)
        generalize c.getD at_ (0, 0) = x at hx hc
        cases hb : beh p x h with
        | none => rw [hb] at hc; simp at hc
        | some m =>
          rw [hb] at hc
          have hm := (beh_nonneg hr (List.mem_of_getElem? hx) hb).1
          obtain ⟨m1, j1, d1, s1⟩ := comes_ok hr (comeS p c n) (fun H j m H' a b => come_ok hr n H j m H' a b) (nexts x at_) (H.set at_ h) m H' (by simpa using hl) hm hc
          have hlt : at_ < H.length := by omega
          have hset : (H.set at_ h).getD at_ 0 = h := by rw [getD_set hlt, if_pos rfl]
          have hat : H'.getD at_ 0 = h := by rw [m1.2 at_ (by omega), hset]
          refine ⟨(Mono.set hlt (.inl h2)).trans m1, by omega, hat, ?_, ?_⟩
          · intro k hk k1 k2
            by_cases e : k = at_
            · subst e
              exact ⟨x, m, hx, by rw [hat]; exact hb, j1⟩
            · exact d1 k hk (by rw [getD_set hlt, if_neg e]; exact k1) k2
          · intro hR hs
            refine s1 (fun j hj => hR.step hx hb hj) ?_
            intro k hk
            rw [getD_set hlt]
            by_cases e : k = at_
            · rw [if_pos e, e]; exact .inr ⟨hh, hR⟩
            · rw [if_neg e]; exact hs k hk
      · rw [if_neg h2] at hc
        simp at hc
        obtain ⟨hd, rfl⟩ := hc
        exact ⟨Mono.refl _, by omega, hd, fun k _ a b => absurd a b, fun _ s => s⟩
theorem comes_all {c : List (Int × Int)} (f : List Int → Nat → Int → Bool × List Int) {G : List Int} (n : Nat) {m : Int}
    (hf : ∀ H j, Mono H G → unv H < n → j < c.length → G.getD j 0 = m → ∃ H', f H j m = (true, H') ∧ Mono H' G ∧ unv H' ≤ unv H) :
    ∀ (l : List Nat) (H : List Int), Mono H G → unv H < n → (∀ j, j ∈ l → j < c.length ∧ G.getD j 0 = m) → ∃ H', comesS f l H m = (true, H') ∧ Mono H' G ∧ unv H' ≤ unv H
  | [], H, h, _, _ => ⟨H, rfl, h, Nat.le_refl _⟩
  | i :: l, H, h, hn, hj => by
    obtain ⟨H2, h2, m2, u2⟩ := hf H i h hn (hj i (by simp)).1 (hj i (by simp)).2
    obtain ⟨H3, h3, m3, u3⟩ := comes_all f n hf l H2 m2 (by omega) (fun j hjl => hj j (by simp [hjl]))
    exact ⟨H3, by simp only [comesS]; rw [h2]; exact h3, m3, by omega⟩
theorem come_all {p : List Fn} {c : List (Int × Int)} (hr : Right p c) {G : List Int} (hG : Cons p c G) : ∀ (n : Nat) (H : List Int) (at_ : Nat) (h : Int), Mono H G → unv H < n → at_ < c.length → G.getD at_ 0 = h → 0 ≤ h →
    ∃ H', comeS p c n H at_ h = (true, H') ∧ Mono H' G ∧ unv H' ≤ unv H
  | 0, H, at_, h, _, hn, _, _, _ => by omega
  | n + 1, H, at_, h, hm, hn, ha, hg, hh => by
    unfold comeS
    rw [if_neg (by omega)]
    have hlt : at_ < H.length := by rw [← hm.1, hG.len]; exact ha
    by_cases h2 : H.getD at_ 0 = -1
    · rw [if_pos h2]
      obtain ⟨x, m, hx, hb, hj⟩ := hG.done at_ ha (by omega)
      have hx' := getD_of_lt c at_ (0, 0) ha
      rw [hx] at hx'
      rw [← Option.some.inj hx', ← hg, hb]
      have hmm := (beh_nonneg hr (List.mem_of_getElem? hx) hb).1
      have hu := unv_set H at_ (G.getD at_ 0) h2 (by omega)
      have hset : Mono (H.set at_ (G.getD at_ 0)) G := by
        refine ⟨by simpa using hm.1, fun k hk => ?_⟩
        rw [getD_set hlt] at hk ⊢
        split
        · rename_i e; rw [e]
        · rename_i e; rw [if_neg e] at hk; exact hm.2 k hk
      obtain ⟨H', h3, h4, h5⟩ := comes_all (c := c) (comeS p c n) n (fun H j a b d e => come_all hr hG n H j m a b d e hmm) (nexts x at_) (H.set at_ (G.getD at_ 0)) hset (by omega) hj
      exact ⟨H', h3, h4, by omega⟩
    · rw [if_neg h2]
      have : H.getD at_ 0 = h := by rw [← hm.2 at_ h2, hg]
      exact ⟨H, by simp only [this, decide_true], hm, Nat.le_refl _⟩
def pushS (len : Nat) : List Nat → Int → List Int → Option (List Int)
  | [], _, H => some H
  | j :: r, m, H => if j = len ∨ (0 ≤ H.getD j 0 ∧ H.getD j 0 ≠ m) then none else pushS len r m (H.set j m)
def stepS (p : List Fn) (c : List (Int × Int)) (H : List Int) (k : Nat) : Option (List Int) :=
  if H.getD k 0 < 0 then some H else
    match beh p (c.getD k (0, 0)) (H.getD k 0) with
    | none => none
    | some m => pushS c.length (nexts (c.getD k (0, 0)) k) m H
def roundS (p : List Fn) (c : List (Int × Int)) : Nat → List Int → Option (List Int)
  | 0, H => some H
  | k + 1, H => (roundS p c k H).bind fun H' => stepS p c H' k
def roundsS (p : List Fn) (c : List (Int × Int)) : Nat → List Int → Option (List Int)
  | 0, H => some H
  | r + 1, H => (roundsS p c r H).bind (roundS p c c.length)
def start (c : List (Int × Int)) : List Int := List.replicate c.length (-1)
def heightsS (p : List Fn) (c : List (Int × Int)) : Option (List Int) :=
  if c.length = 0 then none else roundsS p c (c.length + 1) ((start c).set 0 0)
theorem nexts_le {p : List Fn} {c : List (Int × Int)} (hr : Right p c) {k : Nat} {x : Int × Int} (hx : c[k]? = some x) {j : Nat} (hj : j ∈ nexts x k) : j ≤ c.length := by
  obtain ⟨g, rfl, hg⟩ := hr
  obtain ⟨h1, h2, hm⟩ := opS_kind (hg x (List.mem_of_getElem? hx))
  have hk : k < g.code.length := (List.getElem?_eq_some_iff.1 hx).1
  have hJ : (x.1 = 9 ∨ x.1 = 10) → x.2.toNat < g.code.length := by
    intro h
    have ho : opd x.1.toNat = 3 := by rcases h with h | h <;> rw [h] <;> rfl
    rw [ho] at hm
    have := (ixB_iff.1 (show ixB x.2 g.code.length = true from hm))
    omega
  unfold nexts at hj
  split at hj
  · cases hj
  · split at hj
    · rename_i h; simp at hj; have := hJ (.inl h); omega
    · split at hj
      · rename_i h
        simp at hj
        have := hJ (.inr h)
        omega
      · simp at hj; omega
def Inv (c : List (Int × Int)) (H : List Int) : Prop := H.length = c.length ∧ ∀ k, k < c.length → H.getD k 0 = -1 ∨ 0 ≤ H.getD k 0
theorem push_ok {c : List (Int × Int)} {m : Int} (hm : 0 ≤ m) : ∀ (l : List Nat) (H H' : List Int), (∀ j, j ∈ l → j ≤ c.length) → Inv c H → pushS c.length l m H = some H' →
    Mono H H' ∧ Inv c H' ∧ (∀ j, j ∈ l → j < c.length ∧ H'.getD j 0 = m) ∧ (∀ k, H.getD k 0 = -1 → H'.getD k 0 ≠ -1 → k ∈ l ∧ H'.getD k 0 = m)
  | [], H, H', _, hi, h => by
    simp [pushS] at h
    subst h
    exact ⟨Mono.refl _, hi, (fun j hj => by cases hj), fun k a b => absurd a b⟩
  | j :: l, H, H', hl, hi, h => by
    unfold pushS at h
    by_cases hc : j = c.length ∨ (0 ≤ H.getD j 0 ∧ H.getD j 0 ≠ m)
    · rw [if_pos hc] at h; cases h
    · rw [if_neg hc] at h
      have hj : j < c.length := by have := hl j (by simp); omega
      have hlt : j < H.length := by rw [hi.1]; exact hj
      have hold : H.getD j 0 = -1 ∨ H.getD j 0 = m := by
        rcases hi.2 j hj with a | a
        · exact .inl a
        · exact .inr (Decidable.byContradiction fun b => hc (.inr ⟨a, b⟩))
      have hi2 : Inv c (H.set j m) := by
        refine ⟨by simpa using hi.1, fun k hk => ?_⟩
        rw [getD_set hlt]
        split
        · exact .inr hm
        · exact hi.2 k hk
      obtain ⟨m1, i1, j1, n1⟩ := push_ok hm l (H.set j m) H' (fun i hil => hl i (by simp [hil])) hi2 h
      have hjm : H'.getD j 0 = m := by rw [m1.2 j (by rw [getD_set hlt, if_pos rfl]; omega), getD_set hlt, if_pos rfl]
      refine ⟨(Mono.set hlt hold).trans m1, i1, ?_, ?_⟩
      · intro i hil
        rcases List.mem_cons.1 hil with rfl | hil
        · exact ⟨hj, hjm⟩
        · exact j1 i hil
      · intro k a b
        by_cases e : k = j
        · subst e; exact ⟨by simp, hjm⟩
        · obtain ⟨c1, c2⟩ := n1 k (by rw [getD_set hlt, if_neg e]; exact a) b
          exact ⟨by simp [c1], c2⟩
theorem step_ok {p : List Fn} {c : List (Int × Int)} (hr : Right p c) {H H' : List Int} {k : Nat} (hk : k < c.length) (hi : Inv c H) (h : stepS p c H k = some H') :
    Mono H H' ∧ Inv c H' ∧ (H.getD k 0 ≠ -1 → Done p c H' k) ∧ (Sound p c H → Sound p c H') := by
  have hx := getD_of_lt c k (0, 0) hk
  unfold stepS at h
  generalize c.getD k (0, 0) = x at hx h
  by_cases h1 : H.getD k 0 < 0
  · rw [if_pos h1] at h
    simp at h
    subst h
    exact ⟨Mono.refl _, hi, fun a => by rcases hi.2 k hk with b | b <;> omega, fun s => s⟩
  · rw [if_neg h1] at h
    cases hb : beh p x (H.getD k 0) with
    | none => rw [hb] at h; cases h
    | some m =>
      rw [hb] at h
      have hm := (beh_nonneg hr (List.mem_of_getElem? hx) hb).1
      obtain ⟨m1, i1, j1, n1⟩ := push_ok hm (nexts x k) H H' (fun j hj => nexts_le hr hx hj) hi h
      refine ⟨m1, i1, fun hne => ⟨x, m, hx, by rw [m1.2 k hne]; exact hb, j1⟩, fun s i hil => ?_⟩
      by_cases a : H.getD i 0 = -1
      · by_cases b : H'.getD i 0 = -1
        · exact .inl b
        · obtain ⟨c1, c2⟩ := n1 i a b
          rw [c2]
          refine .inr ⟨hm, ?_⟩
          rcases s k hk with d | ⟨_, d⟩
          · omega
          · exact d.step hx hb c1
      · rw [m1.2 i a]; exact s i hil
theorem mono_anti {H H1 : List Int} (a : Mono H H1) (b : Mono H1 H) : H1 = H := by
  apply List.ext_getElem a.1
  intro k hk hk'
  have e1 : H1[k] = H1.getD k 0 := by simp [List.getD, hk]
  have e2 : H[k] = H.getD k 0 := by simp [List.getD, hk']
  rw [e1, e2]
  by_cases h : H.getD k 0 = -1
  · by_cases h' : H1.getD k 0 = -1
    · rw [h, h']
    · exact (b.2 k h').symm
  · exact a.2 k h
theorem round_ok {p : List Fn} {c : List (Int × Int)} (hr : Right p c) : ∀ (k : Nat) (H H' : List Int), k ≤ c.length → Inv c H → roundS p c k H = some H' →
    Mono H H' ∧ Inv c H' ∧ (Sound p c H → Sound p c H') ∧ (H' = H → ∀ i, i < k → H.getD i 0 ≠ -1 → Done p c H i)
  | 0, H, H', _, hi, h => by
    simp [roundS] at h
    subst h
    exact ⟨Mono.refl _, hi, fun s => s, fun _ i hi => by omega⟩
  | k + 1, H, H', hk, hi, h => by
    simp only [roundS] at h
    obtain ⟨H1, h1, h2⟩ := Option.bind_eq_some_iff.1 h
    obtain ⟨m1, i1, s1, d1⟩ := round_ok hr k H H1 (by omega) hi h1
    obtain ⟨m2, i2, d2, s2⟩ := step_ok hr (by omega) i1 h2
    refine ⟨m1.trans m2, i2, fun s => s2 (s1 s), fun e i hik hne => ?_⟩
    subst e
    have e1 := mono_anti m1 m2
    by_cases hlast : i = k
    · subst hlast
      exact d2 (by rw [e1]; exact hne)
    · exact d1 e1 i (by omega) hne
theorem unv_mono : ∀ (H H' : List Int), H'.length = H.length → (∀ k, H.getD k 0 ≠ -1 → H'.getD k 0 = H.getD k 0) → unv H' ≤ unv H ∧ (H' ≠ H → unv H' < unv H)
  | [], [], _, _ => ⟨Nat.le_refl _, fun h => absurd rfl h⟩
  | [], _ :: _, h, _ => by simp at h
  | _ :: _, [], h, _ => by simp at h
  | z :: H, z' :: H', hl, h => by
    obtain ⟨a, b⟩ := unv_mono H H' (by simpa using hl) (fun k hk => by have := h (k + 1) (by simpa using hk); simpa using this)
    have h0 := h 0
    simp only [List.getD_cons_zero] at h0
    have cz : ∀ (z : Int) (H : List Int), unv (z :: H) = (if z = -1 then 1 else 0) + unv H := by
      intro z H
      unfold unv
      rw [List.filter_cons]
      split
      · rename_i e; simp at e; rw [if_pos e]; simp; omega
      · rename_i e; simp at e; rw [if_neg e]; simp
    rw [cz, cz]
    by_cases e : z = -1
    · by_cases e' : z' = -1
      · rw [if_pos e, if_pos e']
        refine ⟨by omega, fun hne => ?_⟩
        have := b (fun q => hne (by rw [q, e, e']))
        omega
      · rw [if_pos e, if_neg e']
        exact ⟨by omega, fun _ => by omega⟩
    · have e2 := h0 e
      rw [e2, if_neg e]
      refine ⟨by omega, fun hne => ?_⟩
      have := b (fun q => hne (by rw [q]))
      omega
theorem rounds_ok {p : List Fn} {c : List (Int × Int)} (hr : Right p c) : ∀ (r : Nat) (H H' : List Int), Inv c H → Sound p c H → roundsS p c r H = some H' →
    Mono H H' ∧ Inv c H' ∧ Sound p c H' ∧ (roundS p c c.length H' = some H' ∨ unv H' + r ≤ unv H)
  | 0, H, H', hi, hs, h => by
    simp [roundsS] at h
    subst h
    exact ⟨Mono.refl _, hi, hs, .inr (by omega)⟩
  | r + 1, H, H', hi, hs, h => by
    simp only [roundsS] at h
    obtain ⟨H1, h1, h2⟩ := Option.bind_eq_some_iff.1 h
    obtain ⟨m1, i1, s1, d1⟩ := rounds_ok hr r H H1 hi hs h1
    obtain ⟨m2, i2, s2, _⟩ := round_ok hr c.length H1 H' (Nat.le_refl _) i1 h2
    refine ⟨m1.trans m2, i2, s2 s1, ?_⟩
    by_cases e : H' = H1
    · subst e; exact .inl h2
    · rcases d1 with d1 | d1
      · rw [h2] at d1; exact absurd (Option.some.inj d1) e
      · have := (unv_mono H1 H' m2.1 m2.2).2 e
        exact .inr (by omega)
theorem unv_le (H : List Int) : unv H ≤ H.length := List.length_filter_le _ _
theorem start_inv {c : List (Int × Int)} (h : 0 < c.length) : Inv c ((start c).set 0 0) ∧ (∀ k, k < c.length → ((start c).set 0 0).getD k 0 = if k = 0 then 0 else -1) := by
  have hl : (start c).length = c.length := by simp [start]
  have hg : ∀ k, k < c.length → ((start c).set 0 0).getD k 0 = if k = 0 then 0 else -1 := by
    intro k hk
    rw [getD_set (by omega)]
    split
    · rfl
    · simp [start, List.getD, hk]
  refine ⟨⟨by simpa using hl, fun k hk => ?_⟩, hg⟩
  rw [hg k hk]
  split
  · exact .inr (by omega)
  · exact .inl rfl
theorem heightsS_ok {p : List Fn} {c : List (Int × Int)} (hr : Right p c) {H : List Int} (h : heightsS p c = some H) : Cons p c H ∧ Sound p c H := by
  unfold heightsS at h
  by_cases h0 : c.length = 0
  · rw [if_pos h0] at h; cases h
  · rw [if_neg h0] at h
    obtain ⟨hi, hg⟩ := start_inv (c := c) (by omega)
    have hs : Sound p c ((start c).set 0 0) := by
      intro k hk
      rw [hg k hk]
      split
      · rename_i e; subst e; exact .inr ⟨by omega, Reach.zero p c⟩
      · exact .inl rfl
    obtain ⟨m1, i1, s1, d1⟩ := rounds_ok hr _ _ H hi hs h
    have hu := unv_le ((start c).set 0 0)
    rw [hi.1] at hu
    have hfix : roundS p c c.length H = some H := by
      rcases d1 with d | d
      · exact d
      · omega
    obtain ⟨_, _, _, d2⟩ := round_ok hr c.length H H (Nat.le_refl _) i1 hfix
    refine ⟨⟨i1.1, by omega, ?_, fun k hk hne => d2 rfl k hk hne⟩, s1⟩
    have h00 := hg 0 (by omega)
    rw [if_pos rfl] at h00
    rw [m1.2 0 (by omega), h00]
theorem push_all {c : List (Int × Int)} {m : Int} {G : List Int} (hl : G.length = c.length) : ∀ (l : List Nat) (H : List Int), Mono H G → (∀ j, j ∈ l → j < c.length ∧ G.getD j 0 = m) → ∃ H', pushS c.length l m H = some H' ∧ Mono H' G
  | [], H, h, _ => ⟨H, rfl, h⟩
  | j :: l, H, h, hj => by
    obtain ⟨h1, h2⟩ := hj j (by simp)
    have hlt : j < H.length := by rw [← h.1, hl]; exact h1
    unfold pushS
    rw [if_neg]
    · refine push_all hl l (H.set j m) ⟨by simpa using h.1, fun k hk => ?_⟩ (fun i hil => hj i (by simp [hil]))
      rw [getD_set hlt] at hk ⊢
      split
      · rename_i e; rw [e, h2]
      · rename_i e; rw [if_neg e] at hk; exact h.2 k hk
    · rintro (a | ⟨a, b⟩)
      · omega
      · exact b (by rw [← h.2 j (by omega), h2])
theorem round_all {p : List Fn} {c : List (Int × Int)} {G : List Int} (hG : Cons p c G) : ∀ (k : Nat) (H : List Int), k ≤ c.length → Mono H G → ∃ H', roundS p c k H = some H' ∧ Mono H' G
  | 0, H, _, h => ⟨H, rfl, h⟩
  | k + 1, H, hk, h => by
    obtain ⟨H1, h1, m1⟩ := round_all hG k H (by omega) h
    simp only [roundS, h1, Option.bind_some]
    unfold stepS
    by_cases hz : H1.getD k 0 < 0
    · rw [if_pos hz]; exact ⟨H1, rfl, m1⟩
    · rw [if_neg hz]
      have e := m1.2 k (by omega)
      obtain ⟨x, m, hx, hb, hj⟩ := hG.done k (by omega) (by omega)
      have hx' := getD_of_lt c k (0, 0) (by omega)
      rw [hx] at hx'
      rw [← Option.some.inj hx', ← e, hb]
      exact push_all hG.len (nexts x k) H1 m1 hj
theorem rounds_all {p : List Fn} {c : List (Int × Int)} {G : List Int} (hG : Cons p c G) : ∀ (r : Nat) (H : List Int), Mono H G → ∃ H', roundsS p c r H = some H' ∧ Mono H' G
  | 0, H, h => ⟨H, rfl, h⟩
  | r + 1, H, h => by
    obtain ⟨H1, h1, m1⟩ := rounds_all hG r H h
    simp only [roundsS, h1, Option.bind_some]
    exact round_all hG c.length H1 (Nat.le_refl _) m1
theorem start_mono {p : List Fn} {c : List (Int × Int)} {G : List Int} (hG : Cons p c G) : Mono ((start c).set 0 0) G ∧ Mono (start c) G := by
  obtain ⟨hi, hg⟩ := start_inv (c := c) hG.pos
  refine ⟨⟨hG.len.trans hi.1.symm, fun k hk => ?_⟩, ⟨hG.len.trans (by simp [start]), fun k hk => ?_⟩⟩
  · by_cases hkl : k < c.length
    · rw [hg k hkl] at hk ⊢
      split
      · rename_i e; rw [e]; exact hG.first
      · rename_i e; rw [if_neg e] at hk; exact absurd rfl hk
    · simp [List.getD, hG.len, hi.1, hkl]
  · by_cases hkl : k < c.length
    · exact absurd (by simp [start, List.getD, hkl]) hk
    · simp [List.getD, hG.len, start, hkl]
def wayS (p : List Fn) (c : List (Int × Int)) : Bool × List Int := comeS p c (c.length + 1) (start c) 0 0
theorem wayS_ok {p : List Fn} {c : List (Int × Int)} (hr : Right p c) {H : List Int} (h : wayS p c = (true, H)) : Cons p c H ∧ Sound p c H := by
  have hl : (start c).length = c.length := by simp [start]
  have hg : ∀ k, k < c.length → (start c).getD k 0 = -1 := fun k hk => by simp [start, List.getD, hk]
  obtain ⟨m1, a1, a2, d1, s1⟩ := come_ok hr _ _ _ _ H hl (by omega) h
  refine ⟨⟨m1.1.trans hl, by omega, a2, fun k hk hne => d1 k hk (hg k hk) hne⟩, s1 (Reach.zero p c) (fun k hk => .inl (hg k hk))⟩
theorem way_heights {p : List Fn} {c : List (Int × Int)} (hr : Right p c) : (∀ H, wayS p c = (true, H) → heightsS p c = some H) ∧ (∀ H, heightsS p c = some H → wayS p c = (true, H)) := by
  constructor
  · intro H h
    obtain ⟨a, b⟩ := wayS_ok hr h
    obtain ⟨H', h', _⟩ := rounds_all a (c.length + 1) _ (start_mono a).1
    have hh : heightsS p c = some H' := by
      unfold heightsS
      rw [if_neg (by have := a.pos; omega)]
      exact h'
    obtain ⟨a', b'⟩ := heightsS_ok hr hh
    rw [hh, cons_one hr a b a' b']
  · intro H h
    obtain ⟨a, b⟩ := heightsS_ok hr h
    have hu := unv_le (start c)
    rw [show (start c).length = c.length by simp [start]] at hu
    obtain ⟨H', h', _⟩ := come_all hr a (c.length + 1) (start c) 0 0 (start_mono a).2 (by omega) a.pos a.first (by omega)
    obtain ⟨a', b'⟩ := wayS_ok hr h'
    rw [cons_one hr a b a' b']
    exact h'
def firstS (e : Nat → Int) : Nat → Nat → Int
  | _, 0 => 0
  | k, n + 1 => if e k = 0 then firstS e (k + 1) n else e k
theorem firstS_zero {e : Nat → Int} : ∀ {n k : Nat}, firstS e k n = 0 → ∀ i, k ≤ i → i < k + n → e i = 0
  | 0, _, _, i, h1, h2 => by omega
  | n + 1, k, h, i, h1, h2 => by
    unfold firstS at h
    split at h
    · rename_i h0
      rcases Nat.lt_or_eq_of_le h1 with h3 | rfl
      · exact firstS_zero h i h3 (by omega)
      · exact h0
    · rename_i h0; exact absurd h h0
theorem firstS_step {e : Nat → Int} {k m : Nat} (h : k < m) : firstS e k (m - k) = if e k = 0 then firstS e (k + 1) (m - (k + 1)) else e k := by
  obtain ⟨n, hn⟩ : ∃ n, m - k = n + 1 := ⟨m - k - 1, by omega⟩
  rw [hn, show m - (k + 1) = n by omega]
  rfl
def hgtE (p : List Fn) (k : Nat) : Int := match heightsS p (codeOf p k) with | some _ => 0 | none => 1
def progS (p : List Fn) : Int :=
  if 5 < p.length then 2 else if p.length = 0 then 5 else if (p.getD 0 Fn.zero).args ≠ 0 then 1
  else if firstS (fun k => chkS p k) 0 p.length = 0 then firstS (hgtE p) 0 p.length else firstS (fun k => chkS p k) 0 p.length
theorem progS_right {p : List Fn} (h : progS p = 0) : p.length ≤ 5 ∧ 0 < p.length ∧ ∀ k, k < p.length → chkS p k = 0 := by
  unfold progS at h
  split at h
  · cases h
  · split at h
    · cases h
    · split at h
      · cases h
      · split at h
        · rename_i h0
          exact ⟨by omega, by omega, fun k hk => firstS_zero h0 k (by omega) (by omega)⟩
        · rename_i h0; exact absurd h h0
open Go.RowKit Go.Maps
structure OkT (p : List Fn) : Prop where
  len : p.length ≤ 5
  fn : ∀ f ∈ p, (0 ≤ f.args ∧ f.args ≤ 4) ∧ (0 ≤ f.locals ∧ f.locals ≤ 4) ∧ f.code.length ≤ 24 ∧ ∀ x ∈ f.code, (0 ≤ x.1 ∧ x.1 < 17) ∧ (0 ≤ x.2 ∧ x.2 ≤ 999) ∧ ((tkS.getD x.1.toNat ([], 0)).2 = 0 → x.2 = 0)
theorem tk_opd (k : Nat) (h : k < 17) : (tkS.getD k ([], 0)).2 = 0 → opd k = 0 := by revert h; revert k; decide
theorem right_okT {p : List Fn} (h : progS p = 0) : OkT p := by
  obtain ⟨h1, h2, h3⟩ := progS_right h
  refine ⟨h1, fun f hf => ?_⟩
  obtain ⟨k, hk, rfl⟩ := List.getElem_of_mem hf
  obtain ⟨i, hi, hi2, q1, q2, q3⟩ := chkS_zero (h3 k hk)
  obtain rfl : k = i := by omega
  have hg : p.getD k Fn.zero = p[k] := by simp [List.getD, hk]
  rw [hg] at q1 q2 q3
  obtain ⟨r1, r2, r3⟩ := roomB_iff.1 q2
  refine ⟨⟨r1, by omega⟩, ⟨by omega, r3⟩, q1, fun x hx => ?_⟩
  obtain ⟨s1, s2, s3⟩ := opS_kind (opsS_all q3 x hx)
  refine ⟨⟨s1, s2⟩, ?_, fun h0 => ?_⟩
  · unfold mayB at s3
    split at s3
    · have := of_decide_eq_true s3; omega
    · split at s3
      · have := inB_iff.1 s3; omega
      · split at s3
        · have := ixB_iff.1 s3; omega
        · split at s3
          · have := ixB_iff.1 s3; omega
          · have := ixB_iff.1 (Bool.and_eq_true_iff.1 s3).1; omega
  · rw [tk_opd _ (by omega) h0] at s3
    simpa [mayB] using s3
theorem strCells_bytes (l : List UInt8) : Lib.strCells ⟨l.toArray⟩ = Lib.byteCells l := by simp [Lib.strCells, Lib.byteCells]
theorem byteCells_app (a b : List UInt8) : Lib.byteCells (a ++ b) = Lib.byteCells a ++ Lib.byteCells b := by simp [Lib.byteCells]
theorem writeT (w : World) (B b : Nat) (l t : List UInt8) (h : BuI B b (Lib.byteCells l) w) (hBw : B ≤ w.heap.size) (hl : l.length + t.length ≤ 1000000) :
    Calls Tryz.prog 18 #[.pointer (some ⟨b, 0, none⟩), .string ⟨t.toArray⟩] w fun e w' => e = .returned (.tuple #[.int .i64 t.length, .nilIface]) ∧ BuI B b (Lib.byteCells (l ++ t)) w' ∧ Below B w w' ∧ BuK w w' := by
  have hs : (ByteArray.mk t.toArray).size = t.length := by simp [ByteArray.size]
  have := write_any w B b _ ⟨t.toArray⟩ h hBw (by rw [Lib.byteCells_length, hs]; omega)
  rw [hs, strCells_bytes, ← byteCells_app] at this
  exact this.mono fun _ _ ⟨h1, h2, h3⟩ => ⟨h1, .inr h2, h3⟩
theorem line_len (wd : List UInt8) (l : List Int) (h : wd.length ≤ 6) (hl : l.length ≤ 2) (hz : ∀ z ∈ l, I64 z) : (lineT wd l).length ≤ 100 := by
  have := join_len (wd :: l.map Lib.itoa) 20 (fun x hx => by
    rcases List.mem_cons.1 hx with rfl | hx
    · omega
    · obtain ⟨z, hz', rfl⟩ := List.mem_map.1 hx
      exact itoa_len (hz z hz'))
  simp only [List.length_cons, List.length_map] at this
  have h2 : (l.length + 1) * (20 + 1) ≤ 3 * 21 := Nat.mul_le_mul (by omega) (by omega)
  simp only [lineT, List.length_append, List.length_cons, List.length_nil]
  omega
theorem opT_len {x : Int × Int} (h : 0 ≤ x.2 ∧ x.2 ≤ 999) : (opT x).length ≤ 100 := by
  unfold opT
  have := tk_len x.1.toNat
  split
  · exact line_len _ _ (by omega) (by simp) (by simp)
  · exact line_len _ _ (by omega) (by simp) (by simp; unfold I64; omega)
theorem flatT_len {α : Type} (g : α → List UInt8) (K : Nat) : ∀ (l : List α), (∀ x ∈ l, (g x).length ≤ K) → (l.flatMap g).length ≤ l.length * K
  | [], _ => by simp
  | x :: l, h => by
    have h1 := h x (by simp)
    have h2 := flatT_len g K l (fun y hy => h y (by simp [hy]))
    simp only [List.flatMap_cons, List.length_append, List.length_cons, Nat.add_mul]
    omega
theorem flatT_snoc {α : Type} (g : α → List UInt8) (l : List α) {k : Nat} {x : α} (hx : l[k]? = some x) : (l.take (k + 1)).flatMap g = (l.take k).flatMap g ++ g x := by
  rw [List.take_add_one, hx, List.flatMap_append]
  simp
theorem fnT_len {p : List Fn} (h : OkT p) {f : Fn} (hf : f ∈ p) : (fnT f).length ≤ 2500 := by
  obtain ⟨h1, h2, h3, h4⟩ := h.fn f hf
  have q1 := line_len [102, 117, 110, 99] [f.args, f.locals] (by simp) (by simp) (by simp; unfold I64; omega)
  have q2 := flatT_len opT 100 f.code (fun x hx => opT_len (h4 x hx).2.1)
  have : f.code.length * 100 ≤ 24 * 100 := Nat.mul_le_mul_right _ h3
  simp only [fnT, List.length_append]
  omega
theorem takeT_len {p : List Fn} (h : OkT p) (k : Nat) : ((p.take k).flatMap fnT).length ≤ 12500 := by
  have := flatT_len fnT 2500 (p.take k) (fun f hf => fnT_len h (List.mem_of_mem_take hf))
  have h5 := h.len
  have h6 : (p.take k).length ≤ 5 := by simp; omega
  have : (p.take k).length * 2500 ≤ 5 * 2500 := Nat.mul_le_mul_right _ h6
  omega
theorem show_ok (w : World) (p : List Fn) (vp : Value) (hp : ProgAt w vp p) (ho : OkT p) (ht : TabW w) (hk : TKAt w)
    (HPC : Hid (Calls Tryz.prog 17 #[vp] w fun e w' => e = .returned (.int .i64 0) ∧ Kept w w')) :
    Calls Tryz.prog 5 #[vp] w fun e w' => e = .returned (.tuple #[strV (showT p), .int .i64 0]) ∧ Kept w w' := by
  have HO := hide ho
  have HT := hide ht
  have HTK := hide hk
  obtain ⟨oa, cap, rfl, hn, hi⟩ := hp
  have HI := hide hi
  have hn5 := ho.len
  generalize hN : p.length = n at *
  have HN := hide hN
  clear ho ht hk hi hN hn
  go_enter Tryz.func5, Tryz.ntmps5
  go_wp2_with fail
  refine (unhide HPC).mono ?_
  rintro _ w1 ⟨rfl, k1⟩
  have HK1 := hide k1
  clear k1 HPC
  go_wp2_with fail
  obtain ⟨B, hB⟩ : ∃ r, r = w1.heap.size := ⟨_, rfl⟩
  have H1 : Hid (BuI B B (Lib.byteCells []) (w1.alloc (.cells #[.pointer none, .slice none 0 0] 50)) ∧ Kept w1 (w1.alloc (.cells #[.pointer none, .slice none 0 0] 50))) := hide ⟨by rw [hB]; exact BuI.new w1, (Kept.refl w1).alloc _⟩
  rw [← hB]
  have HB : Hid (B = w1.heap.size) := hide hB
  clear hB
  generalize w1.alloc (.cells #[.pointer none, .slice none 0 0] 50) = w2 at *
  go_loopw [17] (fun s17 wr => ∃ k : Nat, k ≤ n ∧ s17 = .int .i64 k ∧ Hid (BuI B B (Lib.byteCells ((p.take k).flatMap fnT)) wr ∧ Kept w1 wr)) (fun s17 _ => n - (intOf s17).toNat)
  case atStart => exact ⟨0, Nat.zero_le _, rfl, hide ⟨by simpa using (unhide H1).1, (unhide H1).2⟩⟩
  case round =>
    obtain ⟨k, hkn, rfl, HW⟩ := hrel
    clear H1
    by_cases hk : k < n
    · obtain ⟨f, hf⟩ : ∃ f, p[k]? = some f := ⟨_, List.getElem?_eq_getElem (by rw [unhide HN]; exact hk)⟩
      obtain ⟨bb, oo, cv, rfl, c0, c1, c2, hc⟩ := (unhide HI) k f hf
      have kk := (unhide HK1).trans (unhide HW).2
      replace c0 := kk.cell c0
      replace c1 := kk.cell c1
      replace c2 := kk.cell c2
      have hk0 : (0 : Int) ≤ (k : Int) := by omega
      have hk1 : (k : Int) < (n : Int) := by omega
      obtain ⟨oc, cc, rfl, hnc, hic⟩ := hc
      obtain ⟨ha, hlo, hcl, hop⟩ := (unhide HO).fn f (List.mem_of_getElem? hf)
      have HF := hide hf
      have HOP := hide hop
      have HIC := hide hic
      have HLN : Hid (∀ u b, Kept w u → u.heap[b]? = some (.cells #[.int .i64 f.args, .int .i64 f.locals] 3) → Calls Tryz.prog 19 #[.string ⟨#[102, 117, 110, 99]⟩, .slice (some ⟨b, 0, none⟩) 2 2] u fun e w' => e = .returned (strV (lineT [102, 117, 110, 99] [f.args, f.locals])) ∧ Kept u w') := hide fun u b hu hb => tLine_any u [102, 117, 110, 99] _ [f.args, f.locals] ⟨_, _, rfl, by simp, fun i z hz => ⟨b, 0, rfl, by
          rw [cell_lays hb, Nat.zero_add]
          match i, hz with
          | 0, hz => simpa using hz
          | 1, hz => simpa using hz⟩⟩ (by simp) (by simp) (by simp; unfold I64; omega) ((unhide HT).kept hu)
      have HKK := hide kk
      generalize hNC : f.code.length = nc at *
      clear hf hop hic kk hnc
      go_wp2_with fail
      obtain ⟨F, hF⟩ : ∃ r, r = wr.heap.size := ⟨_, rfl⟩
      obtain ⟨y1, hy1⟩ : ∃ u, u = (wr.alloc (.cells #[.int .i64 f.args, .int .i64 f.locals, .slice oc nc cc] 42)).alloc (.cells #[.int .i64 f.args, .int .i64 f.locals] 3) := ⟨_, rfl⟩
      have HY : Hid (BuI B B (Lib.byteCells ((p.take k).flatMap fnT)) y1 ∧ Kept w1 y1 ∧ y1.heap[F]? = some (.cells #[.int .i64 f.args, .int .i64 f.locals, .slice oc nc cc] 42) ∧ y1.heap[F + 1]? = some (.cells #[.int .i64 f.args, .int .i64 f.locals] 3)) := hide (by
        have kz : Kept wr y1 := by rw [hy1]; exact ((Kept.refl wr).alloc _).alloc _
        exact ⟨(unhide HW).1.kept kz, (unhide HW).2.trans kz, by rw [hy1, hF]; exact lays_alloc (lays_new rfl) _, by rw [hy1, hF]; exact lays_new (by simp)⟩)
      rw [← hF, ← hy1]
      clear hF hy1 HW HKK c0 c1 c2
      refine ((unhide HLN) y1 (F + 1) ((unhide HK1).trans (unhide HY).2.1) (unhide HY).2.2.2).mono ?_
      rintro _ y2 ⟨rfl, k2⟩
      have HLL : Hid (((p.take k).flatMap fnT).length ≤ 12500 ∧ (lineT [102, 117, 110, 99] [f.args, f.locals]).length ≤ 100) := hide ⟨takeT_len (unhide HO) k, line_len _ _ (by simp) (by simp) (by simp; unfold I64; omega)⟩
      have HWS := hide (writeT y2 B B _ (lineT [102, 117, 110, 99] [f.args, f.locals]) ((unhide HY).1.kept k2) (by have := unhide HB; have := ((unhide HY).2.1.trans k2).size; omega) (by have := unhide HLL; omega))
      have HY2 : Hid (Kept w1 y2 ∧ y2.heap[F]? = some (.cells #[.int .i64 f.args, .int .i64 f.locals, .slice oc nc cc] 42)) := hide ⟨(unhide HY).2.1.trans k2, lays_kept k2 (unhide HY).2.2.1⟩
      clear k2 HY HLN
      unfold strV
      generalize (lineT [102, 117, 110, 99] [f.args, f.locals]).length = nl at *
      generalize hTT : (ByteArray.mk (lineT [102, 117, 110, 99] [f.args, f.locals]).toArray) = TT at *
      go_wp2_with fail
      refine (unhide HWS).mono ?_
      rintro _ y3 ⟨rfl, b3, k3, j3⟩
      have HY3 : Hid (BuI B B (Lib.byteCells ((p.take k).flatMap fnT ++ lineT [102, 117, 110, 99] [f.args, f.locals])) y3 ∧ Kept w1 y3) := hide ⟨b3, Below.trans (unhide HY2).1 (by rw [← unhide HB]; exact k3)⟩
      have LF := j3 F _ _ (by decide) (by decide) (unhide HY2).2
      have a2 := cell_lays LF 2
      clear b3 k3 j3 HWS HY2 LF hTT
      go_wp2_with fail
      clear a2
      generalize hPRE : (p.take k).flatMap fnT ++ lineT [102, 117, 110, 99] [f.args, f.locals] = pre at *
      have HPL : Hid (pre.length ≤ 13000) := hide (by have := (unhide HLL).1; have h2 := line_len [102, 117, 110, 99] [f.args, f.locals] (by simp) (by simp) (by simp; unfold I64; omega); rw [← hPRE, List.length_append]; omega)
      go_loopw [31] (fun s31 wi => ∃ i : Nat, i ≤ nc ∧ s31 = .int .i64 i ∧ Hid (BuI B B (Lib.byteCells (pre ++ (f.code.take i).flatMap opT)) wi ∧ Kept w1 wi)) (fun s31 _ => nc - (intOf s31).toNat)
      case atStart => exact ⟨0, Nat.zero_le _, rfl, hide ⟨by simpa using (unhide HY3).1, (unhide HY3).2⟩⟩
      case round =>
        obtain ⟨i, hin, rfl, HI2⟩ := hrel
        clear HY3
        by_cases hi : i < nc
        · obtain ⟨⟨x1, x2⟩, hx⟩ : ∃ x, f.code[i]? = some x := ⟨_, List.getElem?_eq_getElem (by rw [hNC]; exact hi)⟩
          obtain ⟨b', o', rfl, d0, d1⟩ := (unhide HIC) i _ hx
          have kk := (unhide HK1).trans (unhide HI2).2
          replace d0 := kk.cell d0
          replace d1 := kk.cell d1
          have hi0 : (0 : Int) ≤ (i : Int) := by omega
          have hi1 : (i : Int) < (nc : Int) := by omega
          obtain ⟨hx1, hx2, _⟩ := (unhide HOP) _ (List.mem_of_getElem? hx)
          simp only at hx1 hx2 d0 d1
          obtain ⟨kd, rfl⟩ := Int.eq_ofNat_of_zero_le hx1.1
          have HX := hide hx
          have HOL : Hid (∀ u, Kept w u → Calls Tryz.prog 20 #[.agg #[.int .i64 kd, .int .i64 x2]] u fun e w' => e = .returned (strV (opT (kd, x2))) ∧ Kept u w') := hide fun u hu => opLine_any u kd x2 (by omega) (by unfold I64; omega) ((unhide HT).kept hu) ((unhide HTK).kept hu)
          have HKK := hide kk
          have HPO : Hid ((opT ((kd : Int), x2)).length ≤ 100) := hide (opT_len hx2)
          clear hx kk hx1 hx2
          go_wp2_with fail
          refine ((unhide HOL) _ ((unhide HKK).alloc _)).mono ?_
          rintro _ y2 ⟨rfl, k2⟩
          have HPF : Hid (((f.code.take i).flatMap opT).length ≤ 2400) := hide (by
            have := flatT_len opT 100 (f.code.take i) (fun x hx => opT_len ((unhide HOP) x (List.mem_of_mem_take hx)).2.1)
            have h2 : (f.code.take i).length ≤ 24 := by simp; omega
            have : (f.code.take i).length * 100 ≤ 24 * 100 := Nat.mul_le_mul_right _ h2
            omega)
          have kz := ((Kept.refl wr).alloc (.cells #[.int .i64 (kd : Int), .int .i64 x2] 44)).trans k2
          have HWS := hide (writeT y2 B B _ (opT ((kd : Int), x2)) ((unhide HI2).1.kept kz) (by have := unhide HB; have := ((unhide HI2).2.trans kz).size; omega) (by have := unhide HPL; have := unhide HPF; have := unhide HPO; simp only [List.length_append]; omega))
          have HY2 : Hid (Kept w1 y2) := hide ((unhide HI2).2.trans kz)
          clear k2 kz HOL HI2 HKK d0 d1
          unfold strV
          generalize (opT ((kd : Int), x2)).length = nl at *
          generalize hTT : (ByteArray.mk (opT ((kd : Int), x2)).toArray) = TT at *
          go_wp2_with fail
          refine (unhide HWS).mono ?_
          rintro _ y3 ⟨rfl, b3, k3, _⟩
          have HN3 : Hid (BuI B B (Lib.byteCells (pre ++ (f.code.take (i + 1)).flatMap opT)) y3 ∧ Kept w1 y3) := hide ⟨by rw [flatT_snoc opT f.code (unhide HX), ← List.append_assoc]; exact b3, Below.trans (unhide HY2) (by rw [← unhide HB]; exact k3)⟩
          clear b3 k3 HWS HY2 hTT
          go_wp2_with fail
          go_roundw
          case rel => exact ⟨i + 1, by omega, by go_num, HN3⟩
          case measure => simp [intOf]; omega
        · obtain rfl : i = nc := by omega
          have HN3 : Hid (BuI B B (Lib.byteCells ((p.take (k + 1)).flatMap fnT)) wr ∧ Kept w1 wr) := hide ⟨by
            have h1 := (unhide HI2).1
            rw [List.take_of_length_le (by omega), ← hPRE] at h1
            rw [flatT_snoc fnT p (unhide HF)]
            simpa [fnT, List.append_assoc] using h1, (unhide HI2).2⟩
          clear HI2
          go_wp2_with fail
          go_roundw
          case rel => exact ⟨k + 1, by omega, by go_num, HN3⟩
          case measure => simp [intOf]; omega
    · obtain rfl : k = n := by omega
      have HS : Hid (Calls Tryz.prog 21 #[.pointer (some ⟨B, 0, none⟩)] wr fun e w' => e = .returned (.string ⟨(showT p).toArray⟩) ∧ Below B wr w') := hide (by
        have h1 := (unhide HW).1
        rw [List.take_of_length_le (by rw [unhide HN]; omega)] at h1
        exact Tryz.Builder_String_any B B (showT p) wr h1 (by have := unhide HB; have := (unhide HW).2.size; omega))
      have HK := hide ((unhide HK1).trans (unhide HW).2)
      have HKW := hide (unhide HW).2
      clear HW
      go_wp2_with fail
      refine (unhide HS).mono ?_
      rintro _ w3 ⟨rfl, k3⟩
      have HK3 : Hid (Kept w w3) := hide ((unhide HK1).trans (Below.trans (unhide HKW) (by rw [← unhide HB]; exact k3)))
      clear k3 HS
      generalize hTT : (ByteArray.mk (showT p).toArray) = TT at *
      go_wp2_with fail
      go_ret2
      exact ⟨by rw [strV, hTT]; rfl, unhide HK3⟩
end Go.Proofs.YtjioipkfnekigaaGreatDoor
