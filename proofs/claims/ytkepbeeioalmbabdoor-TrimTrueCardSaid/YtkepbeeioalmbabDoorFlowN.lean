/-
  Plain facts on heights: the reference's rounds come to the same as the program's way.
-/
import Derived.Test.YtkepbeeioalmbabDoorFlowM
namespace Go.Proofs.YtkepbeeioalmbabDoor

/-- A height is put to the ops that come next. -/
def pushS (len : Nat) : List Nat → Int → List Int → Option (List Int)
  | [], _, H => some H
  | j :: r, m, H => if j = len ∨ (0 ≤ H.getD j 0 ∧ H.getD j 0 ≠ m) then none else pushS len r m (H.set j m)
/-- One op of a round. -/
def stepS (p : List Fn) (c : List (Int × Int)) (H : List Int) (k : Nat) : Option (List Int) :=
  if H.getD k 0 < 0 then some H else
    match beh p (c.getD k (0, 0)) (H.getD k 0) with
    | none => none
    | some m => pushS c.length (nexts (c.getD k (0, 0)) k) m H
/-- The first k ops of a round. -/
def roundS (p : List Fn) (c : List (Int × Int)) : Nat → List Int → Option (List Int)
  | 0, H => some H
  | k + 1, H => (roundS p c k H).bind fun H' => stepS p c H' k
/-- So many rounds. -/
def roundsS (p : List Fn) (c : List (Int × Int)) : Nat → List Int → Option (List Int)
  | 0, H => some H
  | r + 1, H => (roundsS p c r H).bind (roundS p c c.length)
def start (c : List (Int × Int)) : List Int := List.replicate c.length (-1)
def heightsS (p : List Fn) (c : List (Int × Int)) : Option (List Int) :=
  if c.length = 0 then none else roundsS p c (c.length + 1) ((start c).set 0 0)

theorem nexts_le {p : List Fn} {c : List (Int × Int)} (hr : Right p c) {k : Nat} {x : Int × Int} (hx : c[k]? = some x) {j : Nat} (hj : j ∈ nexts x k) : j ≤ c.length := by
  obtain ⟨g, rfl, hg⟩ := hr
  obtain ⟨h1, h2, hm⟩ := opS_kind (hg x (List.mem_of_getElem? hx))
  have hk : k < g.code.length := (List.getElem?_eq_some_iff.1 hx).1
  have hJ : (x.1 = 9 ∨ x.1 = 10) → x.2.toNat < g.code.length := by
    intro h
    have ho : opd x.1.toNat = 3 := by rcases h with h | h <;> rw [h] <;> rfl
    rw [ho] at hm
    have := (ixB_iff.1 (show ixB x.2 g.code.length = true from hm))
    omega
  unfold nexts at hj
  split at hj
  · cases hj
  · split at hj
    · rename_i h; simp at hj; have := hJ (.inl h); omega
    · split at hj
      · rename_i h
        simp at hj
        have := hJ (.inr h)
        omega
      · simp at hj; omega

def Inv (c : List (Int × Int)) (H : List Int) : Prop := H.length = c.length ∧ ∀ k, k < c.length → H.getD k 0 = -1 ∨ 0 ≤ H.getD k 0

theorem push_ok {c : List (Int × Int)} {m : Int} (hm : 0 ≤ m) : ∀ (l : List Nat) (H H' : List Int), (∀ j, j ∈ l → j ≤ c.length) → Inv c H → pushS c.length l m H = some H' →
    Mono H H' ∧ Inv c H' ∧ (∀ j, j ∈ l → j < c.length ∧ H'.getD j 0 = m) ∧ (∀ k, H.getD k 0 = -1 → H'.getD k 0 ≠ -1 → k ∈ l ∧ H'.getD k 0 = m)
  | [], H, H', _, hi, h => by
    simp [pushS] at h
    subst h
    exact ⟨Mono.refl _, hi, (fun j hj => by cases hj), fun k a b => absurd a b⟩
  | j :: l, H, H', hl, hi, h => by
    unfold pushS at h
    by_cases hc : j = c.length ∨ (0 ≤ H.getD j 0 ∧ H.getD j 0 ≠ m)
    · rw [if_pos hc] at h; cases h
    · rw [if_neg hc] at h
      have hj : j < c.length := by have := hl j (by simp); omega
      have hlt : j < H.length := by rw [hi.1]; exact hj
      have hold : H.getD j 0 = -1 ∨ H.getD j 0 = m := by
        rcases hi.2 j hj with a | a
        · exact .inl a
        · exact .inr (Decidable.byContradiction fun b => hc (.inr ⟨a, b⟩))
      have hi2 : Inv c (H.set j m) := by
        refine ⟨by simpa using hi.1, fun k hk => ?_⟩
        rw [getD_set hlt]
        split
        · exact .inr hm
        · exact hi.2 k hk
      obtain ⟨m1, i1, j1, n1⟩ := push_ok hm l (H.set j m) H' (fun i hil => hl i (by simp [hil])) hi2 h
      have hjm : H'.getD j 0 = m := by rw [m1.2 j (by rw [getD_set hlt, if_pos rfl]; omega), getD_set hlt, if_pos rfl]
      refine ⟨(Mono.set hlt hold).trans m1, i1, ?_, ?_⟩
      · intro i hil
        rcases List.mem_cons.1 hil with rfl | hil
        · exact ⟨hj, hjm⟩
        · exact j1 i hil
      · intro k a b
        by_cases e : k = j
        · subst e; exact ⟨by simp, hjm⟩
        · obtain ⟨c1, c2⟩ := n1 k (by rw [getD_set hlt, if_neg e]; exact a) b
          exact ⟨by simp [c1], c2⟩

theorem step_ok {p : List Fn} {c : List (Int × Int)} (hr : Right p c) {H H' : List Int} {k : Nat} (hk : k < c.length) (hi : Inv c H) (h : stepS p c H k = some H') :
    Mono H H' ∧ Inv c H' ∧ (H.getD k 0 ≠ -1 → Done p c H' k) ∧ (Sound p c H → Sound p c H') := by
  have hx := getD_of_lt c k (0, 0) hk
  unfold stepS at h
  generalize c.getD k (0, 0) = x at hx h
  by_cases h1 : H.getD k 0 < 0
  · rw [if_pos h1] at h
    simp at h
    subst h
    exact ⟨Mono.refl _, hi, fun a => by rcases hi.2 k hk with b | b <;> omega, fun s => s⟩
  · rw [if_neg h1] at h
    cases hb : beh p x (H.getD k 0) with
    | none => rw [hb] at h; cases h
    | some m =>
      rw [hb] at h
      have hm := (beh_nonneg hr (List.mem_of_getElem? hx) hb).1
      obtain ⟨m1, i1, j1, n1⟩ := push_ok hm (nexts x k) H H' (fun j hj => nexts_le hr hx hj) hi h
      refine ⟨m1, i1, fun hne => ⟨x, m, hx, by rw [m1.2 k hne]; exact hb, j1⟩, fun s i hil => ?_⟩
      by_cases a : H.getD i 0 = -1
      · by_cases b : H'.getD i 0 = -1
        · exact .inl b
        · obtain ⟨c1, c2⟩ := n1 i a b
          rw [c2]
          refine .inr ⟨hm, ?_⟩
          rcases s k hk with d | ⟨_, d⟩
          · omega
          · exact d.step hx hb c1
      · rw [m1.2 i a]; exact s i hil

theorem mono_anti {H H1 : List Int} (a : Mono H H1) (b : Mono H1 H) : H1 = H := by
  apply List.ext_getElem a.1
  intro k hk hk'
  have e1 : H1[k] = H1.getD k 0 := by simp [List.getD, hk]
  have e2 : H[k] = H.getD k 0 := by simp [List.getD, hk']
  rw [e1, e2]
  by_cases h : H.getD k 0 = -1
  · by_cases h' : H1.getD k 0 = -1
    · rw [h, h']
    · exact (b.2 k h').symm
  · exact a.2 k h

theorem round_ok {p : List Fn} {c : List (Int × Int)} (hr : Right p c) : ∀ (k : Nat) (H H' : List Int), k ≤ c.length → Inv c H → roundS p c k H = some H' →
    Mono H H' ∧ Inv c H' ∧ (Sound p c H → Sound p c H') ∧ (H' = H → ∀ i, i < k → H.getD i 0 ≠ -1 → Done p c H i)
  | 0, H, H', _, hi, h => by
    simp [roundS] at h
    subst h
    exact ⟨Mono.refl _, hi, fun s => s, fun _ i hi => by omega⟩
  | k + 1, H, H', hk, hi, h => by
    simp only [roundS] at h
    obtain ⟨H1, h1, h2⟩ := Option.bind_eq_some_iff.1 h
    obtain ⟨m1, i1, s1, d1⟩ := round_ok hr k H H1 (by omega) hi h1
    obtain ⟨m2, i2, d2, s2⟩ := step_ok hr (by omega) i1 h2
    refine ⟨m1.trans m2, i2, fun s => s2 (s1 s), fun e i hik hne => ?_⟩
    subst e
    have e1 := mono_anti m1 m2
    by_cases hlast : i = k
    · subst hlast
      exact d2 (by rw [e1]; exact hne)
    · exact d1 e1 i (by omega) hne

theorem unv_mono : ∀ (H H' : List Int), H'.length = H.length → (∀ k, H.getD k 0 ≠ -1 → H'.getD k 0 = H.getD k 0) → unv H' ≤ unv H ∧ (H' ≠ H → unv H' < unv H)
  | [], [], _, _ => ⟨Nat.le_refl _, fun h => absurd rfl h⟩
  | [], _ :: _, h, _ => by simp at h
  | _ :: _, [], h, _ => by simp at h
  | z :: H, z' :: H', hl, h => by
    obtain ⟨a, b⟩ := unv_mono H H' (by simpa using hl) (fun k hk => by have := h (k + 1) (by simpa using hk); simpa using this)
    have h0 := h 0
    simp only [List.getD_cons_zero] at h0
    have cz : ∀ (z : Int) (H : List Int), unv (z :: H) = (if z = -1 then 1 else 0) + unv H := by
      intro z H
      unfold unv
      rw [List.filter_cons]
      split
      · rename_i e; simp at e; rw [if_pos e]; simp; omega
      · rename_i e; simp at e; rw [if_neg e]; simp
    rw [cz, cz]
    by_cases e : z = -1
    · by_cases e' : z' = -1
      · rw [if_pos e, if_pos e']
        refine ⟨by omega, fun hne => ?_⟩
        have := b (fun q => hne (by rw [q, e, e']))
        omega
      · rw [if_pos e, if_neg e']
        exact ⟨by omega, fun _ => by omega⟩
    · have e2 := h0 e
      rw [e2, if_neg e]
      refine ⟨by omega, fun hne => ?_⟩
      have := b (fun q => hne (by rw [q]))
      omega

theorem rounds_ok {p : List Fn} {c : List (Int × Int)} (hr : Right p c) : ∀ (r : Nat) (H H' : List Int), Inv c H → Sound p c H → roundsS p c r H = some H' →
    Mono H H' ∧ Inv c H' ∧ Sound p c H' ∧ (roundS p c c.length H' = some H' ∨ unv H' + r ≤ unv H)
  | 0, H, H', hi, hs, h => by
    simp [roundsS] at h
    subst h
    exact ⟨Mono.refl _, hi, hs, .inr (by omega)⟩
  | r + 1, H, H', hi, hs, h => by
    simp only [roundsS] at h
    obtain ⟨H1, h1, h2⟩ := Option.bind_eq_some_iff.1 h
    obtain ⟨m1, i1, s1, d1⟩ := rounds_ok hr r H H1 hi hs h1
    obtain ⟨m2, i2, s2, _⟩ := round_ok hr c.length H1 H' (Nat.le_refl _) i1 h2
    refine ⟨m1.trans m2, i2, s2 s1, ?_⟩
    by_cases e : H' = H1
    · subst e; exact .inl h2
    · rcases d1 with d1 | d1
      · rw [h2] at d1; exact absurd (Option.some.inj d1) e
      · have := (unv_mono H1 H' m2.1 m2.2).2 e
        exact .inr (by omega)

theorem unv_le (H : List Int) : unv H ≤ H.length := List.length_filter_le _ _

theorem start_inv {c : List (Int × Int)} (h : 0 < c.length) : Inv c ((start c).set 0 0) ∧ (∀ k, k < c.length → ((start c).set 0 0).getD k 0 = if k = 0 then 0 else -1) := by
  have hl : (start c).length = c.length := by simp [start]
  have hg : ∀ k, k < c.length → ((start c).set 0 0).getD k 0 = if k = 0 then 0 else -1 := by
    intro k hk
    rw [getD_set (by omega)]
    split
    · rfl
    · simp [start, List.getD, hk]
  refine ⟨⟨by simpa using hl, fun k hk => ?_⟩, hg⟩
  rw [hg k hk]
  split
  · exact .inr (by omega)
  · exact .inl rfl

theorem heightsS_ok {p : List Fn} {c : List (Int × Int)} (hr : Right p c) {H : List Int} (h : heightsS p c = some H) : Cons p c H ∧ Sound p c H := by
  unfold heightsS at h
  by_cases h0 : c.length = 0
  · rw [if_pos h0] at h; cases h
  · rw [if_neg h0] at h
    obtain ⟨hi, hg⟩ := start_inv (c := c) (by omega)
    have hs : Sound p c ((start c).set 0 0) := by
      intro k hk
      rw [hg k hk]
      split
      · rename_i e; subst e; exact .inr ⟨by omega, Reach.zero p c⟩
      · exact .inl rfl
    obtain ⟨m1, i1, s1, d1⟩ := rounds_ok hr _ _ H hi hs h
    have hu := unv_le ((start c).set 0 0)
    rw [hi.1] at hu
    have hfix : roundS p c c.length H = some H := by
      rcases d1 with d | d
      · exact d
      · omega
    obtain ⟨_, _, _, d2⟩ := round_ok hr c.length H H (Nat.le_refl _) i1 hfix
    refine ⟨⟨i1.1, by omega, ?_, fun k hk hne => d2 rfl k hk hne⟩, s1⟩
    have h00 := hg 0 (by omega)
    rw [if_pos rfl] at h00
    rw [m1.2 0 (by omega), h00]

theorem push_all {c : List (Int × Int)} {m : Int} {G : List Int} (hl : G.length = c.length) : ∀ (l : List Nat) (H : List Int), Mono H G → (∀ j, j ∈ l → j < c.length ∧ G.getD j 0 = m) → ∃ H', pushS c.length l m H = some H' ∧ Mono H' G
  | [], H, h, _ => ⟨H, rfl, h⟩
  | j :: l, H, h, hj => by
    obtain ⟨h1, h2⟩ := hj j (by simp)
    have hlt : j < H.length := by rw [← h.1, hl]; exact h1
    unfold pushS
    rw [if_neg]
    · refine push_all hl l (H.set j m) ⟨by simpa using h.1, fun k hk => ?_⟩ (fun i hil => hj i (by simp [hil]))
      rw [getD_set hlt] at hk ⊢
      split
      · rename_i e; rw [e, h2]
      · rename_i e; rw [if_neg e] at hk; exact h.2 k hk
    · rintro (a | ⟨a, b⟩)
      · omega
      · exact b (by rw [← h.2 j (by omega), h2])

theorem round_all {p : List Fn} {c : List (Int × Int)} {G : List Int} (hG : Cons p c G) : ∀ (k : Nat) (H : List Int), k ≤ c.length → Mono H G → ∃ H', roundS p c k H = some H' ∧ Mono H' G
  | 0, H, _, h => ⟨H, rfl, h⟩
  | k + 1, H, hk, h => by
    obtain ⟨H1, h1, m1⟩ := round_all hG k H (by omega) h
    simp only [roundS, h1, Option.bind_some]
    unfold stepS
    by_cases hz : H1.getD k 0 < 0
    · rw [if_pos hz]; exact ⟨H1, rfl, m1⟩
    · rw [if_neg hz]
      have e := m1.2 k (by omega)
      obtain ⟨x, m, hx, hb, hj⟩ := hG.done k (by omega) (by omega)
      have hx' := getD_of_lt c k (0, 0) (by omega)
      rw [hx] at hx'
      rw [← Option.some.inj hx', ← e, hb]
      exact push_all hG.len (nexts x k) H1 m1 hj

theorem rounds_all {p : List Fn} {c : List (Int × Int)} {G : List Int} (hG : Cons p c G) : ∀ (r : Nat) (H : List Int), Mono H G → ∃ H', roundsS p c r H = some H' ∧ Mono H' G
  | 0, H, h => ⟨H, rfl, h⟩
  | r + 1, H, h => by
    obtain ⟨H1, h1, m1⟩ := rounds_all hG r H h
    simp only [roundsS, h1, Option.bind_some]
    exact round_all hG c.length H1 (Nat.le_refl _) m1

theorem start_mono {p : List Fn} {c : List (Int × Int)} {G : List Int} (hG : Cons p c G) : Mono ((start c).set 0 0) G ∧ Mono (start c) G := by
  obtain ⟨hi, hg⟩ := start_inv (c := c) hG.pos
  refine ⟨⟨hG.len.trans hi.1.symm, fun k hk => ?_⟩, ⟨hG.len.trans (by simp [start]), fun k hk => ?_⟩⟩
  · by_cases hkl : k < c.length
    · rw [hg k hkl] at hk ⊢
      split
      · rename_i e; rw [e]; exact hG.first
      · rename_i e; rw [if_neg e] at hk; exact absurd rfl hk
    · simp [List.getD, hG.len, hi.1, hkl]
  · by_cases hkl : k < c.length
    · exact absurd (by simp [start, List.getD, hkl]) hk
    · simp [List.getD, hG.len, start, hkl]

/-- The program's way, from the first op on. -/
def wayS (p : List Fn) (c : List (Int × Int)) : Bool × List Int := comeS p c (c.length + 1) (start c) 0 0

theorem wayS_ok {p : List Fn} {c : List (Int × Int)} (hr : Right p c) {H : List Int} (h : wayS p c = (true, H)) : Cons p c H ∧ Sound p c H := by
  have hl : (start c).length = c.length := by simp [start]
  have hg : ∀ k, k < c.length → (start c).getD k 0 = -1 := fun k hk => by simp [start, List.getD, hk]
  obtain ⟨m1, a1, a2, d1, s1⟩ := come_ok hr _ _ _ _ H hl (by omega) h
  refine ⟨⟨m1.1.trans hl, by omega, a2, fun k hk hne => d1 k hk (hg k hk) hne⟩, s1 (Reach.zero p c) (fun k hk => .inl (hg k hk))⟩

theorem way_heights {p : List Fn} {c : List (Int × Int)} (hr : Right p c) : (∀ H, wayS p c = (true, H) → heightsS p c = some H) ∧ (∀ H, heightsS p c = some H → wayS p c = (true, H)) := by
  constructor
  · intro H h
    obtain ⟨a, b⟩ := wayS_ok hr h
    obtain ⟨H', h', _⟩ := rounds_all a (c.length + 1) _ (start_mono a).1
    have hh : heightsS p c = some H' := by
      unfold heightsS
      rw [if_neg (by have := a.pos; omega)]
      exact h'
    obtain ⟨a', b'⟩ := heightsS_ok hr hh
    rw [hh, cons_one hr a b a' b']
  · intro H h
    obtain ⟨a, b⟩ := heightsS_ok hr h
    have hu := unv_le (start c)
    rw [show (start c).length = c.length by simp [start]] at hu
    obtain ⟨H', h', _⟩ := come_all hr a (c.length + 1) (start c) 0 0 (start_mono a).2 (by omega) a.pos a.first (by omega)
    obtain ⟨a', b'⟩ := wayS_ok hr h'
    rw [cons_one hr a b a' b']
    exact h'
end Go.Proofs.YtkepbeeioalmbabDoor
