/- ForgeS, ForgeA, Takes, TakesQ, OpA, OpE -/
import Derived.Test.YtjioipkfnekigaaGreatDoorPB01
import Derived.Test.YtjioipkfnekigaaGreatDoorPB02
import Derived.Laws.AppendOwn
import Derived.Maps.AppendAt
import Derived.Test.YtjioipkfnekigaaGreatDoorChecked
import Derived.Deep.RegionHeld3
import Derived.Laws.EntriesVeiled
set_option maxRecDepth 100000
set_option maxHeartbeats 8000000
namespace Go.Proofs.YtjioipkfnekigaaGreatDoor
def layS : Nat → List (Int × Int) → Nat → List (Int × Int) × List (Int × Int)
  | 0, e, _ => ([], e)
  | _ + 1, [], _ => ([], [])
  | n + 1, x :: r, h =>
    if x.1 = 0 then ([(0, x.2)], r) else if x.1 = 1 then ([(2, x.2)], r)
    else if x.1 = 7 then
      let a := layS n r h
      let b := layS n a.2 (h + a.1.length + 1)
      let c := layS n b.2 (h + a.1.length + 1 + b.1.length + 1)
      (a.1 ++ ((10, ((h + a.1.length + 1 + b.1.length + 1 : Nat) : Int)) :: (b.1 ++ ((9, ((h + a.1.length + 1 + b.1.length + 1 + c.1.length : Nat) : Int)) :: c.1))), c.2)
    else
      let a := layS n r h
      let b := layS n a.2 (h + a.1.length)
      (a.1 ++ (b.1 ++ [(x.1 + 2, 0)]), b.2)
def hgS : Nat → List (Int × Int) → Int → List Int × List (Int × Int)
  | 0, e, _ => ([], e)
  | _ + 1, [], _ => ([], [])
  | n + 1, x :: r, z =>
    if x.1 = 0 then ([z], r) else if x.1 = 1 then ([z], r)
    else if x.1 = 7 then
      let a := hgS n r z
      let b := hgS n a.2 z
      let c := hgS n b.2 z
      (a.1 ++ ((z + 1) :: (b.1 ++ ((z + 1) :: c.1))), c.2)
    else
      let a := hgS n r z
      let b := hgS n a.2 (z + 1)
      (a.1 ++ (b.1 ++ [z + 2]), b.2)
theorem lay_hg : ∀ (n : Nat) (e : List (Int × Int)) (h : Nat) (z : Int) (vals : List Int), (hgS n e z).1.length = (layS n e h).1.length ∧ (hgS n e z).2 = (valS vals n e).2 ∧ (layS n e h).2 = (valS vals n e).2
  | 0, e, _, _, _ => ⟨rfl, rfl, rfl⟩
  | _ + 1, [], _, _, _ => ⟨rfl, rfl, rfl⟩
  | n + 1, x :: r, h, z, vals => by
    unfold layS hgS valS
    split
    · exact ⟨rfl, rfl, rfl⟩
    split
    · exact ⟨rfl, rfl, rfl⟩
    split
    · obtain ⟨a1, a2, a3⟩ := lay_hg n r h z vals
      obtain ⟨b1, b2, b3⟩ := lay_hg n (valS vals n r).2 (h + (layS n r h).1.length + 1) z vals
      obtain ⟨c1, c2, c3⟩ := lay_hg n (valS vals n (valS vals n r).2).2 (h + (layS n r h).1.length + 1 + (layS n (valS vals n r).2 (h + (layS n r h).1.length + 1)).1.length + 1) z vals
      simp only [a2, a3, b2, b3, c2, c3, List.length_append, List.length_cons]
      exact ⟨by omega, trivial, trivial⟩
    · obtain ⟨a1, a2, a3⟩ := lay_hg n r h z vals
      obtain ⟨b1, b2, b3⟩ := lay_hg n (valS vals n r).2 (h + (layS n r h).1.length) (z + 1) vals
      simp only [a2, a3, b2, b3, List.length_append, List.length_cons, List.length_nil]
      exact ⟨by omega, trivial, trivial⟩
def At {α : Type} (C : List α) (h : Nat) (c : List α) : Prop := ∀ k x, c[k]? = some x → C[h + k]? = some x
theorem At.app {α : Type} {C : List α} {h : Nat} {c d : List α} (a : At C h (c ++ d)) : At C h c ∧ At C (h + c.length) d := by
  refine ⟨fun k x hx => a k x ?_, fun k x hx => ?_⟩
  · rw [List.getElem?_append_left (List.getElem?_eq_some_iff.1 hx).1]; exact hx
  · have := a (c.length + k) x (by rw [List.getElem?_append_right (by omega)]; simpa using hx)
    rwa [← Nat.add_assoc] at this
theorem At.cons {α : Type} {C : List α} {h : Nat} {x : α} {d : List α} (a : At C h (x :: d)) : C[h]? = some x ∧ At C (h + 1) d := by
  refine ⟨a 0 x rfl, fun k y hy => ?_⟩
  have := a (k + 1) y hy
  rwa [show h + (k + 1) = h + 1 + k by omega] at this
theorem At.getD {α : Type} {C : List α} {h : Nat} {x d : α} {c : List α} (a : At C h (x :: c)) : C.getD h d = x := by
  have := a.cons.1
  simp [List.getD, this]
def Seg (p : List Fn) (C : List (Int × Int)) (H : List Int) (a b : Nat) : Prop :=
  ∀ k, a ≤ k → k < b → ∃ x m, C[k]? = some x ∧ beh p x (H.getD k 0) = some m ∧ ∀ j, j ∈ nexts x k → j ≤ b ∧ H.getD j 0 = m
theorem Seg.nil (p : List Fn) (C : List (Int × Int)) (H : List Int) (a : Nat) : Seg p C H a a := fun k h1 h2 => by omega
theorem Seg.app {p : List Fn} {C : List (Int × Int)} {H : List Int} {a b c : Nat} (h : Seg p C H a b) (g : Seg p C H b c) (hc : b ≤ c) : Seg p C H a c := fun k h1 h2 => by
  by_cases e : k < b
  · obtain ⟨x, m, q1, q2, q3⟩ := h k h1 e
    exact ⟨x, m, q1, q2, fun j hj => ⟨by have := (q3 j hj).1; omega, (q3 j hj).2⟩⟩
  · exact g k (by omega) h2
theorem Seg.one {p : List Fn} {C : List (Int × Int)} {H : List Int} {a b : Nat} {x : Int × Int} {m : Int} (hx : C[a]? = some x) (hb : beh p x (H.getD a 0) = some m) (hn : ∀ j, j ∈ nexts x a → j ≤ b ∧ H.getD j 0 = m) (hab : a < b) (g : Seg p C H (a + 1) b) : Seg p C H a b := fun k h1 h2 => by
  by_cases e : k = a
  · subst e; exact ⟨x, m, hx, hb, hn⟩
  · exact g k (by omega) h2
theorem beh_plain (p : List Fn) {x : Int × Int} {z : Int} (h0 : 0 ≤ x.1) (h9 : x.1 ≤ 10) {t l : Int} (ht : tk x.1.toNat = t) (hl : lv x.1.toNat = l) {m : Int} (h1 : t ≤ z) (h2 : m ≤ 8) (hm : m = z - t + l) : beh p x z = some m := by
  subst hm
  have he : effS p x.1 x.2 = (t, l, 0) := by unfold effS; rw [if_pos (by omega), if_neg (by omega), ht, hl]
  unfold beh
  rw [he, if_pos ⟨rfl, h1, fun h => by omega, h2⟩]
theorem nexts_jump (t k : Nat) : nexts (9, (t : Int)) k = [t] := by simp [nexts]
theorem nexts_zero (t k : Nat) : nexts (10, (t : Int)) k = [t, k + 1] := by simp [nexts]
theorem getD_of_at {C : List Int} {h : Nat} {x : Int} (a : C[h]? = some x) : C.getD h 0 = x := by simp [List.getD, a]
theorem lay_seg (p : List Fn) (C : List (Int × Int)) (H : List Int) (vals : List Int) : ∀ (n : Nat) (e : List (Int × Int)) (o : Int) (h : Nat) (z : Int), e.length ≤ n → 1 ≤ o → onlyS e o = true → (∀ x ∈ e, kindOk x) →
    0 ≤ z → 2 * z + ((e.length - (valS vals n e).2.length : Nat) : Int) + 1 ≤ 16 → At C h (layS n e h).1 → At H h (hgS n e z).1 → H.getD (h + (layS n e h).1.length) 0 = z + 1 →
    0 < (layS n e h).1.length ∧ H.getD h 0 = z ∧ Seg p C H h (h + (layS n e h).1.length)
  | n, [], o, _, _, _, ho, h, _, _, _, _, _, _ => by simp [onlyS] at h; omega
  | 0, x :: r, o, _, _, hl, _, _, _, _, _, _, _, _ => by simp at hl
  | n + 1, x :: r, o, h, z, hl, ho, ho1, hk, hz, hb, hC, hH, hend => by
    have hx := hk x (by simp)
    have hr : ∀ y ∈ r, kindOk y := fun y hy => hk y (by simp [hy])
    have hl' : r.length ≤ n := by simpa using hl
    simp only [onlyS] at ho1
    rw [if_neg (by omega)] at ho1
    unfold kindOk at hx
    unfold layS at hC hend ⊢
    unfold hgS at hH
    unfold valS at hb
    by_cases h0 : x.1 = 0
    · simp only [h0, if_true] at hC hH hb hend ⊢
      have e1 := getD_of_at hH.cons.1
      refine ⟨by simp, e1, Seg.one (x := (0, x.2)) (m := z + 1) hC.cons.1 ?_ ?_ (by simp) (Seg.nil _ _ _ _)⟩
      · rw [e1]; exact beh_plain p (x := (0, x.2)) (by simp) (by simp) (t := 0) (l := 1) rfl rfl (by omega) (by simp at hb; omega) (by omega)
      · intro j hj
        obtain rfl : j = h + 1 := by simpa [nexts] using hj
        exact ⟨Nat.le_refl _, hend⟩
    · simp only [h0, if_false] at hC hH hb hend ⊢
      by_cases h1 : x.1 = 1
      · simp only [h1, if_true] at hC hH hb hend ⊢
        have e1 := getD_of_at hH.cons.1
        refine ⟨by simp, e1, Seg.one (x := (2, x.2)) (m := z + 1) hC.cons.1 ?_ ?_ (by simp) (Seg.nil _ _ _ _)⟩
        · rw [e1]; exact beh_plain p (x := (2, x.2)) (by simp) (by simp) (t := 0) (l := 1) rfl rfl (by omega) (by simp at hb; omega) (by omega)
        · intro j hj
          obtain rfl : j = h + 1 := by simpa [nexts] using hj
          exact ⟨Nat.le_refl _, hend⟩
      · simp only [h1, if_false] at hC hH hb hend ⊢
        obtain ⟨a1, a2, a3⟩ := lay_hg n r h z vals
        by_cases h7 : x.1 = 7
        · simp only [h7, if_true] at hC hH hb hend ⊢
          have hp : partsS x.1 = 3 := by rw [h7]; rfl
          rw [hp] at ho1
          obtain ⟨j1, p1, q1, e1, o1⟩ := val_rest vals n r (o - 1 + 3) hl' (by omega) ho1 hr
          have k1 : ∀ y ∈ (valS vals n r).2, kindOk y := by rw [e1]; exact fun y hy => hr y (List.mem_of_mem_drop hy)
          have l1 : (valS vals n r).2.length ≤ n := by rw [e1]; simp; omega
          obtain ⟨j2, p2, q2, e2, o2⟩ := val_rest vals n _ (o - 1 + 3 - 1) l1 (by omega) o1 k1
          have k2 : ∀ y ∈ (valS vals n (valS vals n r).2).2, kindOk y := by rw [e2]; exact fun y hy => k1 y (List.mem_of_mem_drop hy)
          have l2 : (valS vals n (valS vals n r).2).2.length ≤ n := by rw [e2]; simp; omega
          obtain ⟨j3, p3, q3, e3, o3⟩ := val_rest vals n _ (o - 1 + 3 - 1 - 1) l2 (by omega) o2 k2
          have w1 : (valS vals n r).2.length = r.length - j1 := by rw [e1]; simp
          have w2 : (valS vals n (valS vals n r).2).2.length = (valS vals n r).2.length - j2 := by rw [e2]; simp
          have w3 : (valS vals n (valS vals n (valS vals n r).2).2).2.length = (valS vals n (valS vals n r).2).2.length - j3 := by rw [e3]; simp
          rw [a3] at hC hend ⊢
          rw [a2] at hH
          obtain ⟨b1, b2, b3⟩ := lay_hg n (valS vals n r).2 (h + (layS n r h).1.length + 1) z vals
          rw [b3] at hC hend ⊢
          rw [b2] at hH
          obtain ⟨c1, _, _⟩ := lay_hg n (valS vals n (valS vals n r).2).2 (h + (layS n r h).1.length + 1 + (layS n (valS vals n r).2 (h + (layS n r h).1.length + 1)).1.length + 1) z vals
          obtain ⟨hCa, hC'⟩ := hC.app
          obtain ⟨hCz, hC'⟩ := hC'.cons
          obtain ⟨hCb, hC'⟩ := hC'.app
          obtain ⟨hCj, hCc⟩ := hC'.cons
          obtain ⟨hHa, hH'⟩ := hH.app
          rw [a1] at hH'
          obtain ⟨hHz, hH'⟩ := hH'.cons
          obtain ⟨hHb, hH'⟩ := hH'.app
          rw [b1] at hH'
          obtain ⟨hHj, hHc⟩ := hH'.cons
          have e5 := getD_of_at hHz
          have e6 := getD_of_at hHj
          simp only [List.length_append, List.length_cons] at hend ⊢
          simp only [List.length_cons] at hb
          generalize hA : layS n r h = A at *
          generalize hB : layS n (valS vals n r).2 (h + A.1.length + 1) = B at *
          generalize hD : layS n (valS vals n (valS vals n r).2).2 (h + A.1.length + 1 + B.1.length + 1) = D at *
          have hend' : H.getD (h + A.1.length + 1 + B.1.length + 1 + D.1.length) 0 = z + 1 := by rw [← hend]; congr 1; omega
          have sd := lay_seg p C H vals n (valS vals n (valS vals n r).2).2 (o - 1 + 3 - 1 - 1) (h + A.1.length + 1 + B.1.length + 1) z l2 (by omega) o2 k2 hz (by omega) (by rw [hD]; exact hCc) hHc (by rw [hD]; exact hend')
          rw [hD] at sd
          have sb := lay_seg p C H vals n (valS vals n r).2 (o - 1 + 3 - 1) (h + A.1.length + 1) z l1 (by omega) o1 k1 hz (by omega) (by rw [hB]; exact hCb) hHb (by rw [hB]; exact e6)
          rw [hB] at sb
          have sa := lay_seg p C H vals n r (o - 1 + 3) h z hl' (by omega) ho1 hr hz (by omega) (by rw [hA]; exact hCa) hHa (by rw [hA]; exact e5)
          rw [hA] at sa
          have sj : Seg p C H (h + A.1.length + 1 + B.1.length) (h + A.1.length + 1 + B.1.length + 1 + D.1.length) := by
            refine Seg.one (m := z + 1) hCj ?_ ?_ (by omega) sd.2.2
            · rw [e6]; exact beh_plain p (by simp) (by simp) (t := 0) (l := 0) rfl rfl (by omega) (by omega) (by omega)
            · intro j hj
              obtain rfl : j = h + A.1.length + 1 + B.1.length + 1 + D.1.length := by rw [nexts_jump] at hj; exact List.mem_singleton.1 hj
              exact ⟨Nat.le_refl _, hend'⟩
          have sz : Seg p C H (h + A.1.length) (h + A.1.length + 1 + B.1.length + 1 + D.1.length) := by
            refine Seg.one (m := z) hCz ?_ ?_ (by omega) (sb.2.2.app sj (by omega))
            · rw [e5]; exact beh_plain p (by simp) (by simp) (t := 1) (l := 0) rfl rfl (by omega) (by omega) (by omega)
            · intro j hj
              have hj' : j = h + A.1.length + 1 + B.1.length + 1 ∨ j = h + A.1.length + 1 := by
                rw [nexts_zero] at hj
                rcases List.mem_cons.1 hj with e | e
                · exact .inl e
                · exact .inr (List.mem_singleton.1 e)
              rcases hj' with rfl | rfl
              · exact ⟨by omega, sd.2.1⟩
              · exact ⟨by omega, sb.2.1⟩
          have := sa.2.2.app sz (by omega)
          refine ⟨by omega, sa.2.1, ?_⟩
          rw [show h + (A.1.length + (B.1.length + (D.1.length + 1) + 1)) = h + A.1.length + 1 + B.1.length + 1 + D.1.length by omega]
          exact this
        · simp only [h7, if_false] at hC hH hb hend ⊢
          have hp : partsS x.1 = 2 := by unfold partsS; rw [if_neg (by omega), if_pos (by omega)]
          rw [hp] at ho1
          obtain ⟨j1, p1, q1, e1, o1⟩ := val_rest vals n r (o - 1 + 2) hl' (by omega) ho1 hr
          have k1 : ∀ y ∈ (valS vals n r).2, kindOk y := by rw [e1]; exact fun y hy => hr y (List.mem_of_mem_drop hy)
          have l1 : (valS vals n r).2.length ≤ n := by rw [e1]; simp; omega
          obtain ⟨j2, p2, q2, e2, o2⟩ := val_rest vals n _ (o - 1 + 2 - 1) l1 (by omega) o1 k1
          have w1 : (valS vals n r).2.length = r.length - j1 := by rw [e1]; simp
          have w2 : (valS vals n (valS vals n r).2).2.length = (valS vals n r).2.length - j2 := by rw [e2]; simp
          rw [a3] at hC hend ⊢
          rw [a2] at hH
          obtain ⟨b1, b2, b3⟩ := lay_hg n (valS vals n r).2 (h + (layS n r h).1.length) (z + 1) vals
          obtain ⟨hCa, hC'⟩ := hC.app
          obtain ⟨hCb, hC''⟩ := hC'.app
          obtain ⟨hHa, hH'⟩ := hH.app
          obtain ⟨hHb, hH''⟩ := hH'.app
          rw [a1] at hHb hH''
          rw [b1] at hH''
          simp only [List.length_append, List.length_cons, List.length_nil] at hend ⊢
          simp only [List.length_cons] at hb
          have e5 := getD_of_at hH''.cons.1
          generalize hA : layS n r h = A at *
          generalize hB : layS n (valS vals n r).2 (h + A.1.length) = B at *
          have sb := lay_seg p C H vals n (valS vals n r).2 (o - 1 + 2 - 1) (h + A.1.length) (z + 1) l1 (by omega) o1 k1 (by omega) (by omega) (by rw [hB]; exact hCb) hHb (by rw [hB, e5]; omega)
          rw [hB] at sb
          have sa := lay_seg p C H vals n r (o - 1 + 2) h z hl' (by omega) ho1 hr hz (by omega) (by rw [hA]; exact hCa) hHa (by rw [hA]; exact sb.2.1)
          rw [hA] at sa
          refine ⟨by omega, sa.2.1, (sa.2.2.app sb.2.2 (by omega)).app (Seg.one (x := (x.1 + 2, 0)) (m := z + 1) hC''.cons.1 ?_ ?_ (by omega) ?_) (by omega)⟩
          · have hv : tk (x.1 + 2).toNat = 2 ∧ lv (x.1 + 2).toNat = 1 := by
              have : x.1 = 2 ∨ x.1 = 3 ∨ x.1 = 4 ∨ x.1 = 5 ∨ x.1 = 6 := by omega
              rcases this with e | e | e | e | e <;> rw [e] <;> decide
            rw [e5]
            exact beh_plain p (x := (x.1 + 2, 0)) (by show 0 ≤ x.1 + 2; omega) (by show x.1 + 2 ≤ 10; omega) hv.1 hv.2 (by omega) (by omega) (by omega)
          · intro j hj
            obtain rfl : j = h + A.1.length + B.1.length + 1 := by
              unfold nexts at hj
              rw [if_neg (by show ¬ x.1 + 2 = 12; omega), if_neg (by show ¬ x.1 + 2 = 9; omega), if_neg (by show ¬ x.1 + 2 = 10; omega)] at hj
              simpa using hj
            exact ⟨by omega, by rw [← hend]; congr 1; omega⟩
          · rw [show h + (A.1.length + (B.1.length + (0 + 1))) = h + A.1.length + B.1.length + 1 by omega]
            exact Seg.nil _ _ _ _
theorem lay_reach (C : List (Int × Int)) (vals : List Int) (L : Nat) (R : Nat → Prop) (hstep : ∀ k x j, C[k]? = some x → k < L → R k → j ∈ nexts x k → R j) : ∀ (n : Nat) (e : List (Int × Int)) (o : Int) (h : Nat), e.length ≤ n → 1 ≤ o → onlyS e o = true → (∀ x ∈ e, kindOk x) →
    At C h (layS n e h).1 → h + (layS n e h).1.length ≤ L → R h → ∀ k, h ≤ k → k ≤ h + (layS n e h).1.length → R k
  | n, [], o, _, _, ho, h, _, _, _, _ => by simp [onlyS] at h; omega
  | 0, x :: r, o, _, hl, _, _, _, _, _, _ => by simp at hl
  | n + 1, x :: r, o, h, hl, ho, ho1, hk, hC, hL, hR => by
    have hx := hk x (by simp)
    have hr : ∀ y ∈ r, kindOk y := fun y hy => hk y (by simp [hy])
    have hl' : r.length ≤ n := by simpa using hl
    simp only [onlyS] at ho1
    rw [if_neg (by omega)] at ho1
    unfold kindOk at hx
    unfold layS at hC hL ⊢
    have next1 : ∀ k y, C[k]? = some y → k < L → R k → y.1 ≠ 12 → y.1 ≠ 9 → R (k + 1) := fun k y hy hk hr h12 h9 => hstep k y (k + 1) hy hk hr (by
      unfold nexts
      rw [if_neg h12, if_neg h9]
      split <;> simp)
    by_cases h0 : x.1 = 0
    · simp only [h0, if_true, List.length_cons, List.length_nil] at hC hL ⊢
      intro k h1 h2
      by_cases e : k = h
      · rw [e]; exact hR
      · rw [show k = h + 1 by omega]; exact next1 h _ hC.cons.1 (by omega) hR (by simp) (by simp)
    · simp only [h0, if_false] at hC hL ⊢
      by_cases h1 : x.1 = 1
      · simp only [h1, if_true, List.length_cons, List.length_nil] at hC hL ⊢
        intro k h1 h2
        by_cases e : k = h
        · rw [e]; exact hR
        · rw [show k = h + 1 by omega]; exact next1 h _ hC.cons.1 (by omega) hR (by simp) (by simp)
      · simp only [h1, if_false] at hC hL ⊢
        obtain ⟨_, _, a3⟩ := lay_hg n r h 0 vals
        by_cases h7 : x.1 = 7
        · simp only [h7, if_true] at hC hL ⊢
          have hp : partsS x.1 = 3 := by rw [h7]; rfl
          rw [hp] at ho1
          obtain ⟨j1, p1, q1, e1, o1⟩ := val_rest vals n r (o - 1 + 3) hl' (by omega) ho1 hr
          have k1 : ∀ y ∈ (valS vals n r).2, kindOk y := by rw [e1]; exact fun y hy => hr y (List.mem_of_mem_drop hy)
          have l1 : (valS vals n r).2.length ≤ n := by rw [e1]; simp; omega
          obtain ⟨j2, p2, q2, e2, o2⟩ := val_rest vals n _ (o - 1 + 3 - 1) l1 (by omega) o1 k1
          have k2 : ∀ y ∈ (valS vals n (valS vals n r).2).2, kindOk y := by rw [e2]; exact fun y hy => k1 y (List.mem_of_mem_drop hy)
          have l2 : (valS vals n (valS vals n r).2).2.length ≤ n := by rw [e2]; simp; omega
          rw [a3] at hC hL ⊢
          obtain ⟨_, _, b3⟩ := lay_hg n (valS vals n r).2 (h + (layS n r h).1.length + 1) 0 vals
          rw [b3] at hC hL ⊢
          obtain ⟨hCa, hC'⟩ := hC.app
          obtain ⟨hCz, hC'⟩ := hC'.cons
          obtain ⟨hCb, hC'⟩ := hC'.app
          obtain ⟨hCj, hCc⟩ := hC'.cons
          simp only [List.length_append, List.length_cons] at hL ⊢
          generalize hA : layS n r h = A at *
          generalize hB : layS n (valS vals n r).2 (h + A.1.length + 1) = B at *
          generalize hD : layS n (valS vals n (valS vals n r).2).2 (h + A.1.length + 1 + B.1.length + 1) = D at *
          have ra := lay_reach C vals L R hstep n r (o - 1 + 3) h hl' (by omega) ho1 hr (by rw [hA]; exact hCa) (by rw [hA]; omega) hR
          rw [hA] at ra
          have rz := ra (h + A.1.length) (by omega) (Nat.le_refl _)
          have r1 := hstep _ _ (h + A.1.length + 1) hCz (by omega) rz (by rw [nexts_zero]; simp)
          have r2 := hstep _ _ (h + A.1.length + 1 + B.1.length + 1) hCz (by omega) rz (by rw [nexts_zero]; simp)
          have rb := lay_reach C vals L R hstep n (valS vals n r).2 (o - 1 + 3 - 1) (h + A.1.length + 1) l1 (by omega) o1 k1 (by rw [hB]; exact hCb) (by rw [hB]; omega) r1
          rw [hB] at rb
          have rd := lay_reach C vals L R hstep n (valS vals n (valS vals n r).2).2 (o - 1 + 3 - 1 - 1) (h + A.1.length + 1 + B.1.length + 1) l2 (by omega) o2 k2 (by rw [hD]; exact hCc) (by rw [hD]; omega) r2
          rw [hD] at rd
          intro k g1 g2
          by_cases c1 : k ≤ h + A.1.length
          · exact ra k g1 c1
          · by_cases c2 : k ≤ h + A.1.length + 1 + B.1.length
            · exact rb k (by omega) c2
            · exact rd k (by omega) (by omega)
        · simp only [h7, if_false] at hC hL ⊢
          have hp : partsS x.1 = 2 := by unfold partsS; rw [if_neg (by omega), if_pos (by omega)]
          rw [hp] at ho1
          obtain ⟨j1, p1, q1, e1, o1⟩ := val_rest vals n r (o - 1 + 2) hl' (by omega) ho1 hr
          have k1 : ∀ y ∈ (valS vals n r).2, kindOk y := by rw [e1]; exact fun y hy => hr y (List.mem_of_mem_drop hy)
          have l1 : (valS vals n r).2.length ≤ n := by rw [e1]; simp; omega
          rw [a3] at hC hL ⊢
          obtain ⟨hCa, hC'⟩ := hC.app
          obtain ⟨hCb, hC''⟩ := hC'.app
          simp only [List.length_append, List.length_cons, List.length_nil] at hL ⊢
          generalize hA : layS n r h = A at *
          generalize hB : layS n (valS vals n r).2 (h + A.1.length) = B at *
          have ra := lay_reach C vals L R hstep n r (o - 1 + 2) h hl' (by omega) ho1 hr (by rw [hA]; exact hCa) (by rw [hA]; omega) hR
          rw [hA] at ra
          have rb := lay_reach C vals L R hstep n (valS vals n r).2 (o - 1 + 2 - 1) (h + A.1.length) l1 (by omega) o1 k1 (by rw [hB]; exact hCb) (by rw [hB]; omega) (ra _ (by omega) (Nat.le_refl _))
          rw [hB] at rb
          intro k g1 g2
          by_cases c1 : k ≤ h + A.1.length
          · exact ra k g1 c1
          · by_cases c2 : k ≤ h + A.1.length + B.1.length
            · exact rb k (by omega) c2
            · rw [show k = h + A.1.length + B.1.length + 1 by omega]
              exact next1 _ _ hC''.cons.1 (by omega) (rb _ (by omega) (Nat.le_refl _)) (by show x.1 + 2 ≠ 12; omega) (by show x.1 + 2 ≠ 9; omega)
def fnS (e : List (Int × Int)) (L : Int) : Fn := ⟨L, L, (layS 9 e 0).1 ++ [(12, 0)]⟩
open Go.RowKit Go.Maps
theorem fInfoOp : ∃ i0, Tryz.prog.info? 44 = some i0 ∧ i0.zero = some (.agg #[.int .i64 0, .int .i64 0]) ∧ i0.size = 2 ∧ i0.bytes = 16 := by
  have h : (Tryz.prog.info? 44).map (fun i => (i.zero, i.size, i.bytes)) = some (some (.agg #[.int .i64 0, .int .i64 0]), 2, 16) := by kernel_rfl
  cases hi : Tryz.prog.info? 44 with
  | none => rw [hi] at h; cases h
  | some i =>
    rw [hi] at h
    simp only [Option.map_some, Option.some.injEq, Prod.mk.injEq] at h
    exact ⟨i, rfl, h.1, h.2.1, h.2.2⟩
theorem fTwo_new (w : World) (a b : Int) (t : TypeId) : ∀ j u, [Value.int .i64 a, Value.int .i64 b][j]? = some u → (w.alloc (.cells #[.int .i64 a, .int .i64 b] t)).cell? ((⟨w.heap.size, 0, none⟩ : Addr).add j) = some u := by
  intro j u hj
  match j, hj with
  | 0, hj => simp at hj; subst hj; exact cell_lays (lays_new rfl) 0
  | 1, hj => simp at hj; subst hj; exact cell_lays (lays_new rfl) 1
  | j + 2, hj => simp at hj
theorem fTwo_int (a b : Int) : ∀ u, u ∈ [Value.int .i64 a, Value.int .i64 b] → u.oneCell' = true := by
  intro u hu
  simp only [List.mem_cons, List.not_mem_nil, or_false] at hu
  rcases hu with rfl | rfl <;> rfl
theorem fFlat_snoc (c : List (Int × Int)) (x : Int × Int) : flatOps (c ++ [x]) = flatOps c ++ [.int .i64 x.1, .int .i64 x.2] := by simp [flatOps]
theorem fRow_slice {w : World} {base : Nat} {e : TypeId} {size : Nat} {v : Value} {n : Nat} {xs : List Value} (h : w.ownsRow base e size v n xs) : (∃ oa cap, v = .slice oa n cap) ∧ ∀ r, v.ownBlock = some r → base ≤ r := by
  obtain ⟨hl, h0 | ⟨g, cap, cur, hv, hb, _⟩⟩ := h
  · refine ⟨⟨none, 0, ?_⟩, fun r hr => ?_⟩
    · rw [h0.1, h0.2]
    · rw [h0.1] at hr; cases hr
  · exact ⟨⟨some ⟨g, 0, none⟩, cap, hv⟩, fun r hr => by rw [hv] at hr; cases hr; exact hb⟩
def SmAt (w0 w : World) (B : Nat) (e c : List (Int × Int)) : Prop :=
  ∃ lv cv, w.heap[B]? = some (.cells #[lv, cv] 75) ∧ w0.heap.size ≤ B ∧ NodesAt w0 lv e ∧ w.ownsRow w0.heap.size 44 2 cv c.length (flatOps c) ∧ cv.ownBlock ≠ some B ∧ Kept w0 w
def SmK (B : Nat) (w w' : World) : Prop := w.heap.size ≤ w'.heap.size ∧ ∀ b cv, b < w.heap.size → b ≠ B → w.cell? ⟨B, 1, none⟩ = some cv → cv.ownBlock ≠ some b → w'.heap[b]? = w.heap[b]? ∧ ∃ cv', w'.cell? ⟨B, 1, none⟩ = some cv' ∧ cv'.ownBlock ≠ some b
theorem SmK.trans {B : Nat} {w w1 w2 : World} (h : SmK B w w1) (k : SmK B w1 w2) : SmK B w w2 := by
  refine ⟨Nat.le_trans h.1 k.1, fun b cv hb hn hc ho => ?_⟩
  obtain ⟨e1, cv1, c1, o1⟩ := h.2 b cv hb hn hc ho
  obtain ⟨e2, r⟩ := k.2 b cv1 (Nat.lt_of_lt_of_le hb h.1) hn c1 o1
  exact ⟨e2.trans e1, r⟩
theorem SmK.drew {B : Nat} {w w1 : World} (h : SmK B w w1) : SmK B w w1.drew := h
theorem smPut_any (w0 w : World) (B : Nat) (e c : List (Int × Int)) (kd a : Int) (h : SmAt w0 w B e c) (hc : c.length ≤ 100) :
    Calls Tryz.prog 35 #[.pointer (some ⟨B, 0, none⟩), .int .i64 kd, .int .i64 a] w fun en w' => en = .returned (.int .i64 c.length) ∧ SmAt w0 w' B e (c ++ [(kd, a)]) ∧ SmK B w w' := by
  obtain ⟨i0, hi0, hz0, hz1, hz2⟩ := fInfoOp
  obtain ⟨lv, cv, hB, hlow, hnd, hrow, hoff, hk⟩ := h
  have hBs : B < w.heap.size := by
    have := (Array.getElem?_eq_some_iff.1 hB).1
    exact this
  obtain ⟨⟨oa, cap, rfl⟩, hblk⟩ := fRow_slice hrow
  generalize hn : c.length = n at *
  have b1 := cell_new hB 1
  have b0 : w.cell? ⟨B, 1, none⟩ = some (.slice oa n cap) := cell_lays hB 1
  have HB := hide hB
  have HROW := hide hrow
  have HND := hide hnd
  have HK := hide hk
  have HOFF := hide hoff
  have HBLK := hide hblk
  clear hB hrow hnd hk hoff hblk
  have hsz : w0.heap.size ≤ w.heap.size := (unhide HK).size
  go_enter Tryz.func35, Tryz.ntmps35
  go_wp2_with (at_builtin; refine unhide ?_)
  refine hide ?_
  refine wpList_append_own_at _ rfl _ _ 40 rfl w0.heap.size 44 i0 (.agg #[.int .i64 0, .int .i64 0]) 2 16 Tryz.underlying40 hi0 hz0 hz1 hz2 rfl (by decide) _ _ _ rfl ((unhide HROW).alloc _) ⟨w.heap.size, 0, none⟩ 1 1 [.int .i64 kd, .int .i64 a] rfl rfl (fTwo_new _ _ _ _) (fTwo_int _ _) (by unfold maxLen; omega) (by omega) (by simp; omega) ?_
  intro v' w2 hown' hgrow _ hat
  have hsa : (w.alloc (.cells #[.int .i64 kd, .int .i64 a] 44)).heap.size = w.heap.size + 1 := by simp
  have hB2 : w2.heap[B]? = some (.cells #[lv, .slice oa n cap] 75) := (hgrow.block B (by omega) (fun e => unhide HOFF e.symm)).trans (lays_alloc (unhide HB) _)
  have hk2 : Kept w0 w2 := Below.grown ((unhide HK).alloc _) hgrow (by omega) (unhide HBLK)
  have hne : v'.ownBlock ≠ some B := by
    rcases hat with e | e
    · rw [e]; exact unhide HOFF
    · rw [e, hsa]
      intro e'
      have := Option.some.inj e'
      omega
  obtain ⟨⟨o2, c2, rfl⟩, _⟩ := fRow_slice hown'
  have hrow3 := ownsRow_setCell_other hown' (a := ⟨B, 1, none⟩) hne (.slice o2 (n + 1) c2)
  have hB3 := lays_set hB2 1 (.slice o2 (n + 1) c2)
  have hk3 := hk2.setCell (p := ⟨B, 1, none⟩) hlow (.slice o2 (n + 1) c2)
  have hsm : SmK B w (w2.setCell ⟨B, 1, none⟩ (.slice o2 (n + 1) c2)) := by
    refine ⟨?_, fun b cv hb hn hc ho => ?_⟩
    · have h1 : w.heap.size < w2.heap.size := Nat.lt_of_lt_of_le (by omega) hgrow.size
      simp [World.setCell]
      omega
    · rw [b0] at hc
      cases hc
      refine ⟨?_, .slice o2 (n + 1) c2, cell_lays hB3 1, ?_⟩
      · rw [Below.heap_setCell _ _ _ _ hn, hgrow.block b (by omega) (fun e => ho e.symm), Below.heap_alloc _ _ _ hb]
      · rcases hat with e | e
        · rw [e]; exact ho
        · rw [e, hsa]
          intro e'
          have := Option.some.inj e'
          omega
  have HSM := hide hsm
  clear hsm
  have m1 : w2.cell? ⟨B, 1, none⟩ = some (.slice oa n cap) := cell_lays hB2 1
  have f1 := frozen_lays hB2 1
  have HR3 := hide hrow3
  have HB3 := hide hB3
  have HK3 := hide hk3
  have HNE := hide hne
  clear hown' hgrow hat hB2 hk2 hrow3 hB3 hk3 hne b0 b1 hsa
  have hwn : IntKind.i64.wrap (((n + 1 : Nat) : Int) - 1) = (n : Int) := by rw [IntKind.wrap_i64]; omega
  have hwn2 : IntKind.i64.wrap ((n : Int) + 1 - 1) = (n : Int) := by rw [IntKind.wrap_i64]; omega
  have hwn3 : IntKind.i64.wrap (n : Int) = (n : Int) := by rw [IntKind.wrap_i64]; omega
  go_wp2_with fail
  go_ret
  refine ⟨by simp, ⟨lv, _, unhide HB3, hlow, unhide HND, ?_, unhide HNE, unhide HK3⟩, unhide HSM⟩
  rw [fFlat_snoc, List.length_append, hn]
  exact unhide HR3
open Go.RowKit
theorem PS : (∀ (a : Act) (t : Tmp) (v : Value), a.put (some t) v = { a with tmps := a.tmps.setIfInBounds t v }) ∧ (∀ (a : Act) (v : Value), a.put none v = a) ∧
    (∀ (l : List Value) (i : Nat) (a : Value), l.toArray.setIfInBounds i a = (l.set i a).toArray) ∧ (∀ (l : List Bool) (i : Nat) (a : Bool), l.toArray.setIfInBounds i a = (l.set i a).toArray) ∧
    (∀ (l : List Value) (a b : Value), (b :: l).set 0 a = a :: l) ∧ (∀ (l : List Bool) (a b : Bool), (b :: l).set 0 a = a :: l) ∧
    (∀ (l : List Value) (i : Nat) (a b : Value), (b :: l).set (i + 1) a = b :: l.set i a) ∧ (∀ (l : List Bool) (i : Nat) (a b : Bool), (b :: l).set (i + 1) a = b :: l.set i a) :=
  ⟨fun _ _ _ => rfl, fun _ _ => rfl, fun _ _ _ => by simp, fun _ _ _ => by simp, fun _ _ _ => rfl, fun _ _ _ => rfl, fun _ _ _ _ => rfl, fun _ _ _ _ => rfl⟩
theorem at_drop {L tl : List Oper} {i : Nat} {oi : Oper} (hd : L.drop i = oi :: tl) : L.toArray[i]? = some oi := by
  have h : (L.drop i)[0]? = some oi := by rw [hd]; rfl
  rw [List.getElem?_drop] at h
  simpa using h
theorem take_yes {P : Program} {md : Region.Mode} {Q : Exit → Act → World → Prop} {S : World → Prop} {L tl : List Oper} {i : Nat} {oi : Oper} {v : Value} {fuel : Nat} {listed : Array Bool} {a : Act} {w : World} (hd : L.drop i = oi :: tl)
    (hs : Region.noSelect L.toArray = true) (hf : Region.free md L.toArray listed i = true) (hr : (Region.ready md L.toArray listed).contains i = true)
    (hQ : ∀ c a w, Q (.panic c) (a.put oi.dst v) w → Q (.panic c) a w) (hw : Region.wanted oi (yielded L.toArray a.tmps) = true) (hy : ∀ u, S u → (execOp a.eval oi).run P u = .ok (.value v) u) (hS : S w)
    (h : wpAnyH P md L.toArray Q S fuel (listed.setIfInBounds i true) (a.put oi.dst v) w) : wpAnyH P md L.toArray Q S (fuel + 1) listed a w :=
  wpAnyH_take (at_drop hd) hs hf hr hQ (.inl ⟨hw, hy⟩) hS h
theorem take_one {P : Program} {md : Region.Mode} {Q : Exit → Act → World → Prop} {S : World → Prop} {L tl : List Oper} {i : Nat} {oi : Oper} {fuel : Nat} {listed : Array Bool} {a : Act} {w : World} (hd : L.drop i = oi :: tl)
    (hr : Region.ready md L.toArray listed = [i])
    (h : ∀ K' : Act → World → Prop, Shut (∀ a w, S w → (S w → wpAnyH P md L.toArray Q S fuel (listed.setIfInBounds i true) a w) → K' a w) → if Region.wanted oi (yielded L.toArray a.tmps) = true then Oper.wp P oi a w K' Q else K' (a.put oi.dst undef) w) :
    wpAnyH P md L.toArray Q S (fuel + 1) listed a w :=
  wpAnyH_ready hr (by simp) (AllReadyH.cons (at_drop hd) h AllReadyH.nil)
end Go.Proofs.YtjioipkfnekigaaGreatDoor
namespace Go.Proofs.YtjioipkfnekigaaGreatDoor
open Go.RowKit
variable {P : Program} {md : Region.Mode} {Q : Exit → Act → World → Prop} {S : World → Prop}
structure AnyY (plan : List Nat) (P : Program) (md : Region.Mode) (ops : Array Oper) (Q : Exit → Act → World → Prop) (S : World → Prop) (n : Nat) (listed : Array Bool) (a : Act) (w : World) : Prop where
  out : wpAnyH P md ops Q S n listed a w
theorem planY {ops : Array Oper} {n : Nat} {listed : Array Bool} {a : Act} {w : World} (plan : List Nat) (h : AnyY plan P md ops Q S n listed a w) : wpAnyH P md ops Q S n listed a w := h.out
theorem endY {ops : Array Oper} {n : Nat} {listed : Array Bool} {a : Act} {w : World} (h : wpAnyH P md ops Q S n listed a w) : AnyY [] P md ops Q S n listed a w := ⟨h⟩
theorem takeY {L tl : List Oper} {i : Nat} {plan : List Nat} {oi : Oper} {v : Value} {fuel : Nat} {listed : Array Bool} {a : Act} {w : World} (hS : S w) (hy : ∀ u, S u → (execOp a.eval oi).run P u = .ok (.value v) u)
    (h : AnyY plan P md L.toArray Q S fuel (listed.setIfInBounds i true) (a.put oi.dst v) w) (hd : L.drop i = oi :: tl := by rfl) (hs : Region.noSelect L.toArray = true := by kernel_rfl) (hf : Region.free md L.toArray listed i = true := by kernel_rfl)
    (hr : (Region.ready md L.toArray listed).contains i = true := by kernel_rfl) (hQ : ∀ c a w, Q (.panic c) (a.put oi.dst v) w → Q (.panic c) a w := by exact fun _ _ _ h => h)
    (hw : Region.wanted oi (yielded L.toArray a.tmps) = true := by rfl) : AnyY (i :: plan) P md L.toArray Q S (fuel + 1) listed a w := ⟨take_yes hd hs hf hr hQ hw hy hS h.out⟩
end Go.Proofs.YtjioipkfnekigaaGreatDoor
namespace Go.Proofs.YtjioipkfnekigaaGreatDoor
open Go.RowKit
theorem isIndex_any (i n : Int) (w : World) :
    Calls Tryz.prog 58 #[.int .i64 i, .int .i64 n] w fun e w' => e = .returned (.bool (ixB i n)) ∧ w = w' := by
  by_cases h1 : 0 ≤ i
  · by_cases h2 : i < n
    · rw [ixB_true h1 h2]
      go_enter Tryz.func58, Tryz.ntmps58
      go_wp2
      go_ret
      exact ⟨rfl, rfl⟩
    · rw [ixB_false (by omega)]
      go_enter Tryz.func58, Tryz.ntmps58
      go_wp2
      go_ret
      exact ⟨rfl, rfl⟩
  · rw [ixB_false (by omega)]
    go_enter Tryz.func58, Tryz.ntmps58
    go_wp2
    go_ret
    exact ⟨rfl, rfl⟩
theorem hasRoom_any (a l : Int) (c : Value) (w : World) :
    Calls Tryz.prog 59 #[.agg #[.int .i64 a, .int .i64 l, c]] w fun e w' => e = .returned (.bool (roomB a l)) ∧ w' = w.alloc (.cells #[.int .i64 a, .int .i64 l, c] 42) := by
  by_cases h1 : 0 ≤ a
  · by_cases h2 : a ≤ l
    · by_cases h3 : l ≤ 4
      · rw [show roomB a l = true from by rw [roomB_iff]; exact ⟨h1, h2, h3⟩]
        go_enter Tryz.func59, Tryz.ntmps59
        go_wp2
        go_ret
        exact ⟨rfl, rfl⟩
      · rw [show roomB a l = false from by rw [← Bool.not_eq_true, roomB_iff]; omega]
        go_enter Tryz.func59, Tryz.ntmps59
        go_wp2
        go_ret
        exact ⟨rfl, rfl⟩
    · rw [show roomB a l = false from by rw [← Bool.not_eq_true, roomB_iff]; omega]
      go_enter Tryz.func59, Tryz.ntmps59
      go_wp2
      go_ret
      exact ⟨rfl, rfl⟩
  · rw [show roomB a l = false from by rw [← Bool.not_eq_true, roomB_iff]; omega]
    go_enter Tryz.func59, Tryz.ntmps59
    go_wp2
    go_ret
    exact ⟨rfl, rfl⟩
theorem may0_any (a : Int) (w : World) :
    Calls Tryz.prog 74 #[.int .i64 a] w fun e w' => e = .returned (.bool (a == 0)) ∧ w' = w := by
  go_enter Tryz.func74, Tryz.ntmps74
  go_wp2
  go_ret
  exact ⟨rfl, rfl⟩
theorem may1_any (a : Int) (w : World) :
    Calls Tryz.prog 75 #[.int .i64 a] w fun e w' => e = .returned (.bool (inB a 0 999)) ∧ w' = w := by
  by_cases h1 : 0 ≤ a
  · by_cases h2 : a ≤ 999
    · rw [inB_true h1 h2]
      go_enter Tryz.func75, Tryz.ntmps75
      go_wp2
      go_ret
      exact ⟨rfl, rfl⟩
    · rw [inB_false (by omega)]
      go_enter Tryz.func75, Tryz.ntmps75
      go_wp2
      go_ret
      exact ⟨rfl, rfl⟩
  · rw [inB_false (by omega)]
    go_enter Tryz.func75, Tryz.ntmps75
    go_wp2
    go_ret
    exact ⟨rfl, rfl⟩
theorem may2_any (a l : Int) (B : Nat) (w : World) (h : w.cell? ⟨B, 1, none⟩ = some (.int .i64 l)) :
    Calls Tryz.prog 76 #[.int .i64 a, .pointer (some ⟨B, 0, none⟩)] w fun e w' => e = .returned (.bool (ixB a l)) ∧ w' = w := by
  go_enter Tryz.func76, Tryz.ntmps76
  go_wp2_with (go_at_call 58; refine (isIndex_any _ _ _).mono ?_; rintro e w' ⟨rfl, rfl⟩)
  go_ret
  exact ⟨rfl, rfl⟩
theorem may3_any (a : Int) (B : Nat) (oa : Option Addr) (n cap : Nat) (w : World) (h : w.cell? ⟨B, 2, none⟩ = some (.slice oa n cap)) :
    Calls Tryz.prog 77 #[.int .i64 a, .pointer (some ⟨B, 0, none⟩)] w fun e w' => e = .returned (.bool (ixB a n)) ∧ w' = w := by
  go_enter Tryz.func77, Tryz.ntmps77
  go_wp2_with (go_at_call 58; refine (isIndex_any _ _ _).mono ?_; rintro e w' ⟨rfl, rfl⟩)
  go_ret
  exact ⟨rfl, rfl⟩
theorem may4_no (a : Int) (B : Nat) (oa : Option Addr) (n cap : Nat) (w : World) (h : w.cell? ⟨B, 0, none⟩ = some (.slice oa n cap)) (ha : ixB a n = false) :
    Calls Tryz.prog 78 #[.int .i64 a, .pointer (some ⟨B, 0, none⟩)] w fun e w' => e = .returned (.bool false) ∧ w' = w := by
  go_enter Tryz.func78, Tryz.ntmps78
  go_wp2_with (go_at_call 58; refine (isIndex_any _ _ _).mono ?_; rintro e w' ⟨rfl, rfl⟩)
  go_ret
  exact ⟨rfl, rfl⟩
theorem may4_yes (i B b o n cap : Nat) (ar lo : Int) (cv : Value) (w : World) (h : w.cell? ⟨B, 0, none⟩ = some (.slice (some ⟨b, o, none⟩) n cap)) (hi : i < n)
    (c0 : w.cell? ⟨b, o + i * 3, none⟩ = some (.int .i64 ar)) (c1 : w.cell? ⟨b, o + i * 3 + 1, none⟩ = some (.int .i64 lo)) (c2 : w.cell? ⟨b, o + i * 3 + 2, none⟩ = some cv) :
    Calls Tryz.prog 78 #[.int .i64 i, .pointer (some ⟨B, 0, none⟩)] w fun e w' => e = .returned (.bool (roomB ar lo)) ∧ Kept w w' := by
  have ha : ixB i n = true := ixB_true (by omega) (by omega)
  go_enter Tryz.func78, Tryz.ntmps78
  go_wp2_with (first | (go_at_call 58; refine (isIndex_any _ _ _).mono ?_; rintro e w' ⟨rfl, rfl⟩) | (go_at_call 59; refine (hasRoom_any _ _ _ _).mono ?_; rintro e w' ⟨rfl, rfl⟩))
  go_ret
  exact ⟨rfl, (Kept.refl _).alloc _⟩
theorem may4_any (p : List Fn) (v : Value) (a : Int) (B : Nat) (w : World) (h : w.cell? ⟨B, 0, none⟩ = some v) (hp : ProgAt w v p) :
    Calls Tryz.prog 78 #[.int .i64 a, .pointer (some ⟨B, 0, none⟩)] w fun e w' => e = .returned (.bool (ixB a p.length && roomB (p.getD a.toNat Fn.zero).args (p.getD a.toNat Fn.zero).locals)) ∧ Kept w w' := by
  obtain ⟨oa, cap, rfl, hl, hi⟩ := hp
  by_cases ha : 0 ≤ a ∧ a < p.length
  · obtain ⟨i, rfl⟩ := Int.eq_ofNat_of_zero_le ha.1
    obtain ⟨b, o, cv, rfl, c0, c1, c2, _⟩ := hi i _ (getD_of_lt p i Fn.zero (by omega))
    rw [Int.toNat_natCast, ixB_true ha.1 ha.2, Bool.true_and]
    exact may4_yes i B b o p.length cap _ _ cv w h (by omega) c0 c1 c2
  · rw [ixB_false ha, Bool.false_and]
    exact (may4_no a B oa p.length cap w h (ixB_false ha)).mono fun e w' ⟨h1, h2⟩ => ⟨h1, h2 ▸ Kept.refl _⟩
def mayV (Bp Bf : Nat) : Value := .agg #[.func (.func 74) #[] #[], .func (.func 75) #[] #[], .func (.func 76) #[] #[.pointer (some ⟨Bf, 0, none⟩)], .func (.func 77) #[] #[.pointer (some ⟨Bf, 0, none⟩)], .func (.func 78) #[] #[.pointer (some ⟨Bp, 0, none⟩)]]
theorem bounds_any (oa : Option Addr) (n cap : Nat) (ar lo : Int) (oc : Option Addr) (m cc : Nat) (w : World) :
    Calls Tryz.prog 60 #[.slice oa n cap, .agg #[.int .i64 ar, .int .i64 lo, .slice oc m cc]] w fun e w' => ∃ Bp Bf, e = .returned (mayV Bp Bf) ∧ w'.cell? ⟨Bp, 0, none⟩ = some (.slice oa n cap) ∧ w'.cell? ⟨Bf, 1, none⟩ = some (.int .i64 lo) ∧ w'.cell? ⟨Bf, 2, none⟩ = some (.slice oc m cc) ∧ Kept w w' := by
  go_enter Tryz.func60, Tryz.ntmps60
  go_wp2
  refine bodyPost_ret (v := mayV w.heap.size (w.heap.size + 1)) (by simp [results, Tryz.results60, go_sem, mayV]) rfl ⟨w.heap.size, w.heap.size + 1, rfl, ?_, ?_, ?_, ?_⟩
  · exact cell_lays (lays_alloc (lays_alloc (lays_new rfl) _) _) 0
  · exact cell_lays (lays_alloc (lays_new (by simp)) _) 1
  · exact cell_lays (lays_alloc (lays_new (by simp)) _) 2
  · exact (((Kept.refl _).alloc _).alloc _).alloc _
end Go.Proofs.YtjioipkfnekigaaGreatDoor
