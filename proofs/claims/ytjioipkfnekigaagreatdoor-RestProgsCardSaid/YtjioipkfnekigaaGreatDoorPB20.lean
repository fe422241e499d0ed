/- ExprC, ExprD, RestPf -/
import Derived.Test.YtjioipkfnekigaaGreatDoorPB02
import Derived.Maps.OwnSet
import Derived.Test.YtjioipkfnekigaaGreatDoorPB19
import Derived.Test.YtjioipkfnekigaaGreatDoorPB18
set_option maxRecDepth 100000
set_option maxHeartbeats 8000000
namespace Go.Proofs.YtjioipkfnekigaaGreatDoor
open Go.RowKit Go.Maps
def kindR : Value → Option (DataW Unit × List MemPlace)
  | .agg cs => (match cs.toList with
    | [.int .i64 a, .int .i64 b] => some (.agg [.lit (.int .i64 a), .lit (.int .i64 b)], [])
    | _ => none)
  | _ => none
theorem kindR_mk (a b : Int) : kindR (.agg #[.int .i64 a, .int .i64 b]) = some (.agg [.lit (.int .i64 a), .lit (.int .i64 b)], []) := rfl
theorem kindR_inv {v : Value} {a b : Int} {ps : List MemPlace} (h : kindR v = some (.agg [.lit (.int .i64 a), .lit (.int .i64 b)], ps)) : v = .agg #[.int .i64 a, .int .i64 b] := by
  unfold kindR at h
  split at h
  · rename_i cs
    split at h
    · rename_i x y hc
      simp at h
      obtain ⟨⟨rfl, rfl⟩, _⟩ := h
      cases cs
      simp at hc
      rw [hc]
    · cases h
  · cases h
def entryD (a b : Int) : DataW Unit := .agg [.lit (.int .i64 a), .lit (.int .i64 b)]
def kindD (n : Int) : DataW Unit :=
  ((((((((DataW.map []).put (.int .i64 0) (entryD 0 999)).put (.int .i64 1) (entryD 0 (n - 1))).put (.int .i64 2) (entryD 2 0)).put (.int .i64 3) (entryD 2 0)).put (.int .i64 4) (entryD 2 0)).put (.int .i64 5) (entryD 2 0)).put (.int .i64 6) (entryD 2 0)).put (.int .i64 7) (entryD 3 0)
theorem lit_is (a : Int) : WideAt.IsKeyLit (Lit.int .i64 a) := trivial
theorem lit_ne {a b : Int} (h : a ≠ b) : Lit.int .i64 a ≠ Lit.int .i64 b := by
  intro e
  simp only [Lit.int.injEq, true_and] at e
  exact h e
def KindAt (w : World) (B : Nat) (n : Int) : Prop := w.ownsMap Tryz.prog 3 kindR B 8 (kindD n)
theorem KindAt.kept {w w' : World} {B : Nat} {n : Int} (h : KindAt w B n) (k : Kept w w') : KindAt w' B n := by
  obtain ⟨es, clock, hb, F, hs, hD⟩ := h
  exact ⟨es, clock, lays_kept k hb, F, hs, hD⟩
theorem keyInt : Keyed Tryz.prog 3 := int_keyed Tryz.underlying3
theorem zeroKind (w : World) : (zeroValue 124).run Tryz.prog w = .ok (.agg #[.int .i64 0, .int .i64 0]) w := by kernel_rfl
theorem kindD_has (n k : Int) : Maps.has (kindD n) (.int .i64 k) = decide (0 ≤ k ∧ k ≤ 7) := by
  have t0 : Tidy (DataW.map [] : DataW Unit) := tidy_empty
  have t1 := t0.put (lit_is 0) (entryD 0 999)
  have t2 := t1.put (lit_is 1) (entryD 0 (n - 1))
  have t3 := t2.put (lit_is 2) (entryD 2 0)
  have t4 := t3.put (lit_is 3) (entryD 2 0)
  have t5 := t4.put (lit_is 4) (entryD 2 0)
  have t6 := t5.put (lit_is 5) (entryD 2 0)
  have t7 := t6.put (lit_is 6) (entryD 2 0)
  unfold kindD
  by_cases h7 : k = 7
  · subst h7; rw [has_put_same t7.isMap (lit_is _)]; rfl
  rw [has_put_other (lit_ne h7)]
  by_cases h6 : k = 6
  · subst h6; rw [has_put_same t6.isMap (lit_is _)]; rfl
  rw [has_put_other (lit_ne h6)]
  by_cases h5 : k = 5
  · subst h5; rw [has_put_same t5.isMap (lit_is _)]; rfl
  rw [has_put_other (lit_ne h5)]
  by_cases h4 : k = 4
  · subst h4; rw [has_put_same t4.isMap (lit_is _)]; rfl
  rw [has_put_other (lit_ne h4)]
  by_cases h3 : k = 3
  · subst h3; rw [has_put_same t3.isMap (lit_is _)]; rfl
  rw [has_put_other (lit_ne h3)]
  by_cases h2 : k = 2
  · subst h2; rw [has_put_same t2.isMap (lit_is _)]; rfl
  rw [has_put_other (lit_ne h2)]
  by_cases h1 : k = 1
  · subst h1; rw [has_put_same t1.isMap (lit_is _)]; rfl
  rw [has_put_other (lit_ne h1)]
  by_cases h0 : k = 0
  · subst h0; rw [has_put_same t0.isMap (lit_is _)]; rfl
  rw [has_put_other (lit_ne h0)]
  have : ¬ (0 ≤ k ∧ k ≤ 7) := by omega
  simp [Maps.has, this]
theorem kindD_at (n k : Int) (z : DataW Unit) : (kindD n).atKey (.int .i64 k) z = if 0 ≤ k ∧ k ≤ 7 then entryD (partsS k) (mostS n k) else z := by
  have t0 : Tidy (DataW.map [] : DataW Unit) := tidy_empty
  have t1 := t0.put (lit_is 0) (entryD 0 999)
  have t2 := t1.put (lit_is 1) (entryD 0 (n - 1))
  have t3 := t2.put (lit_is 2) (entryD 2 0)
  have t4 := t3.put (lit_is 3) (entryD 2 0)
  have t5 := t4.put (lit_is 4) (entryD 2 0)
  have t6 := t5.put (lit_is 5) (entryD 2 0)
  have t7 := t6.put (lit_is 6) (entryD 2 0)
  unfold kindD
  by_cases h7 : k = 7
  · subst h7; rw [atKey_put_same t7.isMap (lit_is _)]; rfl
  rw [atKey_put_other (lit_ne h7)]
  by_cases h6 : k = 6
  · subst h6; rw [atKey_put_same t6.isMap (lit_is _)]; rfl
  rw [atKey_put_other (lit_ne h6)]
  by_cases h5 : k = 5
  · subst h5; rw [atKey_put_same t5.isMap (lit_is _)]; rfl
  rw [atKey_put_other (lit_ne h5)]
  by_cases h4 : k = 4
  · subst h4; rw [atKey_put_same t4.isMap (lit_is _)]; rfl
  rw [atKey_put_other (lit_ne h4)]
  by_cases h3 : k = 3
  · subst h3; rw [atKey_put_same t3.isMap (lit_is _)]; rfl
  rw [atKey_put_other (lit_ne h3)]
  by_cases h2 : k = 2
  · subst h2; rw [atKey_put_same t2.isMap (lit_is _)]; rfl
  rw [atKey_put_other (lit_ne h2)]
  by_cases h1 : k = 1
  · subst h1; rw [atKey_put_same t1.isMap (lit_is _)]; rfl
  rw [atKey_put_other (lit_ne h1)]
  by_cases h0 : k = 0
  · subst h0; rw [atKey_put_same t0.isMap (lit_is _)]; rfl
  rw [atKey_put_other (lit_ne h0)]
  have : ¬ (0 ≤ k ∧ k ≤ 7) := by omega
  rw [if_neg this]
  rfl
theorem KindAt.look {w : World} {B : Nat} {n k : Int} (h : KindAt w B n) (hw : (Lit.int .i64 k).wf = true) (h0 : 0 ≤ k) (h7 : k ≤ 7) :
    (Instr.lookup 121 (.map (some B)) (.int .i64 k) false).run Tryz.prog w = .ok (.agg #[.int .i64 (partsS k), .int .i64 (mostS n k)]) w := by
  obtain ⟨v, ps, hrun, hR⟩ := World.ownsMap.lookup h keyInt Tryz.underlying121 (zeroKind w) (kindR_mk 0 0) (keyOf_int_mk Tryz.underlying3 hw)
  rw [kindD_at, if_pos ⟨h0, h7⟩] at hR
  rw [hrun, kindR_inv hR]
theorem KindAt.look_ok {w : World} {B : Nat} {n k : Int} (h : KindAt w B n) (hw : (Lit.int .i64 k).wf = true) :
    (Instr.lookup 121 (.map (some B)) (.int .i64 k) true).run Tryz.prog w = .ok (.tuple #[.agg #[.int .i64 (if 0 ≤ k ∧ k ≤ 7 then partsS k else 0), .int .i64 (if 0 ≤ k ∧ k ≤ 7 then mostS n k else 0)], .bool (decide (0 ≤ k ∧ k ≤ 7))]) w := by
  obtain ⟨v, ps, hrun, hR⟩ := World.ownsMap.look_ok h keyInt Tryz.underlying121 (zeroKind w) (kindR_mk 0 0) (keyOf_int_mk Tryz.underlying3 hw)
  rw [kindD_at] at hR
  rw [kindD_has] at hrun
  rw [hrun]
  by_cases hk : 0 ≤ k ∧ k ≤ 7
  · rw [if_pos hk] at hR
    rw [kindR_inv hR, if_pos hk, if_pos hk]
  · rw [if_neg hk] at hR
    rw [kindR_inv hR, if_neg hk, if_neg hk]
theorem made (w : World) : (Instr.makeMap 121 none).run Tryz.prog w = .ok (.map (some w.heap.size)) (w.alloc (.map #[] 0)) := by kernel_rfl
theorem kindsOver_any (n : Int) (w : World) (h0 : 0 ≤ n) (h4 : n ≤ 4) :
    Calls Tryz.prog 71 #[.int .i64 n] w fun e w' => e = .returned (.map (some w.heap.size)) ∧ KindAt w' w.heap.size n ∧ Kept w w' := by
  have key : ∀ k : Int, 0 ≤ k → k ≤ 7 → keyOf Tryz.prog 3 (.int .i64 k) = some (.int .i64 k) := fun k a b => keyOf_int_mk Tryz.underlying3 (WalkArith.wf_i64 (by omega))
  have m0 := World.ownsMap_made w Tryz.prog 3 kindR
  obtain ⟨w1, r1, m1, g1⟩ := m0.update (t := 121) keyInt Tryz.underlying121 (by unfold maxLen; omega) (key 0 (by omega) (by omega)) (kindR_mk 0 999)
  obtain ⟨w2, r2, m2, g2⟩ := m1.update (t := 121) keyInt Tryz.underlying121 (by unfold maxLen; omega) (key 1 (by omega) (by omega)) (kindR_mk 0 (n - 1))
  obtain ⟨w3, r3, m3, g3⟩ := m2.update (t := 121) keyInt Tryz.underlying121 (by unfold maxLen; omega) (key 2 (by omega) (by omega)) (kindR_mk 2 0)
  obtain ⟨w4, r4, m4, g4⟩ := m3.update (t := 121) keyInt Tryz.underlying121 (by unfold maxLen; omega) (key 3 (by omega) (by omega)) (kindR_mk 2 0)
  obtain ⟨w5, r5, m5, g5⟩ := m4.update (t := 121) keyInt Tryz.underlying121 (by unfold maxLen; omega) (key 4 (by omega) (by omega)) (kindR_mk 2 0)
  obtain ⟨w6, r6, m6, g6⟩ := m5.update (t := 121) keyInt Tryz.underlying121 (by unfold maxLen; omega) (key 5 (by omega) (by omega)) (kindR_mk 2 0)
  obtain ⟨w7, r7, m7, g7⟩ := m6.update (t := 121) keyInt Tryz.underlying121 (by unfold maxLen; omega) (key 6 (by omega) (by omega)) (kindR_mk 2 0)
  obtain ⟨w8, r8, m8, g8⟩ := m7.update (t := 121) keyInt Tryz.underlying121 (by unfold maxLen; omega) (key 7 (by omega) (by omega)) (kindR_mk 3 0)
  have HM : Hid (KindAt w8 w.heap.size n) := hide m8
  have bl : ∀ {a b : World}, Kept w a → a.grownBy b (some w.heap.size) → Kept w b := fun h g => Below.grown h g h.size (fun j hj => by cases hj; exact Nat.le_refl _)
  have HK : Hid (Kept w w8) := hide (bl (bl (bl (bl (bl (bl (bl (bl ((Kept.refl w).alloc _) g1) g2) g3) g4) g5) g6) g7) g8)
  have hmk := made
  clear m0 m1 m2 m3 m4 m5 m6 m7 m8 g1 g2 g3 g4 g5 g6 g7 g8 key bl
  go_enter Tryz.func71, Tryz.ntmps71
  go_wp2
  go_ret
  exact ⟨rfl, unhide HM, unhide HK⟩
theorem NodesAt.cells {w : World} {e : List (Int × Int)} {oa : Option Addr} {m cap : Nat} (he : NodesAt w (.slice oa m cap) e) :
    m = e.length ∧ ∀ i x, e[i]? = some x → ∃ b o, oa = some ⟨b, o, none⟩ ∧ w.cell? ⟨b, o + i * 2, none⟩ = some (.int .i64 x.1) ∧ w.cell? ⟨b, o + i * 2 + 1, none⟩ = some (.int .i64 x.2) := by
  obtain ⟨oa', cap', e1, _, hi⟩ := he
  obtain ⟨rfl, h, _⟩ : oa = oa' ∧ m = e.length ∧ cap = cap' := by simpa using e1
  exact ⟨h, hi⟩
theorem field_parts (a b : Int) (u : World) : (Instr.field 124 (.agg #[.int .i64 a, .int .i64 b]) 0).run Tryz.prog u = .ok (.int .i64 a) u := by kernel_rfl
theorem field_most (a b : Int) (u : World) : (Instr.field 124 (.agg #[.int .i64 a, .int .i64 b]) 1).run Tryz.prog u = .ok (.int .i64 b) u := by kernel_rfl
theorem isOne_any (e : List (Int × Int)) (oa : Option Addr) (m cap B : Nat) (n : Int) (w : World) (he : NodesAt w (.slice oa m cap) e) (hB : KindAt w B n) (hl : m ≤ 9) (hk : ∀ x ∈ e, kindOk x) :
    Calls Tryz.prog 72 #[.slice oa m cap, .map (some B)] w fun x w' => x = .returned (.bool (onlyS e 1)) ∧ Kept w w' := by
  obtain ⟨hm, hi⟩ := he.cells
  have HI := hide hi
  have HM := hide hm
  have HB := hide hB
  have HKS := hide hk
  clear he hB hi hm hk
  generalize hr : onlyS e 1 = rr
  have HR := hide hr
  clear hr
  go_enter Tryz.func72, Tryz.ntmps72
  go_wp2
  go_loopw [5, 10] (fun s8 s9 wr => ∃ (k : Nat) (o : Int), k ≤ m ∧ s9 = .int .i64 k ∧ s8 = .int .i64 o ∧ 0 ≤ o ∧ o ≤ 1 + 2 * k ∧ Hid (onlyS (e.drop k) o = onlyS e 1) ∧ Hid (Kept w wr)) (fun _ s _ => m - (intOf s).toNat)
  case atStart => exact ⟨0, 1, Nat.zero_le _, rfl, rfl, by omega, by omega, hide rfl, hide (Kept.refl _)⟩
  case round =>
    obtain ⟨k, op, hkm, rfl, rfl, ho0, ho1, HO, HKr⟩ := hrel
    by_cases hlt : k < m
    · obtain ⟨b, o, rfl, c0, c1⟩ := (unhide HI) k _ (getD_of_lt e k (0, 0) (by rw [← unhide HM]; exact hlt))
      have hx := getD_of_lt e k (0, 0) (by rw [← unhide HM]; exact hlt)
      have hkx := (unhide HKS) _ (List.mem_of_getElem? hx)
      have hst := onlyS_step hx op
      have HST := hide hst
      generalize e.getD k (0, 0) = x at c0 c1 hkx HST
      obtain ⟨kd, z⟩ := x
      simp only [] at c0 c1
      unfold kindOk at hkx
      simp only [] at hkx
      have hk0 : (0 : Int) ≤ (k : Int) := by omega
      have hk1 : (k : Int) < (m : Int) := by omega
      have q0 := (unhide HKr).cell c0
      have q1 := (unhide HKr).cell c1
      clear hx hst c0 c1
      by_cases hop : op = 0
      · obtain rfl : false = rr := by rw [← unhide HR, ← unhide HO, unhide HST, if_pos hop]
        have HK2 := hide ((unhide HKr).alloc (.cells #[.int .i64 kd, .int .i64 z] 100))
        subst hop
        go_wp2
        go_ret
        exact ⟨rfl, unhide HK2⟩
      · have HN : Hid (onlyS (e.drop (k + 1)) (op - 1 + partsS kd) = onlyS e 1) := hide (by rw [← unhide HO, unhide HST, if_neg hop])
        have hp0 : 0 ≤ partsS kd ∧ partsS kd ≤ 3 := by unfold partsS; split <;> (try split) <;> omega
        have bop : (op == 0) = false := beq_eq_false_iff_ne.2 hop
        obtain ⟨hpa, hpb⟩ := hp0
        have hkk := (Kept.refl wr).alloc (.cells #[.int .i64 kd, .int .i64 z] 100)
        have hlk := ((unhide HB).kept ((unhide HKr).trans hkk)).look (k := kd) (WalkArith.wf_i64 (by omega)) hkx.1 hkx.2
        have HK2 := hide ((unhide HKr).trans hkk)
        clear HO HST hkk
        generalize mostS n kd = mo at hlk
        generalize partsS kd = pk at HN hpa hpb hlk
        have hfl := field_parts pk mo
        go_wp2
        go_roundw
        case rel => exact ⟨k + 1, op - 1 + pk, by omega, by go_num, by go_num, by omega, by omega, HN, HK2⟩
        case measure => simp [intOf]; omega
    · have hke : k = e.length := by have := unhide HM; omega
      have hfin : onlyS e 1 = decide (op = 0) := by rw [← unhide HO, hke]; simp [onlyS]
      by_cases hop : op = 0
      · obtain rfl : true = rr := by rw [← unhide HR, hfin]; simp [hop]
        subst hop
        clear hfin hke
        go_wp2
        go_ret
        exact ⟨rfl, unhide HKr⟩
      · obtain rfl : false = rr := by rw [← unhide HR, hfin]; simp [hop]
        have bop : (op == 0) = false := beq_eq_false_iff_ne.2 hop
        clear hfin hke hop
        go_wp2
        go_ret
        exact ⟨rfl, unhide HKr⟩
theorem exCheck_low (v : Value) (n : Int) (w : World) (h : n < 0) :
    Calls Tryz.prog 54 #[v, .int .i64 n] w fun x w' => x = .returned (.int .i64 3) ∧ Kept w w' := by
  go_enter Tryz.func54, Tryz.ntmps54
  go_wp2
  go_ret
  exact ⟨rfl, Kept.refl _⟩
theorem exCheck_high (v : Value) (n : Int) (w : World) (h0 : ¬ n < 0) (h : 4 < n) :
    Calls Tryz.prog 54 #[v, .int .i64 n] w fun x w' => x = .returned (.int .i64 3) ∧ Kept w w' := by
  go_enter Tryz.func54, Tryz.ntmps54
  go_wp2
  go_ret
  exact ⟨rfl, Kept.refl _⟩
theorem exCheck_many (oa : Option Addr) (l cap : Nat) (n : Int) (w : World) (h0 : ¬ n < 0) (h4 : ¬ 4 < n) (hl : 9 < (l : Int)) :
    Calls Tryz.prog 54 #[.slice oa l cap, .int .i64 n] w fun x w' => x = .returned (.int .i64 2) ∧ Kept w w' := by
  go_enter Tryz.func54, Tryz.ntmps54
  go_wp2
  go_ret
  exact ⟨rfl, Kept.refl _⟩
theorem exCheck_go (e : List (Int × Int)) (oa : Option Addr) (m cap : Nat) (n : Int) (w : World) (he : NodesAt w (.slice oa m cap) e) (hw : ∀ x ∈ e, (Lit.int .i64 x.1).wf = true) (h0 : ¬ n < 0) (h4 : ¬ 4 < n) (hl : ¬ 9 < (m : Int)) :
    Calls Tryz.prog 54 #[.slice oa m cap, .int .i64 n] w fun x w' => x = .returned (.int .i64 (exErrS e n)) ∧ Kept w w' := by
  obtain ⟨hm, hi⟩ := he.cells
  have HI := hide hi
  have HM := hide hm
  have HE := hide he
  have HW := hide hw
  have HL : Hid (¬ 9 < e.length) := by rw [← hm]; exact hide (by omega)
  clear he hi hm hw
  generalize hr : exErrS e n = rr
  have HR := hide hr
  clear hr
  go_enter Tryz.func54, Tryz.ntmps54
  go_wp2_with fail
  refine (kindsOver_any n w (by omega) (by omega)).mono ?_
  rintro _ w1 ⟨rfl, hB, hK1⟩
  have HB := hide hB
  have HK1 := hide hK1
  clear hB hK1
  generalize w.heap.size = B at HB ⊢
  go_wp2
  go_loopw [25] (fun s wr => ∃ k : Nat, k ≤ m ∧ s = .int .i64 k ∧ Hid (∀ i x, i < k → e[i]? = some x → kindOk x) ∧ Hid (Kept w1 wr)) (fun s _ => m - (intOf s).toNat)
  case atStart => exact ⟨0, Nat.zero_le _, rfl, hide (fun i x hi => by omega), hide (Kept.refl _)⟩
  case round =>
    obtain ⟨k, hkm, rfl, HO, HKr⟩ := hrel
    by_cases hlt : k < m
    · obtain ⟨b, o, rfl, c0, c1⟩ := (unhide HI) k _ (getD_of_lt e k (0, 0) (by rw [← unhide HM]; exact hlt))
      have hx := getD_of_lt e k (0, 0) (by rw [← unhide HM]; exact hlt)
      have hwx := (unhide HW) _ (List.mem_of_getElem? hx)
      have HX := hide hx
      generalize e.getD k (0, 0) = x at c0 c1 HX hwx
      obtain ⟨kd, z⟩ := x
      simp only [] at c0 c1 hwx
      have hk0 : (0 : Int) ≤ (k : Int) := by omega
      have hk1 : (k : Int) < (m : Int) := by omega
      have q0 := (unhide HKr).cell ((unhide HK1).cell c0)
      have q1 := (unhide HKr).cell ((unhide HK1).cell c1)
      have hkk := (Kept.refl wr).alloc (.cells #[.int .i64 kd, .int .i64 z] 100)
      have hlk := ((unhide HB).kept ((unhide HKr).trans hkk)).look_ok (k := kd) hwx
      have HKK := hide ((unhide HKr).trans hkk)
      clear hx c0 c1 hkk hwx
      by_cases hok : 0 ≤ kd ∧ kd ≤ 7
      · have HN : Hid (∀ i x, i < k + 1 → e[i]? = some x → kindOk x) := hide (fun i x hi hx => by
          by_cases hik : i = k
          · subst hik; rw [unhide HX] at hx; obtain rfl := Option.some.inj hx; exact hok
          · exact (unhide HO) i x (by omega) hx)
        rw [if_pos hok, if_pos hok, decide_eq_true hok] at hlk
        generalize partsS kd = pk at hlk
        generalize mostS n kd = mo at hlk
        have HK2 := hide ((unhide HKK).alloc (.cells #[.int .i64 pk, .int .i64 mo] 124))
        clear hok HO HX
        go_wp2
        go_roundw
        case rel => exact ⟨k + 1, by omega, by go_num, HN, HK2⟩
        case measure => simp [intOf]; omega
      · obtain rfl : 4 = rr := by rw [← unhide HR]; exact (exErr_kind (by omega) (by omega) (unhide HL) k _ (unhide HX) hok).symm
        rw [if_neg hok, if_neg hok, decide_eq_false hok] at hlk
        have HK2 := hide ((unhide HK1).trans ((unhide HKK).alloc (.cells #[.int .i64 0, .int .i64 0] 124)))
        clear hok HO HX
        go_wp2
        go_ret
        exact ⟨rfl, unhide HK2⟩
    · have hke : k = e.length := by have := unhide HM; omega
      have HKS : Hid (∀ x ∈ e, kindOk x) := hide (all_of (fun i x hi hx => (unhide HO) i x (by omega) hx))
      have HKR := HKr
      have HBr := hide ((unhide HB).kept (unhide HKr))
      have HKw := hide ((unhide HK1).trans (unhide HKr))
      clear HO hke HKr HKR HK1 HB
      go_wp2
      go_loopw [41] (fun s wx => ∃ k : Nat, k ≤ m ∧ s = .int .i64 k ∧ Hid (∀ i x, i < k → e[i]? = some x → numOk n x) ∧ Hid (Kept wr wx)) (fun s _ => m - (intOf s).toNat)
      case atStart => exact ⟨0, Nat.zero_le _, rfl, hide (fun i x hi => by omega), hide (Kept.refl _)⟩
      case round =>
        obtain ⟨k, hkm, rfl, HO, HKr⟩ := hrel
        by_cases hlt : k < m
        · obtain ⟨b, o, rfl, c0, c1⟩ := (unhide HI) k _ (getD_of_lt e k (0, 0) (by rw [← unhide HM]; exact hlt))
          have hx := getD_of_lt e k (0, 0) (by rw [← unhide HM]; exact hlt)
          have hkx := (unhide HKS) _ (List.mem_of_getElem? hx)
          have HX := hide hx
          generalize e.getD k (0, 0) = x at c0 c1 HX hkx
          obtain ⟨kd, z⟩ := x
          simp only [] at c0 c1
          unfold kindOk at hkx
          simp only [] at hkx
          have hk0 : (0 : Int) ≤ (k : Int) := by omega
          have hk1 : (k : Int) < (m : Int) := by omega
          have q0 := (unhide HKr).cell ((unhide HKw).cell c0)
          have q1 := (unhide HKr).cell ((unhide HKw).cell c1)
          have hkk := (Kept.refl wr).alloc (.cells #[.int .i64 kd, .int .i64 z] 100)
          have hlk := ((unhide HBr).kept ((unhide HKr).trans hkk)).look (k := kd) (WalkArith.wf_i64 (by omega)) hkx.1 hkx.2
          have HKK := hide ((unhide HKr).trans hkk)
          have HNX : Hid (numOk n (kd, z) → ∀ i x, i < k + 1 → e[i]? = some x → numOk n x) := hide (fun hok i x hi hx => by
            by_cases hik : i = k
            · rw [hik, unhide HX] at hx; rw [← Option.some.inj hx]; exact hok
            · exact (unhide HO) i x (by omega) hx)
          have HBX : Hid (¬ numOk n (kd, z) → rr = 3) := hide (fun hok => by rw [← unhide HR]; exact exErr_num (by omega) (by omega) (unhide HL) (unhide HKS) k _ (unhide HX) hok)
          have HDF : Hid (numOk n (kd, z) ↔ 0 ≤ z ∧ z ≤ mostS n kd) := hide Iff.rfl
          clear hx c0 c1 hkk hkx HX HO
          generalize partsS kd = pk at hlk
          generalize mostS n kd = mo at hlk HDF
          have hfl := field_most pk mo
          by_cases hz : z < 0
          · obtain rfl : 3 = rr := ((unhide HBX) (fun h => by have := ((unhide HDF).1 h).1; omega)).symm
            have HK2 := hide ((unhide HKw).trans (unhide HKK))
            clear HNX HBX HDF
            go_wp2
            go_ret
            exact ⟨rfl, unhide HK2⟩
          · by_cases hzm : mo < z
            · obtain rfl : 3 = rr := ((unhide HBX) (fun h => by have := ((unhide HDF).1 h).2; omega)).symm
              have HK2 := hide ((unhide HKw).trans (unhide HKK))
              clear HNX HBX HDF
              go_wp2
              go_ret
              exact ⟨rfl, unhide HK2⟩
            · have HN := hide ((unhide HNX) ((unhide HDF).2 ⟨by omega, by omega⟩))
              clear HNX HBX HDF
              go_wp2
              go_roundw
              case rel => exact ⟨k + 1, by omega, by go_num, HN, HKK⟩
              case measure => simp [intOf]; omega
        · have hke : k = e.length := by have := unhide HM; omega
          have HNS : Hid (∀ x ∈ e, numOk n x) := hide (all_of (fun i x hi hx => (unhide HO) i x (by omega) hx))
          have HRR : Hid (rr = if onlyS e 1 = true then 0 else 1) := hide (by rw [← unhide HR]; exact exErr_one (by omega) (by omega) (unhide HL) (unhide HKS) (unhide HNS))
          have HKx := hide ((unhide HKw).trans (unhide HKr))
          have HC := hide (isOne_any e oa m cap B n wr ((unhide HE).kept (unhide HKx)) ((unhide HBr).kept (unhide HKr)) (by omega) (unhide HKS))
          clear HO hke HNS HR
          go_wp2_with fail
          refine (unhide HC).mono ?_
          rintro _ w4 ⟨rfl, hk4⟩
          have HK4 := hide ((unhide HKx).trans hk4)
          clear hk4 HC
          by_cases h1 : onlyS e 1 = true
          · obtain rfl : 0 = rr := by rw [unhide HRR, if_pos h1]
            rw [h1]
            clear h1 HRR
            go_wp2
            go_ret
            exact ⟨rfl, unhide HK4⟩
          · obtain rfl : 1 = rr := by rw [unhide HRR, if_neg h1]
            rw [Bool.not_eq_true] at h1
            rw [h1]
            clear h1 HRR
            go_wp2
            go_ret
            exact ⟨rfl, unhide HK4⟩
theorem exCheck_any (e : List (Int × Int)) (v : Value) (n : Int) (w : World) (he : NodesAt w v e) (hw : ∀ x ∈ e, (Lit.int .i64 x.1).wf = true) :
    Calls Tryz.prog 54 #[v, .int .i64 n] w fun x w' => x = .returned (.int .i64 (exErrS e n)) ∧ Kept w w' := by
  obtain ⟨oa, cap, rfl, hl, hi⟩ := id he
  by_cases h0 : n < 0
  · rw [exErr_locals (.inl h0)]; exact exCheck_low _ n w h0
  · by_cases h4 : 4 < n
    · rw [exErr_locals (.inr h4)]; exact exCheck_high _ n w h0 h4
    · by_cases h9 : 9 < e.length
      · rw [exErr_many (by omega) (by omega) h9]
        exact exCheck_many oa _ cap n w h0 h4 (by omega)
      · exact exCheck_go e oa _ cap n w he hw h0 h4 (by omega)
theorem FCode.ok {N : Nat} {w : World} {v : Value} {c : List (Int × Int)} (h : FCode N w v c) : OpsOk w N v := by
  obtain ⟨oa, cap, e, hl, hi⟩ := h
  refine ⟨oa, c.length, cap, e, fun hn => ?_⟩
  obtain ⟨b, o, e1, e2, h1, h2, cur, h3⟩ := hi (c.length - 1) _ (List.getElem?_eq_getElem (by omega))
  rw [cell_lays h3] at h2
  have := (Array.getElem?_eq_some_iff.1 h2).1
  exact ⟨b, o, cur, e1, e2, h3, by omega, by omega⟩
def PgOwn (p : List Fn) (er : Int) (w : World) (e : Ending) (w' : World) : Prop :=
  ∃ v', e = .returned (.tuple #[v', .int .i64 er]) ∧ ProgAt w' v' p ∧ FnsOk w' w.heap.size v' ∧ Kept w w'
theorem forgeOwn_bad (e : List (Int × Int)) (oa ob : Option Addr) (m cap l cb : Nat) (w : World) (HFU : Hid (∀ u, Kept w u → Calls Tryz.prog 34 #[.slice oa m cap, .int .i64 l] u (FgPost (fgS e l).1 (fgS e l).2 u))) (hz : exErrS e l ≠ 0) :
    Calls Tryz.prog 14 #[.slice oa m cap, .slice ob l cb] w (PgOwn [] (exErrS e l) w) := by
  have hz' : (exErrS e l != 0) = true := by rw [bne_iff_ne]; exact hz
  have hfg : fgS e l = (Fn.zero, exErrS e l) := by unfold fgS; rw [if_neg hz]
  have HC : Hid (∀ u, Kept w u → Calls Tryz.prog 34 #[.slice oa m cap, .int .i64 l] u (FgPost Fn.zero (exErrS e l) u)) := hide (fun u hu => by have := (unhide HFU) u hu; rw [hfg] at this; exact this)
  generalize exErrS e l = r at *
  clear hz HFU hfg
  go_enter Tryz.func14, Tryz.ntmps14
  go_wp2_with fail
  refine ((unhide HC) w (Kept.refl w)).mono ?_
  rintro _ w1 ⟨cv, rfl, hcv, hk1⟩
  obtain ⟨o6, c6, rfl, _, _⟩ := id hcv
  have HK := hide (hk1.alloc (.cells #[.int .i64 Fn.zero.args, .int .i64 Fn.zero.locals, .slice o6 Fn.zero.code.length c6] 42))
  clear hcv hk1
  go_wp2_with fail
  go_ret2
  exact ⟨_, rfl, ⟨none, 0, rfl, by simp, fun i f h => by simp at h⟩, FnsOk.nil _ _, unhide HK⟩
theorem forgeOwn_go (e : List (Int × Int)) (vals : List Int) (oa ob : Option Addr) (m cap l cb : Nat) (w : World) (hv : IntsW w (.slice ob l cb) vals) (hvl : l = vals.length) (hl4 : l ≤ 4) (HFU : Hid (∀ u, Kept w u → Calls Tryz.prog 34 #[.slice oa m cap, .int .i64 l] u (FgPost (fgS e l).1 (fgS e l).2 u))) (hz : exErrS e l = 0) (rp : List Fn) (rr : Int) (hrr : Hid ((valsOk vals → (rp, rr) = (forgeP e vals, 0)) ∧ (¬ valsOk vals → (rp, rr) = ([], 3)))) :
    Calls Tryz.prog 14 #[.slice oa m cap, .slice ob l cb] w (PgOwn rp rr w) := by
  have hfg : fgS e l = (fnS e l, 0) := by unfold fgS; rw [if_pos hz]
  have HC : Hid (∀ u, Kept w u → Calls Tryz.prog 34 #[.slice oa m cap, .int .i64 l] u (FgPost (fnS e l) 0 u)) := hide (fun u hu => by have := (unhide HFU) u hu; rw [hfg] at this; exact this)
  have HV := hide hv
  have HVL := hide hvl
  clear hz HFU hfg hv hvl
  go_enter Tryz.func14, Tryz.ntmps14
  go_wp2_with fail
  refine ((unhide HC) w (Kept.refl w)).mono ?_
  rintro _ w1 ⟨cv, rfl, hcv, hk1⟩
  obtain ⟨o6, c6, rfl, _, _⟩ := id hcv
  have hfl : (fnS e l).code.length ≤ 8796093022208 := by assumption
  generalize hF : fnS e l = F at *
  have hNF : (w1.alloc (.cells #[.int .i64 F.args, .int .i64 F.locals, .slice o6 F.code.length c6] 42)).heap.size = w1.heap.size + 1 := by simp
  have hks : Kept w (w1.alloc (.cells #[.int .i64 F.args, .int .i64 F.locals, .slice o6 F.code.length c6] 42)) := hk1.alloc _
  have hcs := hcv.kept ((Kept.refl w1).alloc (.cells #[.int .i64 F.args, .int .i64 F.locals, .slice o6 F.code.length c6] 42))
  have hlf : (w1.alloc (.cells #[.int .i64 F.args, .int .i64 F.locals, .slice o6 F.code.length c6] 42)).heap[w1.heap.size]? = some (.cells #[.int .i64 F.args, .int .i64 F.locals, .slice o6 F.code.length c6] 42) := lays_new rfl
  have HF := hide hF
  clear hcv hk1 hF HC hfl
  generalize hM : F.code.length = M at *
  have HM := hide hM
  clear hM
  go_wp2_with fail
  generalize w1.alloc (.cells #[.int .i64 F.args, .int .i64 F.locals, .slice o6 M c6] 42) = wf at hNF hks hcs hlf ⊢
  rw [← hNF]
  generalize w1.heap.size = X at hNF hlf ⊢
  have HNF := hide hNF
  have HKS := hide hks
  have HCS := hide hcs
  have HLF := hide hlf
  have hst := SmAt.new (NodesAt.nil wf) (Kept.refl wf)
  have HST := hide hst
  clear hNF hks hcs hlf hst
  generalize wf.alloc (.cells #[.slice none 0 0, .slice none 0 0] 75) = ws at HST ⊢
  generalize hBB : wf.heap.size = B at HST HNF ⊢
  have HBB := hide hBB
  clear hBB
  go_loopw [23] (fun s23 wr => ∃ k : Nat, k ≤ l ∧ s23 = .int .i64 k ∧ Hid (∀ j, j < k → 0 ≤ vals.getD j 0 ∧ vals.getD j 0 ≤ 999) ∧ Hid (SmAt wf wr B [] ((vals.take k).map (fun v => ((0 : Int), v))))) (fun s23 _ => l - (intOf s23).toNat)
  case atStart => exact ⟨0, Nat.zero_le _, rfl, hide (fun j hj => by omega), HST⟩
  case round =>
    obtain ⟨k, hkm, rfl, HO, HSr⟩ := hrel
    by_cases hlt : k < l
    · have hx := getD_of_lt vals k 0 (by rw [← unhide HVL]; exact hlt)
      obtain ⟨bv, ov, c5, ev, cz⟩ := ((unhide HV).kept (unhide HKS)).at (i := k) (by rw [← unhide HVL]; exact hlt)
      obtain ⟨rfl, rfl⟩ : ob = some ⟨bv, ov, none⟩ ∧ cb = c5 := by
        simp only [Value.slice.injEq] at ev
        exact ⟨ev.1, ev.2.2⟩
      have cz2 := (unhide HSr).keptw.cell cz
      have hk0 : (0 : Int) ≤ (k : Int) := by omega
      have hk1 : (k : Int) < (l : Int) := by omega
      have HX := hide hx
      generalize hz : vals.getD k 0 = z at cz cz2 HX
      have HZ := hide hz
      clear cz ev hx hz
      by_cases hz0 : z < 0
      · obtain ⟨rfl, rfl⟩ : rp = [] ∧ rr = 3 := by
          have := (unhide hrr).2 (fun h => by have := h z (List.mem_of_getElem? (unhide HX)); omega)
          simpa using this
        have HK9 := hide ((unhide HKS).trans (unhide HSr).keptw)
        go_wp2_with fail
        go_ret2
        exact ⟨_, rfl, ⟨none, 0, rfl, by simp, fun i f h => by simp at h⟩, FnsOk.nil _ _, unhide HK9⟩
      · by_cases hz9 : 999 < z
        · obtain ⟨rfl, rfl⟩ : rp = [] ∧ rr = 3 := by
            have := (unhide hrr).2 (fun h => by have := h z (List.mem_of_getElem? (unhide HX)); omega)
            simpa using this
          have HK9 := hide ((unhide HKS).trans (unhide HSr).keptw)
          go_wp2_with fail
          go_ret2
          exact ⟨_, rfl, ⟨none, 0, rfl, by simp, fun i f h => by simp at h⟩, FnsOk.nil _ _, unhide HK9⟩
        · have HC := hide (smPut_any wf wr B [] _ 0 z (unhide HSr) (by simp; omega))
          go_wp2_with fail
          refine (unhide HC).mono ?_
          rintro _ w2 ⟨rfl, s2, -⟩
          have HS2 : Hid (SmAt wf w2 B [] ((vals.take (k + 1)).map (fun v => ((0 : Int), v)))) := hide (by
            rw [List.take_add_one, unhide HX, List.map_append]
            exact s2)
          have HO2 : Hid (∀ j, j < k + 1 → 0 ≤ vals.getD j 0 ∧ vals.getD j 0 ≤ 999) := hide (fun j hj => by
            by_cases hj' : j = k
            · rw [hj', unhide HZ]; omega
            · exact (unhide HO) j (by omega))
          clear s2 HC HSr HO
          go_wp2_with fail
          go_roundw
          case rel => exact ⟨k + 1, by omega, by go_num, HO2, HS2⟩
          case measure => simp [intOf]; omega
    · have hke : k = l := by omega
      have hok : valsOk vals := fun v hv => by
        obtain ⟨i, hi⟩ := List.mem_iff_getElem?.1 hv
        have hil := (List.getElem?_eq_some_iff.1 hi).1
        have := (unhide HO) i (by have := unhide HVL; omega)
        rwa [List.getD_eq_getElem?_getD, hi] at this
      obtain ⟨rfl, rfl⟩ : rp = forgeP e vals ∧ rr = 0 := by simpa using (unhide hrr).1 hok
      have hall : (vals.take k).map (fun v => ((0 : Int), v)) = vals.map (fun v => ((0 : Int), v)) := by rw [hke, unhide HVL, List.take_length]
      have hs := unhide HSr
      rw [hall] at hs
      have HC := hide (smPut_any wf wr B [] _ 11 1 hs (by simp; have := unhide HVL; omega))
      clear hs hall hok HSr HO
      subst hke
      go_wp2_with fail
      refine (unhide HC).mono ?_
      rintro _ w2 ⟨rfl, s2, -⟩
      have HC2 := hide (smPut_any wf w2 B [] _ 12 0 s2 (by simp; have := unhide HVL; omega))
      clear s2 HC
      go_wp2_with fail
      refine (unhide HC2).mono ?_
      rintro _ w3 ⟨rfl, s3, -⟩
      clear HC2
      obtain ⟨oc, cc, c1, hcode⟩ := s3.code (by simp; have := unhide HVL; omega)
      have hk3 := s3.keptw
      have l3 := lays_kept hk3 (unhide HLF)
      have x0 := cell_lays l3 0
      have x1 := cell_lays l3 1
      have x2 := cell_lays l3 2
      simp only [List.getElem?_toArray, List.getElem?_cons_zero, List.getElem?_cons_succ] at x0 x1 x2
      have hG : (mainS vals).code = vals.map (fun v => ((0 : Int), v)) ++ [(11, 1)] ++ [(12, 0)] := by simp [mainS]
      rw [← hG] at c1 hcode
      have HCO := hide hcode
      have HK3 := hide ((unhide HKS).trans hk3)
      have HC4 := hide ((unhide HCS).kept hk3)
      generalize hQ : (mainS vals).code.length = Q at c1 HCO
      have HQ := hide hQ
      clear s3 hcode hk3 l3 hG hQ
      go_wp2_with fail
      go_ret2
      refine ⟨_, rfl, ?_, ?_, ?_⟩
      · have hl6 : (w3.alloc (.cells #[.int .i64 0, .int .i64 0, .slice oc Q cc, .int .i64 F.args, .int .i64 F.locals, .slice o6 M c6] 42)).heap[w3.heap.size]? = some (.cells #[.int .i64 0, .int .i64 0, .slice oc Q cc, .int .i64 F.args, .int .i64 F.locals, .slice o6 M c6] 42) := lays_new rfl
        have hk6 := (Kept.refl w3).alloc (.cells #[.int .i64 0, .int .i64 0, .slice oc Q cc, .int .i64 F.args, .int .i64 F.locals, .slice o6 M c6] 42)
        refine ⟨some ⟨w3.heap.size, 0, none⟩, 2, rfl, by simp [forgeP], fun i f h => ?_⟩
        match i, h with
        | 0, h =>
          obtain rfl : mainS vals = f := by simpa [forgeP] using h
          exact ⟨_, _, .slice oc Q cc, rfl, cell_lays hl6 0, cell_lays hl6 1, cell_lays hl6 2, ((unhide HCO).kept hk6).code⟩
        | 1, h =>
          obtain rfl : F = f := by
            have h2 : fnS e vals.length = f := by simpa [forgeP] using h
            rw [← h2, ← unhide HF, ← unhide HVL]
          exact ⟨_, _, .slice o6 M c6, rfl, cell_lays hl6 3, cell_lays hl6 4, cell_lays hl6 5, ((unhide HC4).kept hk6).code⟩
        | i + 2, h => simp [forgeP] at h
      · have hl6 : (w3.alloc (.cells #[.int .i64 0, .int .i64 0, .slice oc Q cc, .int .i64 F.args, .int .i64 F.locals, .slice o6 M c6] 42)).heap[w3.heap.size]? = some (.cells #[.int .i64 0, .int .i64 0, .slice oc Q cc, .int .i64 F.args, .int .i64 F.locals, .slice o6 M c6] 42) := lays_new rfl
        have hk6 := (Kept.refl w3).alloc (.cells #[.int .i64 0, .int .i64 0, .slice oc Q cc, .int .i64 F.args, .int .i64 F.locals, .slice o6 M c6] 42)
        refine ⟨some ⟨w3.heap.size, 0, none⟩, 2, _, rfl, fun _ => ⟨w3.heap.size, _, rfl, (unhide HK3).size, hl6, by omega, fun k hk => ?_⟩⟩
        match k, hk with
        | 0, _ => exact ⟨_, _, .slice oc Q cc, rfl, rfl, rfl, ((unhide HCO).kept hk6).ok.low (unhide HKS).size⟩
        | 1, _ => exact ⟨_, _, .slice o6 M c6, rfl, rfl, rfl, ((unhide HC4).kept hk6).ok⟩
      · exact (unhide HK3).alloc _
theorem forgeOwn_any (e : List (Int × Int)) (vals : List Int) (v vv : Value) (w : World) (he : NodesAt w v e) (hv : IntsW w vv vals) (HFU : Hid (∀ u, Kept w u → Calls Tryz.prog 34 #[v, .int .i64 vals.length] u (FgPost (fgS e vals.length).1 (fgS e vals.length).2 u))) :
    Calls Tryz.prog 14 #[v, vv] w (PgOwn (pgS e vals).1 (pgS e vals).2 w) := by
  obtain ⟨oa, cap, rfl, _, _⟩ := id he
  obtain ⟨ob, cb, rfl, _, _⟩ := id hv
  unfold pgS
  by_cases hz : exErrS e vals.length = 0
  · rw [if_pos hz]
    have h4 := (exErr_ok hz).2.1
    have hiff : vals.all (fun v => decide (0 ≤ v ∧ v ≤ 999)) = true ↔ valsOk vals := by simp [valsOk]
    refine forgeOwn_go e vals oa ob _ cap _ cb w hv rfl (by omega) HFU hz _ _ (hide ⟨fun h => ?_, fun h => ?_⟩)
    · rw [if_pos (hiff.2 h)]
    · rw [if_neg (fun c => h (hiff.1 c))]
  · rw [if_neg hz]
    exact forgeOwn_bad e oa ob _ cap _ cb w HFU hz
theorem FKinds.keptP {w u : World} (h : FKinds w) (k : Kept w u) : FKinds u := fun i v hv => k.cell (h i v hv)
theorem forgeOwn_is (e : List (Int × Int)) (vals : List Int) (v vv : Value) (w : World) (he : NodesAt w v e) (hw : ∀ x ∈ e, (Lit.int .i64 x.1).wf = true) (hv : IntsW w vv vals) (hf : FKinds w) :
    Calls Tryz.prog 14 #[v, vv] w (PgOwn (pgS e vals).1 (pgS e vals).2 w) :=
  forgeOwn_any e vals v vv w he hv (hide fun u hu => forgeFunc_any e v _ u (he.kept hu) (hf.keptP hu) (hide fun u' hu' => exCheck_any e v _ u' ((he.kept hu).kept hu') hw))
end Go.Proofs.YtjioipkfnekigaaGreatDoor
