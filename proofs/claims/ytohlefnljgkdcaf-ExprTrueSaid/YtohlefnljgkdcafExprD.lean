/-
  The contracts of the program's isOne and Check.
-/
import Derived.Test.YtohlefnljgkdcafExprC
namespace Go.Proofs.Ytohlefnljgkdcaf
open Go.RowKit Go.Maps

theorem NodesAt.cells {w : World} {e : List (Int × Int)} {oa : Option Addr} {m cap : Nat} (he : NodesAt w (.slice oa m cap) e) :
    m = e.length ∧ ∀ i x, e[i]? = some x → ∃ b o, oa = some ⟨b, o, none⟩ ∧ w.cell? ⟨b, o + i * 2, none⟩ = some (.int .i64 x.1) ∧ w.cell? ⟨b, o + i * 2 + 1, none⟩ = some (.int .i64 x.2) := by
  obtain ⟨oa', cap', e1, _, hi⟩ := he
  obtain ⟨rfl, h, _⟩ : oa = oa' ∧ m = e.length ∧ cap = cap' := by simpa using e1
  exact ⟨h, hi⟩

theorem field_parts (a b : Int) (u : World) : (Instr.field 39 (.agg #[.int .i64 a, .int .i64 b]) 0).run Try.prog u = .ok (.int .i64 a) u := by kernel_rfl
theorem field_most (a b : Int) (u : World) : (Instr.field 39 (.agg #[.int .i64 a, .int .i64 b]) 1).run Try.prog u = .ok (.int .i64 b) u := by kernel_rfl

set_option maxRecDepth 100000 in
set_option maxHeartbeats 4000000 in
theorem isOne_any (e : List (Int × Int)) (oa : Option Addr) (m cap B : Nat) (n : Int) (w : World) (he : NodesAt w (.slice oa m cap) e) (hB : KindAt w B n) (hl : m ≤ 9) (hk : ∀ x ∈ e, kindOk x) :
    Calls Try.prog 10 #[.slice oa m cap, .map (some B)] w fun x w' => x = .returned (.bool (onlyS e 1)) ∧ Kept w w' := by
  obtain ⟨hm, hi⟩ := he.cells
  have HI := hide hi
  have HM := hide hm
  have HB := hide hB
  have HKS := hide hk
  clear he hB hi hm hk
  generalize hr : onlyS e 1 = rr
  have HR := hide hr
  clear hr
  go_enter Try.func10, Try.ntmps10
  go_wp2
  go_loopw [5, 10] (fun s8 s9 wr => ∃ (k : Nat) (o : Int), k ≤ m ∧ s9 = .int .i64 k ∧ s8 = .int .i64 o ∧ 0 ≤ o ∧ o ≤ 1 + 2 * k ∧ Hid (onlyS (e.drop k) o = onlyS e 1) ∧ Hid (Kept w wr)) (fun _ s _ => m - (intOf s).toNat)
  case atStart => exact ⟨0, 1, Nat.zero_le _, rfl, rfl, by omega, by omega, hide rfl, hide (Kept.refl _)⟩
  case round =>
    obtain ⟨k, op, hkm, rfl, rfl, ho0, ho1, HO, HKr⟩ := hrel
    by_cases hlt : k < m
    · obtain ⟨b, o, rfl, c0, c1⟩ := (unhide HI) k _ (getD_of_lt e k (0, 0) (by rw [← unhide HM]; exact hlt))
      have hx := getD_of_lt e k (0, 0) (by rw [← unhide HM]; exact hlt)
      have hkx := (unhide HKS) _ (List.mem_of_getElem? hx)
      have hst := onlyS_step hx op
      have HST := hide hst
      generalize e.getD k (0, 0) = x at c0 c1 hkx HST
      obtain ⟨kd, z⟩ := x
      simp only [] at c0 c1
      unfold kindOk at hkx
      simp only [] at hkx
      have hk0 : (0 : Int) ≤ (k : Int) := by omega
      have hk1 : (k : Int) < (m : Int) := by omega
      have q0 := (unhide HKr).cell c0
      have q1 := (unhide HKr).cell c1
      clear hx hst c0 c1
      by_cases hop : op = 0
      · obtain rfl : false = rr := by rw [← unhide HR, ← unhide HO, unhide HST, if_pos hop]
        have HK2 := hide ((unhide HKr).alloc (.cells #[.int .i64 kd, .int .i64 z] 29))
        subst hop
        go_wp2
        go_ret
        exact ⟨rfl, unhide HK2⟩
      · have HN : Hid (onlyS (e.drop (k + 1)) (op - 1 + partsS kd) = onlyS e 1) := hide (by rw [← unhide HO, unhide HST, if_neg hop])
        have hp0 : 0 ≤ partsS kd ∧ partsS kd ≤ 3 := by unfold partsS; split <;> (try split) <;> omega
        have bop : (op == 0) = false := beq_eq_false_iff_ne.2 hop
        obtain ⟨hpa, hpb⟩ := hp0
        have hkk := (Kept.refl wr).alloc (.cells #[.int .i64 kd, .int .i64 z] 29)
        have hlk := ((unhide HB).kept ((unhide HKr).trans hkk)).look (k := kd) (WalkArith.wf_i64 (by omega)) hkx.1 hkx.2
        have HK2 := hide ((unhide HKr).trans hkk)
        clear HO HST hkk
        generalize mostS n kd = mo at hlk
        generalize partsS kd = pk at HN hpa hpb hlk
        have hfl := field_parts pk mo
        go_wp2
        go_roundw
        case rel => exact ⟨k + 1, op - 1 + pk, by omega, by go_num, by go_num, by omega, by omega, HN, HK2⟩
        case measure => simp [intOf]; omega
    · have hke : k = e.length := by have := unhide HM; omega
      have hfin : onlyS e 1 = decide (op = 0) := by rw [← unhide HO, hke]; simp [onlyS]
      by_cases hop : op = 0
      · obtain rfl : true = rr := by rw [← unhide HR, hfin]; simp [hop]
        subst hop
        clear hfin hke
        go_wp2
        go_ret
        exact ⟨rfl, unhide HKr⟩
      · obtain rfl : false = rr := by rw [← unhide HR, hfin]; simp [hop]
        have bop : (op == 0) = false := beq_eq_false_iff_ne.2 hop
        clear hfin hke hop
        go_wp2
        go_ret
        exact ⟨rfl, unhide HKr⟩

theorem check_low (v : Value) (n : Int) (w : World) (h : n < 0) :
    Calls Try.prog 6 #[v, .int .i64 n] w fun x w' => x = .returned (.int .i64 3) ∧ Kept w w' := by
  go_enter Try.func6, Try.ntmps6
  go_wp2
  go_ret
  exact ⟨rfl, Kept.refl _⟩
theorem check_high (v : Value) (n : Int) (w : World) (h0 : ¬ n < 0) (h : 4 < n) :
    Calls Try.prog 6 #[v, .int .i64 n] w fun x w' => x = .returned (.int .i64 3) ∧ Kept w w' := by
  go_enter Try.func6, Try.ntmps6
  go_wp2
  go_ret
  exact ⟨rfl, Kept.refl _⟩
theorem check_many (oa : Option Addr) (l cap : Nat) (n : Int) (w : World) (h0 : ¬ n < 0) (h4 : ¬ 4 < n) (hl : 9 < (l : Int)) :
    Calls Try.prog 6 #[.slice oa l cap, .int .i64 n] w fun x w' => x = .returned (.int .i64 2) ∧ Kept w w' := by
  go_enter Try.func6, Try.ntmps6
  go_wp2
  go_ret
  exact ⟨rfl, Kept.refl _⟩

set_option maxRecDepth 100000 in
set_option maxHeartbeats 4000000 in
theorem check_go (e : List (Int × Int)) (oa : Option Addr) (m cap : Nat) (n : Int) (w : World) (he : NodesAt w (.slice oa m cap) e) (hw : ∀ x ∈ e, (Lit.int .i64 x.1).wf = true) (h0 : ¬ n < 0) (h4 : ¬ 4 < n) (hl : ¬ 9 < (m : Int)) :
    Calls Try.prog 6 #[.slice oa m cap, .int .i64 n] w fun x w' => x = .returned (.int .i64 (exErrS e n)) ∧ Kept w w' := by
  obtain ⟨hm, hi⟩ := he.cells
  have HI := hide hi
  have HM := hide hm
  have HE := hide he
  have HW := hide hw
  have HL : Hid (¬ 9 < e.length) := by rw [← hm]; exact hide (by omega)
  clear he hi hm hw
  generalize hr : exErrS e n = rr
  have HR := hide hr
  clear hr
  go_enter Try.func6, Try.ntmps6
  go_wp2_with fail
  refine (kindsOver_any n w (by omega) (by omega)).mono ?_
  rintro _ w1 ⟨rfl, hB, hK1⟩
  have HB := hide hB
  have HK1 := hide hK1
  clear hB hK1
  generalize w.heap.size = B at HB ⊢
  go_wp2
  go_loopw [25] (fun s wr => ∃ k : Nat, k ≤ m ∧ s = .int .i64 k ∧ Hid (∀ i x, i < k → e[i]? = some x → kindOk x) ∧ Hid (Kept w1 wr)) (fun s _ => m - (intOf s).toNat)
  case atStart => exact ⟨0, Nat.zero_le _, rfl, hide (fun i x hi => by omega), hide (Kept.refl _)⟩
  case round =>
    obtain ⟨k, hkm, rfl, HO, HKr⟩ := hrel
    by_cases hlt : k < m
    · obtain ⟨b, o, rfl, c0, c1⟩ := (unhide HI) k _ (getD_of_lt e k (0, 0) (by rw [← unhide HM]; exact hlt))
      have hx := getD_of_lt e k (0, 0) (by rw [← unhide HM]; exact hlt)
      have hwx := (unhide HW) _ (List.mem_of_getElem? hx)
      have HX := hide hx
      generalize e.getD k (0, 0) = x at c0 c1 HX hwx
      obtain ⟨kd, z⟩ := x
      simp only [] at c0 c1 hwx
      have hk0 : (0 : Int) ≤ (k : Int) := by omega
      have hk1 : (k : Int) < (m : Int) := by omega
      have q0 := (unhide HKr).cell ((unhide HK1).cell c0)
      have q1 := (unhide HKr).cell ((unhide HK1).cell c1)
      have hkk := (Kept.refl wr).alloc (.cells #[.int .i64 kd, .int .i64 z] 29)
      have hlk := ((unhide HB).kept ((unhide HKr).trans hkk)).look_ok (k := kd) hwx
      have HKK := hide ((unhide HKr).trans hkk)
      clear hx c0 c1 hkk hwx
      by_cases hok : 0 ≤ kd ∧ kd ≤ 7
      · have HN : Hid (∀ i x, i < k + 1 → e[i]? = some x → kindOk x) := hide (fun i x hi hx => by
          by_cases hik : i = k
          · subst hik; rw [unhide HX] at hx; obtain rfl := Option.some.inj hx; exact hok
          · exact (unhide HO) i x (by omega) hx)
        rw [if_pos hok, if_pos hok, decide_eq_true hok] at hlk
        generalize partsS kd = pk at hlk
        generalize mostS n kd = mo at hlk
        have HK2 := hide ((unhide HKK).alloc (.cells #[.int .i64 pk, .int .i64 mo] 39))
        clear hok HO HX
        go_wp2
        go_roundw
        case rel => exact ⟨k + 1, by omega, by go_num, HN, HK2⟩
        case measure => simp [intOf]; omega
      · obtain rfl : 4 = rr := by rw [← unhide HR]; exact (exErr_kind (by omega) (by omega) (unhide HL) k _ (unhide HX) hok).symm
        rw [if_neg hok, if_neg hok, decide_eq_false hok] at hlk
        have HK2 := hide ((unhide HK1).trans ((unhide HKK).alloc (.cells #[.int .i64 0, .int .i64 0] 39)))
        clear hok HO HX
        go_wp2
        go_ret
        exact ⟨rfl, unhide HK2⟩
    · have hke : k = e.length := by have := unhide HM; omega
      have HKS : Hid (∀ x ∈ e, kindOk x) := hide (all_of (fun i x hi hx => (unhide HO) i x (by omega) hx))
      have HKR := HKr
      have HBr := hide ((unhide HB).kept (unhide HKr))
      have HKw := hide ((unhide HK1).trans (unhide HKr))
      clear HO hke HKr HKR HK1 HB
      go_wp2
      go_loopw [41] (fun s wx => ∃ k : Nat, k ≤ m ∧ s = .int .i64 k ∧ Hid (∀ i x, i < k → e[i]? = some x → numOk n x) ∧ Hid (Kept wr wx)) (fun s _ => m - (intOf s).toNat)
      case atStart => exact ⟨0, Nat.zero_le _, rfl, hide (fun i x hi => by omega), hide (Kept.refl _)⟩
      case round =>
        obtain ⟨k, hkm, rfl, HO, HKr⟩ := hrel
        by_cases hlt : k < m
        · obtain ⟨b, o, rfl, c0, c1⟩ := (unhide HI) k _ (getD_of_lt e k (0, 0) (by rw [← unhide HM]; exact hlt))
          have hx := getD_of_lt e k (0, 0) (by rw [← unhide HM]; exact hlt)
          have hkx := (unhide HKS) _ (List.mem_of_getElem? hx)
          have HX := hide hx
          generalize e.getD k (0, 0) = x at c0 c1 HX hkx
          obtain ⟨kd, z⟩ := x
          simp only [] at c0 c1
          unfold kindOk at hkx
          simp only [] at hkx
          have hk0 : (0 : Int) ≤ (k : Int) := by omega
          have hk1 : (k : Int) < (m : Int) := by omega
          have q0 := (unhide HKr).cell ((unhide HKw).cell c0)
          have q1 := (unhide HKr).cell ((unhide HKw).cell c1)
          have hkk := (Kept.refl wr).alloc (.cells #[.int .i64 kd, .int .i64 z] 29)
          have hlk := ((unhide HBr).kept ((unhide HKr).trans hkk)).look (k := kd) (WalkArith.wf_i64 (by omega)) hkx.1 hkx.2
          have HKK := hide ((unhide HKr).trans hkk)
          have HNX : Hid (numOk n (kd, z) → ∀ i x, i < k + 1 → e[i]? = some x → numOk n x) := hide (fun hok i x hi hx => by
            by_cases hik : i = k
            · rw [hik, unhide HX] at hx; rw [← Option.some.inj hx]; exact hok
            · exact (unhide HO) i x (by omega) hx)
          have HBX : Hid (¬ numOk n (kd, z) → rr = 3) := hide (fun hok => by rw [← unhide HR]; exact exErr_num (by omega) (by omega) (unhide HL) (unhide HKS) k _ (unhide HX) hok)
          have HDF : Hid (numOk n (kd, z) ↔ 0 ≤ z ∧ z ≤ mostS n kd) := hide Iff.rfl
          clear hx c0 c1 hkk hkx HX HO
          generalize partsS kd = pk at hlk
          generalize mostS n kd = mo at hlk HDF
          have hfl := field_most pk mo
          by_cases hz : z < 0
          · obtain rfl : 3 = rr := ((unhide HBX) (fun h => by have := ((unhide HDF).1 h).1; omega)).symm
            have HK2 := hide ((unhide HKw).trans (unhide HKK))
            clear HNX HBX HDF
            go_wp2
            go_ret
            exact ⟨rfl, unhide HK2⟩
          · by_cases hzm : mo < z
            · obtain rfl : 3 = rr := ((unhide HBX) (fun h => by have := ((unhide HDF).1 h).2; omega)).symm
              have HK2 := hide ((unhide HKw).trans (unhide HKK))
              clear HNX HBX HDF
              go_wp2
              go_ret
              exact ⟨rfl, unhide HK2⟩
            · have HN := hide ((unhide HNX) ((unhide HDF).2 ⟨by omega, by omega⟩))
              clear HNX HBX HDF
              go_wp2
              go_roundw
              case rel => exact ⟨k + 1, by omega, by go_num, HN, HKK⟩
              case measure => simp [intOf]; omega
        · have hke : k = e.length := by have := unhide HM; omega
          have HNS : Hid (∀ x ∈ e, numOk n x) := hide (all_of (fun i x hi hx => (unhide HO) i x (by omega) hx))
          have HRR : Hid (rr = if onlyS e 1 = true then 0 else 1) := hide (by rw [← unhide HR]; exact exErr_one (by omega) (by omega) (unhide HL) (unhide HKS) (unhide HNS))
          have HKx := hide ((unhide HKw).trans (unhide HKr))
          have HC := hide (isOne_any e oa m cap B n wr ((unhide HE).kept (unhide HKx)) ((unhide HBr).kept (unhide HKr)) (by omega) (unhide HKS))
          clear HO hke HNS HR
          go_wp2_with fail
          refine (unhide HC).mono ?_
          rintro _ w4 ⟨rfl, hk4⟩
          have HK4 := hide ((unhide HKx).trans hk4)
          clear hk4 HC
          by_cases h1 : onlyS e 1 = true
          · obtain rfl : 0 = rr := by rw [unhide HRR, if_pos h1]
            rw [h1]
            clear h1 HRR
            go_wp2
            go_ret
            exact ⟨rfl, unhide HK4⟩
          · obtain rfl : 1 = rr := by rw [unhide HRR, if_neg h1]
            rw [Bool.not_eq_true] at h1
            rw [h1]
            clear h1 HRR
            go_wp2
            go_ret
            exact ⟨rfl, unhide HK4⟩

/-- The program's Check answers what J1 says. -/
theorem check_any (e : List (Int × Int)) (v : Value) (n : Int) (w : World) (he : NodesAt w v e) (hw : ∀ x ∈ e, (Lit.int .i64 x.1).wf = true) :
    Calls Try.prog 6 #[v, .int .i64 n] w fun x w' => x = .returned (.int .i64 (exErrS e n)) ∧ Kept w w' := by
  obtain ⟨oa, cap, rfl, hl, hi⟩ := id he
  by_cases h0 : n < 0
  · rw [exErr_locals (.inl h0)]; exact check_low _ n w h0
  · by_cases h4 : 4 < n
    · rw [exErr_locals (.inr h4)]; exact check_high _ n w h0 h4
    · by_cases h9 : 9 < e.length
      · rw [exErr_many (by omega) (by omega) h9]
        exact check_many oa _ cap n w h0 h4 (by omega)
      · exact check_go e oa _ cap n w he hw h0 h4 (by omega)
end Go.Proofs.Ytohlefnljgkdcaf
