/-
  The contracts of the reference's within, ExprError and ValueOf.
-/
import Derived.Test.YtohlefnljgkdcaeExprA
namespace Go.Proofs.Ytohlefnljgkdcae
open Go.RowKit

theorem within_yes (i l n : Int) (w : World) (h1 : l ≤ i) (h2 : i ≤ n) :
    Calls Try.prog 14 #[.int .i64 i, .int .i64 l, .int .i64 n] w fun e w' => e = .returned (.bool true) ∧ w = w' := by
  go_enter Try.func14, Try.ntmps14
  go_wp2
  go_ret
  exact ⟨rfl, rfl⟩
theorem within_no (i l n : Int) (w : World) (h : ¬ (l ≤ i ∧ i ≤ n)) :
    Calls Try.prog 14 #[.int .i64 i, .int .i64 l, .int .i64 n] w fun e w' => e = .returned (.bool false) ∧ w = w' := by
  by_cases h1 : l ≤ i
  · have h2 : ¬ i ≤ n := fun x => h ⟨h1, x⟩
    clear h
    go_enter Try.func14, Try.ntmps14
    go_wp2
    go_ret
    exact ⟨rfl, rfl⟩
  · clear h
    go_enter Try.func14, Try.ntmps14
    go_wp2
    go_ret
    exact ⟨rfl, rfl⟩

theorem exprError_locals (v : Value) (n : Int) (w : World) (h : ¬ (0 ≤ n ∧ n ≤ 4)) :
    Calls Try.prog 8 #[v, .int .i64 n] w fun x w' => x = .returned (.int .i64 3) ∧ w = w' := by
  have HH := hide h
  clear h
  go_enter Try.func8, Try.ntmps8
  go_wp2_with fail
  refine (within_no _ _ _ _ (unhide HH)).mono ?_
  rintro _ _ ⟨rfl, rfl⟩
  go_wp2
  go_ret
  exact ⟨rfl, rfl⟩

theorem exprError_many (oa : Option Addr) (l cap : Nat) (n : Int) (w : World) (h0 : 0 ≤ n) (h4 : n ≤ 4) (hl : 9 < (l : Int)) :
    Calls Try.prog 8 #[.slice oa l cap, .int .i64 n] w fun x w' => x = .returned (.int .i64 2) ∧ w = w' := by
  go_enter Try.func8, Try.ntmps8
  go_wp2_with fail
  refine (within_yes _ _ _ _ h0 h4).mono ?_
  rintro _ _ ⟨rfl, rfl⟩
  go_wp2
  go_ret
  exact ⟨rfl, rfl⟩

set_option maxRecDepth 100000 in
set_option maxHeartbeats 4000000 in
theorem exprError_go (e : List (Int × Int)) (oa : Option Addr) (m cap : Nat) (n : Int) (w : World) (he : NodesAt w (.slice oa m cap) e) (hm : m = e.length) (h0 : 0 ≤ n) (h4 : n ≤ 4) (hl : ¬ 9 < (m : Int)) :
    Calls Try.prog 8 #[.slice oa m cap, .int .i64 n] w fun x w' => x = .returned (.int .i64 (exErrS e n)) ∧ w = w' := by
  have HI : Hid (∀ i x, e[i]? = some x → ∃ b o, oa = some ⟨b, o, none⟩ ∧ w.cell? ⟨b, o + i * 2, none⟩ = some (.int .i64 x.1) ∧ w.cell? ⟨b, o + i * 2 + 1, none⟩ = some (.int .i64 x.2)) := by
    obtain ⟨oa', cap', e1, _, hi⟩ := he
    obtain ⟨rfl, _, _⟩ : oa = oa' ∧ m = e.length ∧ cap = cap' := by simpa using e1
    exact hide hi
  have HM := hide hm
  have HL : Hid (¬ 9 < e.length) := by rw [← hm]; exact hide (by omega)
  clear he hm
  generalize hr : exErrS e n = rr
  have HR := hide hr
  clear hr
  go_enter Try.func8, Try.ntmps8
  go_wp2_with fail
  refine (within_yes _ _ _ _ h0 h4).mono ?_
  rintro _ _ ⟨rfl, rfl⟩
  go_wp2
  go_loopw [5] (fun s wr => ∃ k : Nat, k ≤ m ∧ s = .int .i64 k ∧ Hid (∀ i x, i < k → e[i]? = some x → kindOk x) ∧ w = wr) (fun s _ => m - (intOf s).toNat)
  case atStart => exact ⟨0, Nat.zero_le _, rfl, hide (fun i x hi => by omega), rfl⟩
  case round =>
    obtain ⟨k, hkm, rfl, HO, rfl⟩ := hrel
    by_cases hlt : k < m
    · obtain ⟨b, o, rfl, c0, c1⟩ := (unhide HI) k _ (getD_of_lt e k (0, 0) (by rw [← unhide HM]; exact hlt))
      have HX := hide (getD_of_lt e k (0, 0) (by rw [← unhide HM]; exact hlt))
      generalize e.getD k (0, 0) = x at c0 c1 HX
      obtain ⟨kd, z⟩ := x
      simp only [] at c0 c1
      have hk0 : (0 : Int) ≤ (k : Int) := by omega
      have hk1 : (k : Int) < (m : Int) := by omega
      by_cases hok : 0 ≤ kd ∧ kd ≤ 7
      · have HN : Hid (∀ i x, i < k + 1 → e[i]? = some x → kindOk x) := hide (fun i x hi hx => by
          by_cases hik : i = k
          · subst hik; rw [unhide HX] at hx; obtain rfl := Option.some.inj hx; exact hok
          · exact (unhide HO) i x (by omega) hx)
        obtain ⟨g0, g7⟩ := hok
        go_wp2_with fail
        refine (within_yes _ _ _ _ g0 g7).mono ?_
        rintro _ _ ⟨rfl, rfl⟩
        go_wp2
        go_roundw
        case rel => exact ⟨k + 1, by omega, by go_num, HN, trivial⟩
        case measure => simp [intOf]; omega
      · have hrr : rr = 4 := by rw [← unhide HR]; exact exErr_kind h0 h4 (unhide HL) k _ (unhide HX) hok
        have HOK := hide hok
        clear hok
        subst hrr
        go_wp2_with fail
        refine (within_no _ _ _ _ (unhide HOK)).mono ?_
        rintro _ _ ⟨rfl, rfl⟩
        go_wp2
        go_ret
        exact ⟨rfl, rfl⟩
    · have hke : k = e.length := by have := unhide HM; omega
      have HKS : Hid (∀ x ∈ e, kindOk x) := hide (all_of (fun i x hi hx => (unhide HO) i x (by omega) hx))
      clear HO hke
      go_wp2
      go_loopw [6] (fun s wr => ∃ k : Nat, k ≤ m ∧ s = .int .i64 k ∧ Hid (∀ i x, i < k → e[i]? = some x → numOk n x) ∧ w = wr) (fun s _ => m - (intOf s).toNat)
      case atStart => exact ⟨0, Nat.zero_le _, rfl, hide (fun i x hi => by omega), rfl⟩
      case round =>
        obtain ⟨k, hkm, rfl, HO, rfl⟩ := hrel
        by_cases hlt : k < m
        · obtain ⟨b, o, rfl, c0, c1⟩ := (unhide HI) k _ (getD_of_lt e k (0, 0) (by rw [← unhide HM]; exact hlt))
          have HX := hide (getD_of_lt e k (0, 0) (by rw [← unhide HM]; exact hlt))
          generalize e.getD k (0, 0) = x at c0 c1 HX
          obtain ⟨kd, z⟩ := x
          simp only [] at c0 c1
          have hk0 : (0 : Int) ≤ (k : Int) := by omega
          have hk1 : (k : Int) < (m : Int) := by omega
          have HNX : Hid (numOk n (kd, z) → ∀ i x, i < k + 1 → e[i]? = some x → numOk n x) := hide (fun hok i x hi hx => by
            by_cases hik : i = k
            · subst hik; rw [unhide HX] at hx; obtain rfl := Option.some.inj hx; exact hok
            · exact (unhide HO) i x (by omega) hx)
          have HBX : Hid (¬ numOk n (kd, z) → rr = 3) := hide (fun hok => by rw [← unhide HR]; exact exErr_num h0 h4 (unhide HL) (unhide HKS) k _ (unhide HX) hok)
          clear HO HX
          have hcase : ∃ mo, mostS n kd = mo := ⟨_, rfl⟩
          obtain ⟨mo, hmo⟩ := hcase
          by_cases hok : 0 ≤ z ∧ z ≤ mo
          · have HN : Hid (∀ i x, i < k + 1 → e[i]? = some x → numOk n x) := hide ((unhide HNX) ⟨hok.1, by rw [hmo]; exact hok.2⟩)
            clear HNX HBX
            obtain ⟨g0, g7⟩ := hok
            by_cases z0 : kd = 0
            · subst z0
              obtain rfl : 999 = mo := by rw [← hmo]; rfl
              clear hmo
              go_wp2_with fail
              refine (within_yes _ _ _ _ g0 g7).mono ?_
              rintro _ _ ⟨rfl, rfl⟩
              go_wp2
              go_roundw
              case rel => exact ⟨k + 1, by omega, by go_num, HN, trivial⟩
              case measure => simp [intOf]; omega
            · by_cases z1 : kd = 1
              · subst z1
                obtain rfl : n - 1 = mo := by rw [← hmo]; rfl
                clear hmo
                go_wp2_with fail
                refine (within_yes _ _ _ _ g0 g7).mono ?_
                rintro _ _ ⟨rfl, rfl⟩
                go_wp2
                go_roundw
                case rel => exact ⟨k + 1, by omega, by go_num, HN, trivial⟩
                case measure => simp [intOf]; omega
              · obtain rfl : 0 = mo := by rw [← hmo]; unfold mostS; rw [if_neg z0, if_neg z1]
                have b0 : (kd == 0) = false := beq_eq_false_iff_ne.2 z0
                have b1 : (kd == 1) = false := beq_eq_false_iff_ne.2 z1
                clear hmo z0 z1
                go_wp2_with fail
                refine (within_yes _ _ _ _ g0 g7).mono ?_
                rintro _ _ ⟨rfl, rfl⟩
                go_wp2
                go_roundw
                case rel => exact ⟨k + 1, by omega, by go_num, HN, trivial⟩
                case measure => simp [intOf]; omega
          · obtain rfl : 3 = rr := ((unhide HBX) (fun h => hok ⟨h.1, by rw [← hmo]; exact h.2⟩)).symm
            clear HNX HBX
            have HOK := hide hok
            clear hok
            by_cases z0 : kd = 0
            · subst z0
              obtain rfl : 999 = mo := by rw [← hmo]; rfl
              clear hmo
              go_wp2_with fail
              refine (within_no _ _ _ _ (unhide HOK)).mono ?_
              rintro _ _ ⟨rfl, rfl⟩
              go_wp2
              go_ret
              exact ⟨rfl, rfl⟩
            · by_cases z1 : kd = 1
              · subst z1
                obtain rfl : n - 1 = mo := by rw [← hmo]; rfl
                clear hmo
                go_wp2_with fail
                refine (within_no _ _ _ _ (unhide HOK)).mono ?_
                rintro _ _ ⟨rfl, rfl⟩
                go_wp2
                go_ret
                exact ⟨rfl, rfl⟩
              · obtain rfl : 0 = mo := by rw [← hmo]; unfold mostS; rw [if_neg z0, if_neg z1]
                have b0 : (kd == 0) = false := beq_eq_false_iff_ne.2 z0
                have b1 : (kd == 1) = false := beq_eq_false_iff_ne.2 z1
                clear hmo z0 z1
                go_wp2_with fail
                refine (within_no _ _ _ _ (unhide HOK)).mono ?_
                rintro _ _ ⟨rfl, rfl⟩
                go_wp2
                go_ret
                exact ⟨rfl, rfl⟩
        · have hke : k = e.length := by have := unhide HM; omega
          have HNS : Hid (∀ x ∈ e, numOk n x) := hide (all_of (fun i x hi hx => (unhide HO) i x (by omega) hx))
          have HRR : Hid (rr = if onlyS e 1 = true then 0 else 1) := hide (by rw [← unhide HR]; exact exErr_one h0 h4 (unhide HL) (unhide HKS) (unhide HNS))
          clear HO hke HNS HR
          go_wp2
          go_loopw [8, 9] (fun s8 s9 wr => ∃ (k : Nat) (o : Int), k ≤ m ∧ s9 = .int .i64 k ∧ s8 = .int .i64 o ∧ 0 ≤ o ∧ o ≤ 1 + 2 * k ∧ Hid (onlyS (e.drop k) o = onlyS e 1) ∧ w = wr) (fun _ s _ => m - (intOf s).toNat)
          case atStart => exact ⟨0, 1, Nat.zero_le _, rfl, rfl, by omega, by omega, hide rfl, rfl⟩
          case round =>
            obtain ⟨k, op, hkm, rfl, rfl, ho0, ho1, HO, rfl⟩ := hrel
            by_cases hlt : k < m
            · obtain ⟨b, o, rfl, c0, c1⟩ := (unhide HI) k _ (getD_of_lt e k (0, 0) (by rw [← unhide HM]; exact hlt))
              have hx := getD_of_lt e k (0, 0) (by rw [← unhide HM]; exact hlt)
              have hkx := (unhide HKS) _ (List.mem_of_getElem? hx)
              have hst := onlyS_step hx op
              have HST := hide hst
              generalize e.getD k (0, 0) = x at c0 c1 hkx HST
              obtain ⟨kd, z⟩ := x
              simp only [] at c0 c1
              unfold kindOk at hkx
              simp only [] at hkx
              have hk0 : (0 : Int) ≤ (k : Int) := by omega
              have hk1 : (k : Int) < (m : Int) := by omega
              clear hx hst c1
              by_cases hop : op = 0
              · obtain rfl : 1 = rr := by
                  rw [unhide HRR, ← unhide HO, unhide HST, if_pos hop]; rfl
                subst hop
                go_wp2
                go_ret
                exact ⟨rfl, rfl⟩
              · have HN : Hid (onlyS (e.drop (k + 1)) (op - 1 + partsS kd) = onlyS e 1) := hide (by rw [← unhide HO, unhide HST, if_neg hop])
                have hp0 : 0 ≤ partsS kd ∧ partsS kd ≤ 3 := by unfold partsS; split <;> (try split) <;> omega
                have bop : (op == 0) = false := beq_eq_false_iff_ne.2 hop
                obtain ⟨hpa, hpb⟩ := hp0
                clear HO HST
                go_wp2_with fail
                refine (size_any _ _).mono ?_
                rintro _ _ ⟨rfl, rfl⟩
                generalize partsS kd = pk at HN hpa hpb ⊢
                go_wp2
                go_roundw
                case rel => exact ⟨k + 1, op - 1 + pk, by omega, by go_num, by go_num, by omega, by omega, HN, trivial⟩
                case measure => simp [intOf]; omega
            · have hke : k = e.length := by have := unhide HM; omega
              have hfin : onlyS e 1 = decide (op = 0) := by rw [← unhide HO, hke]; simp [onlyS]
              by_cases hop : op = 0
              · obtain rfl : 0 = rr := by rw [unhide HRR, hfin]; simp [hop]
                subst hop
                clear hfin hke
                go_wp2
                go_ret
                exact ⟨rfl, rfl⟩
              · obtain rfl : 1 = rr := by rw [unhide HRR, hfin]; simp [hop]
                have bop : (op != 0) = true := bne_iff_ne.2 hop
                clear hfin hke hop
                go_wp2
                go_ret
                exact ⟨rfl, rfl⟩

/-- The reference's ExprError answers what J1 says. -/
theorem exprError_any (e : List (Int × Int)) (v : Value) (n : Int) (w : World) (he : NodesAt w v e) :
    Calls Try.prog 8 #[v, .int .i64 n] w fun x w' => x = .returned (.int .i64 (exErrS e n)) ∧ w = w' := by
  by_cases hn : 0 ≤ n ∧ n ≤ 4
  · obtain ⟨oa, cap, rfl, hl, hi⟩ := id he
    by_cases h9 : 9 < e.length
    · rw [exErr_many hn.1 hn.2 h9]
      exact exprError_many oa _ cap n w hn.1 hn.2 (by omega)
    · exact exprError_go e oa _ cap n w he rfl hn.1 hn.2 (by omega)
  · rw [exErr_locals (by omega)]
    exact exprError_locals v n w hn

/-- The reference's ValueOf answers what J1 says. -/
theorem valueOf_any (e : List (Int × Int)) (vals : List Int) (v vv : Value) (w : World) (he : NodesAt w v e) (hv : IntsW w vv vals) :
    Calls Try.prog 5 #[v, vv] w fun x w' => x = .returned (.tuple #[.int .i64 (exValS e vals), .int .i64 (exErrS e vals.length)]) ∧ Kept w w' := by
  obtain ⟨ob, cb, rfl, hlv, _⟩ := id hv
  have HE := hide he
  have HV := hide hv
  have HX := hide (exprError_any e v vals.length w he)
  clear he hv
  by_cases hz : exErrS e vals.length = 0
  · obtain ⟨_, _, l9, ke, ne, oe⟩ := exErr_ok hz
    have HW := hide (worth_any vals 9 e 1 v (.slice ob vals.length cb) w l9 (by omega) oe ke ne (unhide HE) (unhide HV))
    have hval : exValS e vals = (valS vals 9 e).1 := by unfold exValS; rw [if_pos hz]
    rw [hz, hval]
    have HZ := hide hz
    clear hz hval l9 ke ne oe
    go_enter Try.func5, Try.ntmps5
    go_wp2_with fail
    refine (unhide HX).mono ?_
    rintro _ _ ⟨rfl, rfl⟩
    rw [unhide HZ]
    go_wp2_with fail
    refine (unhide HW).mono ?_
    rintro _ w2 ⟨v2, rfl, hn2, hk2⟩
    have HK2 := hide hk2
    clear hn2 hk2 HW HX
    go_wp2
    go_ret2
    exact ⟨rfl, unhide HK2⟩
  · have hval : exValS e vals = 0 := by unfold exValS; rw [if_neg hz]
    rw [hval]
    have hb : (exErrS e vals.length != 0) = true := bne_iff_ne.2 hz
    generalize exErrS e vals.length = q at hz hb HX ⊢
    clear hval hz
    go_enter Try.func5, Try.ntmps5
    go_wp2_with fail
    refine (unhide HX).mono ?_
    rintro _ _ ⟨rfl, rfl⟩
    go_wp2
    go_ret2
    exact ⟨rfl, Kept.refl _⟩
end Go.Proofs.Ytohlefnljgkdcae
