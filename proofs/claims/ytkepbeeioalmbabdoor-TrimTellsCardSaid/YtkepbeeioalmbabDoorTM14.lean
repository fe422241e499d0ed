/- OpC, OpJ, OpK, FlowI0 -/
import Derived.Test.YtkepbeeioalmbabDoorTM02
import Derived.Deep.RegionWith
import Derived.Test.YtkepbeeioalmbabDoorTM13
import Derived.Test.YtkepbeeioalmbabDoorTM09
import Derived.Test.YtkepbeeioalmbabDoorTM12
import Derived.Test.YtkepbeeioalmbabDoorTM11
set_option maxRecDepth 100000
set_option maxHeartbeats 8000000
namespace Go.Proofs.YtkepbeeioalmbabDoor
open Go.RowKit
theorem cases17 {k : Nat} (h : k < 17) (h' : k ≠ 11) : k = 0 ∨ k = 1 ∨ k = 2 ∨ k = 3 ∨ k = 4 ∨ k = 5 ∨ k = 6 ∨ k = 7 ∨ k = 8 ∨ k = 9 ∨ k = 10 ∨ k = 12 ∨ k = 13 ∨ k = 14 ∨ k = 15 ∨ k = 16 := by omega
theorem takes_plain (k : Nat) (a : Int) (v : Value) (w : World) (h : k < 17) (h' : k ≠ 11) :
    Calls Tryd.prog 41 #[v, .agg #[.int .i64 k, .int .i64 a]] w fun e w' => e = .returned (.int .i64 (tk k)) ∧ w' = w.alloc (.cells #[.int .i64 k, .int .i64 a] 38) := by
  rcases cases17 h h' with rfl | rfl | rfl | rfl | rfl | rfl | rfl | rfl | rfl | rfl | rfl | rfl | rfl | rfl | rfl | rfl
  all_goals
    as_aux_lemma =>
      go_enter Tryd.func41, Tryd.ntmps41
      go_wp2
      go_ret
      exact ⟨rfl, rfl⟩
theorem takes_call (i b o n cap : Nat) (r : Int) (w : World) (hi : i < n) (hc : w.cell? ⟨b, o + i * 3, none⟩ = some (.int .i64 r)) :
    Calls Tryd.prog 41 #[.slice (some ⟨b, o, none⟩) n cap, .agg #[.int .i64 11, .int .i64 i]] w fun e w' => e = .returned (.int .i64 r) ∧ w' = w.alloc (.cells #[.int .i64 11, .int .i64 i] 38) := by
  have c3 : (w.alloc (.cells #[.int .i64 11, .int .i64 i] 38)).cell? ⟨b, o + i * 3, none⟩ = some (.int .i64 r) := ((Kept.refl w).alloc _).cell hc
  clear hc
  go_enter Tryd.func41, Tryd.ntmps41
  go_wp2
  go_ret
  exact ⟨rfl, rfl⟩
theorem leaves_any (k : Nat) (a : Int) (w : World) (h : k < 17) :
    Calls Tryd.prog 42 #[.agg #[.int .i64 k, .int .i64 a]] w fun e w' => e = .returned (.int .i64 (lv k)) ∧ w' = w.alloc (.cells #[.int .i64 k, .int .i64 a] 38) := by
  by_cases h' : k = 11
  · subst h'
    go_enter Tryd.func42, Tryd.ntmps42
    go_wp2
    go_ret
    exact ⟨rfl, rfl⟩
  · rcases cases17 h h' with rfl | rfl | rfl | rfl | rfl | rfl | rfl | rfl | rfl | rfl | rfl | rfl | rfl | rfl | rfl | rfl
    all_goals
      as_aux_lemma =>
        go_enter Tryd.func42, Tryd.ntmps42
        go_wp2
        go_ret
        exact ⟨rfl, rfl⟩
theorem opS_at {p : List Fn} {f : Fn} {k : Nat} {a : Int} (h : k < 17) : opS p f (k, a) = if mayB p f (opd k) a = true then (if k = 13 ∧ (p.getD a.toNat Fn.zero).args ≠ 1 then 1 else 0) else 3 := by
  unfold opS
  rw [if_pos ⟨by simp, by simp; omega⟩]
  have e : ((k : Int) = 13) = (k = 13) := by rw [eq_iff_iff]; omega
  simp [e]
theorem opS_bool {p : List Fn} {f : Fn} {k : Nat} {a : Int} (h : k < 17) (hn : k ≠ 13) : opS p f (k, a) = bif mayB p f (opd k) a then 0 else 3 := by
  rw [opS_at h]
  cases mayB p f (opd k) a <;> simp [hn]
theorem opError_any (p : List Fn) (i b o cap : Nat) (f : Fn) (oc : Option Addr) (cc : Nat) (kd a : Int) (w : World) (hp : ProgAt w (.slice (some ⟨b, o, none⟩) p.length cap) p) (hi : i < p.length)
    (hcl : f.code.length ≤ 8796093022208) (c1 : w.cell? ⟨b, o + i * 3 + 1, none⟩ = some (.int .i64 f.locals)) (c2 : w.cell? ⟨b, o + i * 3 + 2, none⟩ = some (.slice oc f.code.length cc)) (hr : roomB f.args f.locals = true) :
    Calls Tryd.prog 40 #[.slice (some ⟨b, o, none⟩) p.length cap, .int .i64 i, .agg #[.int .i64 kd, .int .i64 a]] w fun e w' => e = .returned (.int .i64 (opS p f (kd, a))) ∧ Kept w w' := by
  have hl := hp.lt
  rw [roomB_iff] at hr
  by_cases h : 0 ≤ kd ∧ kd < 17
  · obtain ⟨k, rfl⟩ := Int.eq_ofNat_of_zero_le h.1
    have hb : k < 17 := by omega
    have hfn : ∀ k : Nat, (opd k = 4) → mayB p f (opd k) a = (ixB a p.length && roomB (p.getD a.toNat Fn.zero).args (p.getD a.toNat Fn.zero).locals) := by
      intro k hk
      rw [hk]
      simp only [mayB]
      rw [if_neg (by decide), if_neg (by decide), if_neg (by decide), if_neg (by decide)]
    by_cases h11 : k = 11
    · subst h11
      rw [opS_bool hb (by decide), hfn 11 rfl]
      by_cases ha : 0 ≤ a ∧ a < p.length
      · obtain ⟨j, rfl⟩ := Int.eq_ofNat_of_zero_le ha.1
        obtain ⟨oa', cap', he, _, hcell⟩ := hp
        obtain ⟨b', o', cv, rfl, d0, d1, d2, _⟩ := hcell j _ (getD_of_lt p j Fn.zero (by omega))
        obtain ⟨⟨rfl, rfl⟩, -⟩ := (by simpa using he : (b = b' ∧ o = o') ∧ cap = cap')
        rw [ixB_true ha.1 ha.2, Int.toNat_natCast, Bool.true_and]
        cases hroom : roomB (p.getD j Fn.zero).args (p.getD j Fn.zero).locals with
        | false => exact opErr11_room i j b o p.length cap _ _ cv w hl (by omega) d0 d1 d2 hroom
        | true => exact opErr11_ok i j b o p.length cap _ _ cv w hl (by omega) d0 d1 d2 hroom
      · rw [ixB_false ha, Bool.false_and]
        exact opErr11_none a i _ p.length cap w hl (inB_false (by omega))
    · by_cases h13 : k = 13
      · subst h13
        rw [opS_at hb, hfn 13 rfl]
        by_cases ha : 0 ≤ a ∧ a < p.length
        · obtain ⟨j, rfl⟩ := Int.eq_ofNat_of_zero_le ha.1
          obtain ⟨oa', cap', he, _, hcell⟩ := hp
          obtain ⟨b', o', cv, rfl, d0, d1, d2, _⟩ := hcell j _ (getD_of_lt p j Fn.zero (by omega))
          obtain ⟨⟨rfl, rfl⟩, -⟩ := (by simpa using he : (b = b' ∧ o = o') ∧ cap = cap')
          rw [ixB_true ha.1 ha.2, Int.toNat_natCast, Bool.true_and]
          cases hroom : roomB (p.getD j Fn.zero).args (p.getD j Fn.zero).locals with
          | false => exact opErr13_room i j b o p.length cap _ _ cv w hl (by omega) d0 d1 d2 hroom
          | true =>
            by_cases har : (p.getD j Fn.zero).args = 1
            · rw [if_pos rfl, if_neg (by simpa using har)]
              exact opErr13_ok i j b o p.length cap _ _ cv w hl (by omega) d0 d1 d2 hroom (by rw [har]; rfl)
            · rw [if_pos rfl, if_pos ⟨rfl, har⟩]
              exact opErr13_form i j b o p.length cap _ _ cv w hl (by omega) d0 d1 d2 hroom (by rw [bne_iff_ne]; exact har)
        · rw [ixB_false ha, Bool.false_and, if_neg (by decide)]
          exact opErr13_none a i _ p.length cap w hl (inB_false (by omega))
      · rw [opS_bool hb h13]
        have e0 : ∀ k : Nat, opd k = 0 → mayB p f (opd k) a = inB a 0 0 := by
          intro k hk
          rw [hk, Bool.eq_iff_iff, inB_iff]
          simp only [mayB]
          rw [if_pos trivial, decide_eq_true_eq]
          omega
        have e1 : mayB p f (opd 0) a = inB a 0 999 := rfl
        have e2 : ∀ k : Nat, opd k = 2 → mayB p f (opd k) a = inB a 0 (f.locals - 1) := by
          intro k hk; rw [hk, inB_ixB]; rfl
        have e3 : ∀ k : Nat, opd k = 3 → mayB p f (opd k) a = inB a 0 ((f.code.length : Int) - 1) := by
          intro k hk; rw [hk, inB_ixB]; rfl
        rcases cases17 hb h11 with rfl | rfl | rfl | rfl | rfl | rfl | rfl | rfl | rfl | rfl | rfl | rfl | rfl | rfl | rfl | rfl
        · rw [e1]
          cases hm : inB a 0 999 with
          | false => exact opErr0_false a i _ w hm
          | true => exact opErr0_true a i _ w hm
        · rw [e0 1 rfl]
          cases hm : inB a 0 0 with
          | false => exact opErr1_false a i _ w hm
          | true => exact opErr1_true a i _ w hm
        · rw [e2 2 rfl]
          cases hm : inB a 0 (f.locals - 1) with
          | false => exact opErr2_false a i b o p.length cap _ w hi (by omega) hr.2.2 c1 hm
          | true => exact opErr2_true a i b o p.length cap _ w hi (by omega) hr.2.2 c1 hm
        · rw [e2 3 rfl]
          cases hm : inB a 0 (f.locals - 1) with
          | false => exact opErr3_false a i b o p.length cap _ w hi (by omega) hr.2.2 c1 hm
          | true => exact opErr3_true a i b o p.length cap _ w hi (by omega) hr.2.2 c1 hm
        · rw [e0 4 rfl]
          cases hm : inB a 0 0 with
          | false => exact opErr4_false a i _ w hm
          | true => exact opErr4_true a i _ w hm
        · rw [e0 5 rfl]
          cases hm : inB a 0 0 with
          | false => exact opErr5_false a i _ w hm
          | true => exact opErr5_true a i _ w hm
        · rw [e0 6 rfl]
          cases hm : inB a 0 0 with
          | false => exact opErr6_false a i _ w hm
          | true => exact opErr6_true a i _ w hm
        · rw [e0 7 rfl]
          cases hm : inB a 0 0 with
          | false => exact opErr7_false a i _ w hm
          | true => exact opErr7_true a i _ w hm
        · rw [e0 8 rfl]
          cases hm : inB a 0 0 with
          | false => exact opErr8_false a i _ w hm
          | true => exact opErr8_true a i _ w hm
        · rw [e3 9 rfl]
          cases hm : inB a 0 ((f.code.length : Int) - 1) with
          | false => exact opErr9_false a i b o p.length cap oc _ cc w hi hcl c2 hm
          | true => exact opErr9_true a i b o p.length cap oc _ cc w hi hcl c2 hm
        · rw [e3 10 rfl]
          cases hm : inB a 0 ((f.code.length : Int) - 1) with
          | false => exact opErr10_false a i b o p.length cap oc _ cc w hi hcl c2 hm
          | true => exact opErr10_true a i b o p.length cap oc _ cc w hi hcl c2 hm
        · rw [e0 12 rfl]
          cases hm : inB a 0 0 with
          | false => exact opErr12_false a i _ w hm
          | true => exact opErr12_true a i _ w hm
        · exact absurd rfl h13
        · rw [e0 14 rfl]
          cases hm : inB a 0 0 with
          | false => exact opErr14_false a i _ w hm
          | true => exact opErr14_true a i _ w hm
        · rw [e0 15 rfl]
          cases hm : inB a 0 0 with
          | false => exact opErr15_false a i _ w hm
          | true => exact opErr15_true a i _ w hm
        · rw [e0 16 rfl]
          cases hm : inB a 0 0 with
          | false => exact opErr16_false a i _ w hm
          | true => exact opErr16_true a i _ w hm
  · have e : opS p f (kd, a) = 4 := by unfold opS; rw [if_neg h]
    rw [e]
    exact opErr_bad kd a i _ w (inB_false (by omega)) (beq_eq_false_iff_ne.2 (by omega)) (beq_eq_false_iff_ne.2 (by omega)) (beq_eq_false_iff_ne.2 (by omega)) (beq_eq_false_iff_ne.2 (by omega)) (beq_eq_false_iff_ne.2 (by omega)) (beq_eq_false_iff_ne.2 (by omega)) (beq_eq_false_iff_ne.2 (by omega))
theorem funcError_none (f : Int) (oa : Option Addr) (n cap : Nat) (w : World) (hn : n ≤ 8796093022208) (h : inB f 0 ((n : Int) - 1) = false) :
    Calls Tryd.prog 28 #[.slice oa n cap, .int .i64 f] w fun e w' => e = .returned (.int .i64 5) ∧ Kept w w' := by
  go_enter Tryd.func28, Tryd.ntmps28
  go_wp2_with (go_at_call 25; refine (within_any _ _ _ _).mono ?_; rintro e w' ⟨rfl, rfl⟩)
  go_ret
  exact ⟨rfl, Kept.refl _⟩
theorem funcError_many (i b o n cap : Nat) (oc : Option Addr) (m cc : Nat) (w : World) (hn : n ≤ 8796093022208) (hi : i < n) (c2 : w.cell? ⟨b, o + i * 3 + 2, none⟩ = some (.slice oc m cc)) (hm : 24 < (m : Int)) :
    Calls Tryd.prog 28 #[.slice (some ⟨b, o, none⟩) n cap, .int .i64 i] w fun e w' => e = .returned (.int .i64 2) ∧ Kept w w' := by
  have h : inB i 0 ((n : Int) - 1) = true := inB_true (by omega) (by omega)
  go_enter Tryd.func28, Tryd.ntmps28
  go_wp2_with (go_at_call 25; refine (within_any _ _ _ _).mono ?_; rintro e w' ⟨rfl, rfl⟩)
  go_ret
  exact ⟨rfl, Kept.refl _⟩
theorem funcError_range (i b o n cap : Nat) (ar lo : Int) (oc : Option Addr) (m cc : Nat) (w : World) (hn : n ≤ 8796093022208) (hi : i < n) (c0 : w.cell? ⟨b, o + i * 3, none⟩ = some (.int .i64 ar)) (c1 : w.cell? ⟨b, o + i * 3 + 1, none⟩ = some (.int .i64 lo))
    (c2 : w.cell? ⟨b, o + i * 3 + 2, none⟩ = some (.slice oc m cc)) (hm : ¬ 24 < (m : Int)) (hr : roomB ar lo = false) :
    Calls Tryd.prog 28 #[.slice (some ⟨b, o, none⟩) n cap, .int .i64 i] w fun e w' => e = .returned (.int .i64 3) ∧ Kept w w' := by
  have h : inB i 0 ((n : Int) - 1) = true := inB_true (by omega) (by omega)
  go_enter Tryd.func28, Tryd.ntmps28
  go_wp2_with (first | (go_at_call 25; refine (within_any _ _ _ _).mono ?_; rintro e w' ⟨rfl, rfl⟩) | (go_at_call 39; refine (badArgs_any _ _ _ _).mono ?_; rintro e w' ⟨rfl, rfl⟩))
  go_ret
  exact ⟨rfl, (Kept.refl _).alloc _⟩
theorem funcError_ops (p : List Fn) (f : Fn) (i b o cap : Nat) (oc : Option Addr) (m cc : Nat) (w : World) (hp : ProgAt w (.slice (some ⟨b, o, none⟩) p.length cap) p) (hi : i < p.length)
    (c0 : w.cell? ⟨b, o + i * 3, none⟩ = some (.int .i64 f.args)) (c1 : w.cell? ⟨b, o + i * 3 + 1, none⟩ = some (.int .i64 f.locals))
    (c2 : w.cell? ⟨b, o + i * 3 + 2, none⟩ = some (.slice oc m cc)) (hc : CodeAt w (.slice oc m cc) f.code) (hml : m = f.code.length) (hm : m ≤ 24) (hr : roomB f.args f.locals = true) :
    Calls Tryd.prog 28 #[.slice (some ⟨b, o, none⟩) p.length cap, .int .i64 i] w fun e w' => e = .returned (.int .i64 (opsS p f f.code)) ∧ Kept w w' := by
  have hl := hp.lt
  have h : inB i 0 ((p.length : Int) - 1) = true := inB_true (by omega) (by omega)
  have hm' : ¬ 24 < (m : Int) := by omega
  have HP : Hid (ProgAt w (.slice (some ⟨b, o, none⟩) p.length cap) p) := hp
  have HC : Hid (CodeAt w (.slice oc m cc) f.code) := hc
  have HL : Hid (m = f.code.length) := hml
  have C1 := hide c1
  have C2 := hide c2
  have hr' : (!roomB f.args f.locals) = false := by rw [hr]; rfl
  have HR := hide hr
  clear hp hc hml hr
  go_enter Tryd.func28, Tryd.ntmps28
  go_wp2_with (first | (go_at_call 25; refine (within_any _ _ _ _).mono ?_; rintro e w' ⟨rfl, rfl⟩) | (go_at_call 39; refine (badArgs_any _ _ _ _).mono ?_; rintro e w' ⟨rfl, rfl⟩))
  clear c0 c1 c2
  go_loopw [5] (fun i wr => ∃ k : Nat, k ≤ m ∧ i = .int .i64 k ∧ Hid (opsS p f (f.code.drop k) = opsS p f f.code) ∧ Hid (Kept w wr)) (fun i _ => m - (intOf i).toNat)
  case atStart => exact ⟨0, Nat.zero_le _, rfl, rfl, (Kept.refl _).alloc _⟩
  case round =>
    obtain ⟨k, hkm, rfl, HO, HKW⟩ := hrel
    have d2 := HKW.out.cell (unhide C2)
    by_cases hlt : k < m
    · obtain ⟨x, hx⟩ : ∃ x, f.code[k]? = some x := ⟨f.code[k]'(by rw [← HL.out]; exact hlt), List.getElem?_eq_getElem _⟩
      obtain ⟨oa', cap', he, _, hcell⟩ := HC.out.kept HKW.out
      obtain ⟨b', o', rfl, x0, x1⟩ := hcell k x hx
      obtain ⟨rfl, -, -⟩ := (by simpa using he : oc = some ⟨b', o', none⟩ ∧ m = f.code.length ∧ cc = cap')
      have HX : Hid (f.code[k]? = some x) := hx
      have hck := opError_any p i b o cap f (some ⟨b', o', none⟩) cc x.1 x.2 wr (HP.out.kept HKW.out) hi (by have := HL.out; omega) (HKW.out.cell (unhide C1)) (by rw [← HL.out]; exact d2) (unhide HR)
      have HCK := hide hck
      clear hcell he hx hck
      have hst := opsS_step (p := p) (f := f) HX.out
      go_wp2_with fail
      refine (unhide HCK).mono ?_
      clear HCK
      rintro e w2 ⟨he, hk2⟩
      by_cases hz : opS p f x = 0
      · rw [if_pos hz] at hst
        rw [show opS p f (x.1, x.2) = 0 from hz] at he
        subst he
        have HST := hide hst
        have HK2 : Hid (Kept w w2) := HKW.out.trans hk2
        clear hst hz hk2
        go_wp2
        go_roundw
        case rel => exact ⟨k + 1, by omega, by go_num, (unhide HST).symm.trans HO.out, HK2⟩
        case measure => simp [intOf]; omega
      · rw [if_neg hz] at hst
        have hz' : (opS p f (x.1, x.2) != 0) = true := by rw [bne_iff_ne]; exact hz
        have HST := hide hst
        have HK2 : Hid (Kept w w2) := HKW.out.trans hk2
        clear hst hz hk2
        subst he
        go_wp2
        go_ret
        exact ⟨by rw [← HO.out, unhide HST]; rfl, HK2⟩
    · have hke : k = f.code.length := by have := HL.out; omega
      have HE := hide hke
      clear hke
      go_wp2
      go_ret
      refine ⟨?_, HKW.out⟩
      rw [← HO.out, unhide HE, List.drop_length]
      rfl
theorem funcError_any (p : List Fn) (v : Value) (f : Int) (w : World) (hp : ProgAt w v p) :
    Calls Tryd.prog 28 #[v, .int .i64 f] w fun e w' => e = .returned (.int .i64 (chkS p f)) ∧ Kept w w' := by
  have hp0 := hp
  obtain ⟨oa, cap, rfl, hl, hi⟩ := hp
  unfold chkS
  by_cases h : 0 ≤ f ∧ f < p.length
  · rw [if_pos h]
    obtain ⟨i, rfl⟩ := Int.eq_ofNat_of_zero_le h.1
    obtain ⟨b, o, cv, rfl, c0, c1, c2, hc⟩ := hi i _ (getD_of_lt p i Fn.zero (by omega))
    have hc0 := hc
    obtain ⟨oc, cc, rfl, _, _⟩ := hc
    rw [Int.toNat_natCast]
    generalize p.getD i Fn.zero = g at *
    by_cases hm : 24 < g.code.length
    · simp only [if_pos hm]
      exact funcError_many i b o p.length cap oc _ cc w hl (by omega) c2 (by omega)
    · simp only [if_neg hm]
      cases hr : roomB g.args g.locals with
      | false =>
        rw [if_neg (by decide)]
        exact funcError_range i b o p.length cap _ _ oc _ cc w hl (by omega) c0 c1 c2 (by omega) hr
      | true =>
        rw [if_pos rfl]
        exact funcError_ops p g i b o cap oc _ cc w hp0 (by omega) c0 c1 c2 hc0 rfl (by omega) hr
  · rw [if_neg h]
    exact funcError_none f oa p.length cap w hl (inB_false (by omega))
theorem takes_right (p : List Fn) (g : Fn) (v : Value) (x : Int × Int) (ta lb : Int) (u : World) (hp : ProgAt u v p) (hop : opS p g x = 0) (he : effS p x.1 x.2 = (ta, lb, 0)) :
    Calls Tryd.prog 41 #[v, .agg #[.int .i64 x.1, .int .i64 x.2]] u fun e u' => e = .returned (.int .i64 ta) ∧ u' = u.alloc (.cells #[.int .i64 x.1, .int .i64 x.2] 38) := by
  obtain ⟨kd, a⟩ := x
  obtain ⟨h1, h2, _⟩ := opS_kind hop
  simp only at h1 h2 he ⊢
  obtain ⟨k, rfl⟩ := Int.eq_ofNat_of_zero_le h1
  by_cases h11 : k = 11
  · subst h11
    obtain ⟨a0, a1, _, a3⟩ := effS_call hop rfl
    simp only at a0 a1 a3
    obtain ⟨j, rfl⟩ := Int.eq_ofNat_of_zero_le a0
    rw [show (((11 : Nat) : Int)) = 11 from rfl] at he a3
    rw [he] at a3
    obtain ⟨oa, cap, rfl, _, hi⟩ := hp
    obtain ⟨b, o, cv, rfl, c0, _⟩ := hi j _ (getD_of_lt p j Fn.zero (by omega))
    have hta : ta = (p.getD j Fn.zero).args := by
      have := congrArg Prod.fst a3
      simpa using this
    rw [hta]
    exact takes_call j b o p.length cap _ u (by omega) c0
  · have hta : ta = tk k := by
      unfold effS at he
      rw [if_pos ⟨by omega, by omega⟩, if_neg (by omega)] at he
      have := congrArg Prod.fst he
      simpa using this.symm
    rw [hta]
    exact takes_plain k a v u (by omega) h11
theorem leaves_right (p : List Fn) (g : Fn) (x : Int × Int) (ta lb : Int) (u : World) (hop : opS p g x = 0) (he : effS p x.1 x.2 = (ta, lb, 0)) :
    Calls Tryd.prog 42 #[.agg #[.int .i64 x.1, .int .i64 x.2]] u fun e u' => e = .returned (.int .i64 lb) ∧ u' = u.alloc (.cells #[.int .i64 x.1, .int .i64 x.2] 38) := by
  obtain ⟨kd, a⟩ := x
  obtain ⟨h1, h2, _⟩ := opS_kind hop
  simp only at h1 h2 he ⊢
  obtain ⟨k, rfl⟩ := Int.eq_ofNat_of_zero_le h1
  have hlb : lb = lv k := by
    by_cases h11 : k = 11
    · subst h11
      obtain ⟨_, _, _, a3⟩ := effS_call hop rfl
      simp only at a3
      rw [show (((11 : Nat) : Int)) = 11 from rfl] at he a3
      rw [he] at a3
      have := congrArg (fun t => t.2.1) a3
      exact this
    · unfold effS at he
      rw [if_pos ⟨by omega, by omega⟩, if_neg (by omega)] at he
      have := congrArg (fun t => t.2.1) he
      simpa using this.symm
  rw [hlb]
  exact leaves_any k a u (by omega)
theorem roundS_none {p : List Fn} {c : List (Int × Int)} {H : List Int} {k : Nat} (h : roundS p c k H = none) : ∀ n, k ≤ n → roundS p c n H = none := by
  intro n hn
  induction n with
  | zero =>
    obtain rfl : k = 0 := by omega
    exact h
  | succ n ih =>
    by_cases e : k = n + 1
    · rw [← e]; exact h
    · simp only [roundS]; rw [ih (by omega)]; rfl
theorem roundsS_none {p : List Fn} {c : List (Int × Int)} {H : List Int} {k : Nat} (h : roundsS p c k H = none) : ∀ n, k ≤ n → roundsS p c n H = none := by
  intro n hn
  induction n with
  | zero =>
    obtain rfl : k = 0 := by omega
    exact h
  | succ n ih =>
    by_cases e : k = n + 1
    · rw [← e]; exact h
    · simp only [roundsS]; rw [ih (by omega)]; rfl
theorem heights_fail {p : List Fn} {c : List (Int × Int)} {r k : Nat} {Hr Hk : List Int} (h0 : c.length ≠ 0) (hr : r ≤ c.length) (hk : k < c.length) (h1 : roundsS p c r ((start c).set 0 0) = some Hr) (h2 : roundS p c k Hr = some Hk) (h3 : stepS p c Hk k = none) : heightsS p c = none := by
  unfold heightsS
  rw [if_neg h0]
  refine roundsS_none (k := r + 1) ?_ _ (by omega)
  simp only [roundsS, h1, Option.bind_some]
  refine roundS_none (k := k + 1) ?_ _ (by omega)
  simp only [roundS, h2, Option.bind_some]
  exact h3
end Go.Proofs.YtkepbeeioalmbabDoor
