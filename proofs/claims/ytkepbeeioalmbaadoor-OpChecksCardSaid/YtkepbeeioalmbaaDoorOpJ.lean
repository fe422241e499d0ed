/-
  The contracts of the reference's opError and FuncError: they answer what A2 says.
-/
import Derived.Test.YtkepbeeioalmbaaDoorOpI
import Derived.Test.YtkepbeeioalmbaaDoorOpH
import Derived.Test.YtkepbeeioalmbaaDoorOpC
namespace Go.Proofs.YtkepbeeioalmbaaDoor
open Go.RowKit

theorem opS_at {p : List Fn} {f : Fn} {k : Nat} {a : Int} (h : k < 17) : opS p f (k, a) = if mayB p f (opd k) a = true then (if k = 13 ∧ (p.getD a.toNat Fn.zero).args ≠ 1 then 1 else 0) else 3 := by
  unfold opS
  rw [if_pos ⟨by simp, by simp; omega⟩]
  have e : ((k : Int) = 13) = (k = 13) := by rw [eq_iff_iff]; omega
  simp [e]

/-- One of a kind whose operand is neither a function's number nor a local's nor a place's. -/
theorem opS_bool {p : List Fn} {f : Fn} {k : Nat} {a : Int} (h : k < 17) (hn : k ≠ 13) : opS p f (k, a) = bif mayB p f (opd k) a then 0 else 3 := by
  rw [opS_at h]
  cases mayB p f (opd k) a <;> simp [hn]

theorem opError_any (p : List Fn) (i b o cap : Nat) (f : Fn) (oc : Option Addr) (cc : Nat) (kd a : Int) (w : World) (hp : ProgAt w (.slice (some ⟨b, o, none⟩) p.length cap) p) (hi : i < p.length)
    (hcl : f.code.length ≤ 8796093022208) (c1 : w.cell? ⟨b, o + i * 3 + 1, none⟩ = some (.int .i64 f.locals)) (c2 : w.cell? ⟨b, o + i * 3 + 2, none⟩ = some (.slice oc f.code.length cc)) (hr : roomB f.args f.locals = true) :
    Calls Tryd.prog 30 #[.slice (some ⟨b, o, none⟩) p.length cap, .int .i64 i, .agg #[.int .i64 kd, .int .i64 a]] w fun e w' => e = .returned (.int .i64 (opS p f (kd, a))) ∧ Kept w w' := by
  have hl := hp.lt
  rw [roomB_iff] at hr
  by_cases h : 0 ≤ kd ∧ kd < 17
  · obtain ⟨k, rfl⟩ := Int.eq_ofNat_of_zero_le h.1
    have hb : k < 17 := by omega
    have hfn : ∀ k : Nat, (opd k = 4) → mayB p f (opd k) a = (ixB a p.length && roomB (p.getD a.toNat Fn.zero).args (p.getD a.toNat Fn.zero).locals) := by
      intro k hk
      rw [hk]
      simp only [mayB]
      rw [if_neg (by decide), if_neg (by decide), if_neg (by decide), if_neg (by decide)]
    by_cases h11 : k = 11
    · subst h11
      rw [opS_bool hb (by decide), hfn 11 rfl]
      by_cases ha : 0 ≤ a ∧ a < p.length
      · obtain ⟨j, rfl⟩ := Int.eq_ofNat_of_zero_le ha.1
        obtain ⟨oa', cap', he, _, hcell⟩ := hp
        obtain ⟨b', o', cv, rfl, d0, d1, d2, _⟩ := hcell j _ (getD_of_lt p j Fn.zero (by omega))
        obtain ⟨⟨rfl, rfl⟩, -⟩ := (by simpa using he : (b = b' ∧ o = o') ∧ cap = cap')
        rw [ixB_true ha.1 ha.2, Int.toNat_natCast, Bool.true_and]
        cases hroom : roomB (p.getD j Fn.zero).args (p.getD j Fn.zero).locals with
        | false => exact opErr11_room i j b o p.length cap _ _ cv w hl (by omega) d0 d1 d2 hroom
        | true => exact opErr11_ok i j b o p.length cap _ _ cv w hl (by omega) d0 d1 d2 hroom
      · rw [ixB_false ha, Bool.false_and]
        exact opErr11_none a i _ p.length cap w hl (inB_false (by omega))
    · by_cases h13 : k = 13
      · subst h13
        rw [opS_at hb, hfn 13 rfl]
        by_cases ha : 0 ≤ a ∧ a < p.length
        · obtain ⟨j, rfl⟩ := Int.eq_ofNat_of_zero_le ha.1
          obtain ⟨oa', cap', he, _, hcell⟩ := hp
          obtain ⟨b', o', cv, rfl, d0, d1, d2, _⟩ := hcell j _ (getD_of_lt p j Fn.zero (by omega))
          obtain ⟨⟨rfl, rfl⟩, -⟩ := (by simpa using he : (b = b' ∧ o = o') ∧ cap = cap')
          rw [ixB_true ha.1 ha.2, Int.toNat_natCast, Bool.true_and]
          cases hroom : roomB (p.getD j Fn.zero).args (p.getD j Fn.zero).locals with
          | false => exact opErr13_room i j b o p.length cap _ _ cv w hl (by omega) d0 d1 d2 hroom
          | true =>
            by_cases har : (p.getD j Fn.zero).args = 1
            · rw [if_pos rfl, if_neg (by simpa using har)]
              exact opErr13_ok i j b o p.length cap _ _ cv w hl (by omega) d0 d1 d2 hroom (by rw [har]; rfl)
            · rw [if_pos rfl, if_pos ⟨rfl, har⟩]
              exact opErr13_form i j b o p.length cap _ _ cv w hl (by omega) d0 d1 d2 hroom (by rw [bne_iff_ne]; exact har)
        · rw [ixB_false ha, Bool.false_and, if_neg (by decide)]
          exact opErr13_none a i _ p.length cap w hl (inB_false (by omega))
      · rw [opS_bool hb h13]
        have e0 : ∀ k : Nat, opd k = 0 → mayB p f (opd k) a = inB a 0 0 := by
          intro k hk
          rw [hk, Bool.eq_iff_iff, inB_iff]
          simp only [mayB]
          rw [if_pos trivial, decide_eq_true_eq]
          omega
        have e1 : mayB p f (opd 0) a = inB a 0 999 := rfl
        have e2 : ∀ k : Nat, opd k = 2 → mayB p f (opd k) a = inB a 0 (f.locals - 1) := by
          intro k hk; rw [hk, inB_ixB]; rfl
        have e3 : ∀ k : Nat, opd k = 3 → mayB p f (opd k) a = inB a 0 ((f.code.length : Int) - 1) := by
          intro k hk; rw [hk, inB_ixB]; rfl
        rcases cases17 hb h11 with rfl | rfl | rfl | rfl | rfl | rfl | rfl | rfl | rfl | rfl | rfl | rfl | rfl | rfl | rfl | rfl
        · rw [e1]
          cases hm : inB a 0 999 with
          | false => exact opErr0_false a i _ w hm
          | true => exact opErr0_true a i _ w hm
        · rw [e0 1 rfl]
          cases hm : inB a 0 0 with
          | false => exact opErr1_false a i _ w hm
          | true => exact opErr1_true a i _ w hm
        · rw [e2 2 rfl]
          cases hm : inB a 0 (f.locals - 1) with
          | false => exact opErr2_false a i b o p.length cap _ w hi (by omega) hr.2.2 c1 hm
          | true => exact opErr2_true a i b o p.length cap _ w hi (by omega) hr.2.2 c1 hm
        · rw [e2 3 rfl]
          cases hm : inB a 0 (f.locals - 1) with
          | false => exact opErr3_false a i b o p.length cap _ w hi (by omega) hr.2.2 c1 hm
          | true => exact opErr3_true a i b o p.length cap _ w hi (by omega) hr.2.2 c1 hm
        · rw [e0 4 rfl]
          cases hm : inB a 0 0 with
          | false => exact opErr4_false a i _ w hm
          | true => exact opErr4_true a i _ w hm
        · rw [e0 5 rfl]
          cases hm : inB a 0 0 with
          | false => exact opErr5_false a i _ w hm
          | true => exact opErr5_true a i _ w hm
        · rw [e0 6 rfl]
          cases hm : inB a 0 0 with
          | false => exact opErr6_false a i _ w hm
          | true => exact opErr6_true a i _ w hm
        · rw [e0 7 rfl]
          cases hm : inB a 0 0 with
          | false => exact opErr7_false a i _ w hm
          | true => exact opErr7_true a i _ w hm
        · rw [e0 8 rfl]
          cases hm : inB a 0 0 with
          | false => exact opErr8_false a i _ w hm
          | true => exact opErr8_true a i _ w hm
        · rw [e3 9 rfl]
          cases hm : inB a 0 ((f.code.length : Int) - 1) with
          | false => exact opErr9_false a i b o p.length cap oc _ cc w hi hcl c2 hm
          | true => exact opErr9_true a i b o p.length cap oc _ cc w hi hcl c2 hm
        · rw [e3 10 rfl]
          cases hm : inB a 0 ((f.code.length : Int) - 1) with
          | false => exact opErr10_false a i b o p.length cap oc _ cc w hi hcl c2 hm
          | true => exact opErr10_true a i b o p.length cap oc _ cc w hi hcl c2 hm
        · rw [e0 12 rfl]
          cases hm : inB a 0 0 with
          | false => exact opErr12_false a i _ w hm
          | true => exact opErr12_true a i _ w hm
        · exact absurd rfl h13
        · rw [e0 14 rfl]
          cases hm : inB a 0 0 with
          | false => exact opErr14_false a i _ w hm
          | true => exact opErr14_true a i _ w hm
        · rw [e0 15 rfl]
          cases hm : inB a 0 0 with
          | false => exact opErr15_false a i _ w hm
          | true => exact opErr15_true a i _ w hm
        · rw [e0 16 rfl]
          cases hm : inB a 0 0 with
          | false => exact opErr16_false a i _ w hm
          | true => exact opErr16_true a i _ w hm
  · have e : opS p f (kd, a) = 4 := by unfold opS; rw [if_neg h]
    rw [e]
    exact opErr_bad kd a i _ w (inB_false (by omega)) (beq_eq_false_iff_ne.2 (by omega)) (beq_eq_false_iff_ne.2 (by omega)) (beq_eq_false_iff_ne.2 (by omega)) (beq_eq_false_iff_ne.2 (by omega)) (beq_eq_false_iff_ne.2 (by omega)) (beq_eq_false_iff_ne.2 (by omega)) (beq_eq_false_iff_ne.2 (by omega))

end Go.Proofs.YtkepbeeioalmbaaDoor
