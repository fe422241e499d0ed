/-
  The contract of op.checkOp, and of op.Check: they answer what A2 says.
-/
import Derived.Test.YtkepbeeioalmbabDoorOpF0
import Derived.Test.YtkepbeeioalmbabDoorOpF1
import Derived.Test.YtkepbeeioalmbabDoorOpF2
import Derived.Test.YtkepbeeioalmbabDoorOpF3
import Derived.Test.YtkepbeeioalmbabDoorOpF4
import Derived.Test.YtkepbeeioalmbabDoorOpFm
namespace Go.Proofs.YtkepbeeioalmbabDoor
open Go.RowKit

/-- What op.bounds has laid: the copies that its functions look at. -/
structure MayAt (w : World) (p : List Fn) (f : Fn) (v : Value) (Bp Bf : Nat) : Prop where
  prog : ProgAt w v p
  cp : w.cell? ⟨Bp, 0, none⟩ = some v
  cl : w.cell? ⟨Bf, 1, none⟩ = some (.int .i64 f.locals)
  cc : ∃ oa cap, w.cell? ⟨Bf, 2, none⟩ = some (.slice oa f.code.length cap)
theorem MayAt.kept {w w' : World} {p : List Fn} {f : Fn} {v : Value} {Bp Bf : Nat} (h : MayAt w p f v Bp Bf) (k : Kept w w') : MayAt w' p f v Bp Bf :=
  ⟨h.prog.kept k, k.cell h.cp, k.cell h.cl, by obtain ⟨oa, cap, hc⟩ := h.cc; exact ⟨oa, cap, k.cell hc⟩⟩

theorem opd_cases (k : Nat) (h : k < 17) : opd k = 0 ∨ opd k = 1 ∨ opd k = 2 ∨ opd k = 3 ∨ opd k = 4 := by
  have : ∀ k : Fin 17, opd k = 0 ∨ opd k = 1 ∨ opd k = 2 ∨ opd k = 3 ∨ opd k = 4 := by decide
  exact this ⟨k, h⟩

theorem opS_no {p : List Fn} {f : Fn} {k : Nat} {a : Int} (h : k < 17) (hm : mayB p f (opd k) a = false) : opS p f (k, a) = 3 := by
  unfold opS
  rw [if_pos ⟨by simp, by simp; omega⟩]
  simp [hm]
theorem opS_yes {p : List Fn} {f : Fn} {k : Nat} {a : Int} (h : k < 17) (hm : mayB p f (opd k) a = true) (hn : k ≠ 13) : opS p f (k, a) = 0 := by
  unfold opS
  rw [if_pos ⟨by simp, by simp; omega⟩]
  have : ¬ ((k : Int) = 13) := by omega
  simp [hm, this]

theorem checkOp_any (p : List Fn) (f : Fn) (v : Value) (kd a : Int) (Bp Bf : Nat) (w : World) (hk : KindsAt w) (hm : MayAt w p f v Bp Bf) :
    Calls Tryd.prog 38 #[v, .agg #[.int .i64 kd, .int .i64 a], mayV Bp Bf] w fun e w' => e = .returned (.int .i64 (opS p f (kd, a))) ∧ Kept w w' := by
  by_cases h : 0 ≤ kd ∧ kd < 17
  · obtain ⟨k, rfl⟩ := Int.eq_ofNat_of_zero_le h.1
    have hb : k < 17 := by omega
    have hc : w.cell? ⟨0, k * 3 + 2, none⟩ = some (.int .i64 (opd k)) := hk (k * 3 + 2) (by omega)
    obtain ⟨oa, cap, hcc⟩ := hm.cc
    by_cases h13 : k = 13
    · subst h13
      have H : ∀ u, Kept w u → Calls Tryd.prog 50 #[.int .i64 a, .pointer (some ⟨Bp, 0, none⟩)] u fun e u' => e = .returned (.bool (mayB p f 4 a)) ∧ Kept u u' := fun u hu => may4_any p v a Bp u (hu.cell hm.cp) (hm.prog.kept hu)
      have ho : opd 13 = 4 := rfl
      rw [ho] at hc
      cases hmay : mayB p f 4 a with
      | false =>
        rw [hmay] at H
        rw [opS_no hb (by rw [ho]; exact hmay)]
        exact checkOp4_no 13 a v hb Bp Bf w hc H
      | true =>
        rw [hmay] at H
        have hx : ixB a p.length = true := by
          have := hmay
          simp only [mayB] at this
          rw [if_neg (by decide), if_neg (by decide), if_neg (by decide), if_neg (by decide), Bool.and_eq_true] at this
          exact this.1
        rw [ixB_iff] at hx
        obtain ⟨i, rfl⟩ := Int.eq_ofNat_of_zero_le hx.1
        obtain ⟨oa', cap', rfl, hl, hi⟩ := hm.prog
        obtain ⟨b, o, cv, rfl, c0, _⟩ := hi i _ (getD_of_lt p i Fn.zero (by omega))
        have e : opS p f (((13 : Nat) : Int), (i : Int)) = if (p.getD i Fn.zero).args ≠ 1 then 1 else 0 := by
          unfold opS
          rw [if_pos ⟨by simp, by simp⟩]
          have ho' : opd ((((13 : Nat) : Int), (i : Int)).1).toNat = 4 := rfl
          rw [ho', hmay, if_pos rfl]
          simp
        rw [e]
        by_cases hr : (p.getD i Fn.zero).args = 1
        · rw [if_neg (by simpa using hr)]
          exact checkOpMake_false i b o p.length cap' _ Bp Bf w hc H (by omega) c0 (by rw [hr]; rfl)
        · rw [if_pos hr]
          exact checkOpMake_true i b o p.length cap' _ Bp Bf w hc H (by omega) c0 (by rw [bne_iff_ne]; exact hr)
    · have hn : ((k : Int) == 13) = false := beq_eq_false_iff_ne.2 (by omega)
      rcases opd_cases k hb with ho | ho | ho | ho | ho
      · rw [ho] at hc
        have H : ∀ u, Kept w u → Calls Tryd.prog 46 #[.int .i64 a] u fun e u' => e = .returned (.bool (mayB p f 0 a)) ∧ Kept u u' := fun u _ => (may0_any a u).mono fun e u' ⟨h1, h2⟩ => ⟨by rw [h1]; simp only [mayB]; rw [if_pos trivial]; rfl, h2 ▸ Kept.refl _⟩
        cases hmay : mayB p f 0 a with
        | false => rw [hmay] at H; rw [opS_no hb (by rw [ho]; exact hmay)]; exact checkOp0_no k a v hb Bp Bf w hc H
        | true => rw [hmay] at H; rw [opS_yes hb (by rw [ho]; exact hmay) h13]; exact checkOp0_yes k a v hb hn Bp Bf w hc H
      · rw [ho] at hc
        have H : ∀ u, Kept w u → Calls Tryd.prog 47 #[.int .i64 a] u fun e u' => e = .returned (.bool (mayB p f 1 a)) ∧ Kept u u' := fun u _ => (may1_any a u).mono fun e u' ⟨h1, h2⟩ => ⟨h1, h2 ▸ Kept.refl _⟩
        cases hmay : mayB p f 1 a with
        | false => rw [hmay] at H; rw [opS_no hb (by rw [ho]; exact hmay)]; exact checkOp1_no k a v hb Bp Bf w hc H
        | true => rw [hmay] at H; rw [opS_yes hb (by rw [ho]; exact hmay) h13]; exact checkOp1_yes k a v hb hn Bp Bf w hc H
      · rw [ho] at hc
        have H : ∀ u, Kept w u → Calls Tryd.prog 48 #[.int .i64 a, .pointer (some ⟨Bf, 0, none⟩)] u fun e u' => e = .returned (.bool (mayB p f 2 a)) ∧ Kept u u' := fun u hu => (may2_any a f.locals Bf u (hu.cell hm.cl)).mono fun e u' ⟨h1, h2⟩ => ⟨h1, h2 ▸ Kept.refl _⟩
        cases hmay : mayB p f 2 a with
        | false => rw [hmay] at H; rw [opS_no hb (by rw [ho]; exact hmay)]; exact checkOp2_no k a v hb Bp Bf w hc H
        | true => rw [hmay] at H; rw [opS_yes hb (by rw [ho]; exact hmay) h13]; exact checkOp2_yes k a v hb hn Bp Bf w hc H
      · rw [ho] at hc
        have H : ∀ u, Kept w u → Calls Tryd.prog 49 #[.int .i64 a, .pointer (some ⟨Bf, 0, none⟩)] u fun e u' => e = .returned (.bool (mayB p f 3 a)) ∧ Kept u u' := fun u hu => (may3_any a Bf oa f.code.length cap u (hu.cell hcc)).mono fun e u' ⟨h1, h2⟩ => ⟨h1, h2 ▸ Kept.refl _⟩
        cases hmay : mayB p f 3 a with
        | false => rw [hmay] at H; rw [opS_no hb (by rw [ho]; exact hmay)]; exact checkOp3_no k a v hb Bp Bf w hc H
        | true => rw [hmay] at H; rw [opS_yes hb (by rw [ho]; exact hmay) h13]; exact checkOp3_yes k a v hb hn Bp Bf w hc H
      · rw [ho] at hc
        have H : ∀ u, Kept w u → Calls Tryd.prog 50 #[.int .i64 a, .pointer (some ⟨Bp, 0, none⟩)] u fun e u' => e = .returned (.bool (mayB p f 4 a)) ∧ Kept u u' := fun u hu => may4_any p v a Bp u (hu.cell hm.cp) (hm.prog.kept hu)
        cases hmay : mayB p f 4 a with
        | false => rw [hmay] at H; rw [opS_no hb (by rw [ho]; exact hmay)]; exact checkOp4_no k a v hb Bp Bf w hc H
        | true => rw [hmay] at H; rw [opS_yes hb (by rw [ho]; exact hmay) h13]; exact checkOp4_yes k a v hb hn Bp Bf w hc H
  · have e : opS p f (kd, a) = 4 := by unfold opS; rw [if_neg h]
    rw [e]
    exact checkOp_bad kd a v Bp Bf w (ixB_false h)

end Go.Proofs.YtkepbeeioalmbabDoor
