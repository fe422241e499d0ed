/-
  The contract of op.Check: it answers what A2 says.
-/
import Derived.Test.YtkepbeeioalmbabDoorOpG
import Derived.Test.YtkepbeeioalmbabDoorHide
import Derived.Deep.LoopGhost
namespace Go.Proofs.YtkepbeeioalmbabDoor
open Go.RowKit

set_option maxHeartbeats 400000 in
theorem check_none (f : Int) (oa : Option Addr) (n cap : Nat) (w : World) (h : ixB f n = false) :
    Calls Tryd.prog 27 #[.slice oa n cap, .int .i64 f] w fun e w' => e = .returned (.int .i64 5) ∧ Kept w w' := by
  go_enter Tryd.func27, Tryd.ntmps27
  go_wp2_with (go_at_call 35; refine (isIndex_any _ _ _).mono ?_; rintro e w' ⟨rfl, rfl⟩)
  go_ret
  exact ⟨rfl, Kept.refl _⟩

set_option maxHeartbeats 400000 in
theorem check_many (i b o n cap : Nat) (oc : Option Addr) (m cc : Nat) (w : World) (hi : i < n) (c2 : w.cell? ⟨b, o + i * 3 + 2, none⟩ = some (.slice oc m cc)) (hm : 24 < (m : Int)) :
    Calls Tryd.prog 27 #[.slice (some ⟨b, o, none⟩) n cap, .int .i64 i] w fun e w' => e = .returned (.int .i64 2) ∧ Kept w w' := by
  have h : ixB i n = true := ixB_true (by omega) (by omega)
  go_enter Tryd.func27, Tryd.ntmps27
  go_wp2_with (go_at_call 35; refine (isIndex_any _ _ _).mono ?_; rintro e w' ⟨rfl, rfl⟩)
  go_ret
  exact ⟨rfl, Kept.refl _⟩

set_option maxHeartbeats 400000 in
theorem check_range (i b o n cap : Nat) (ar lo : Int) (oc : Option Addr) (m cc : Nat) (w : World) (hi : i < n) (c0 : w.cell? ⟨b, o + i * 3, none⟩ = some (.int .i64 ar)) (c1 : w.cell? ⟨b, o + i * 3 + 1, none⟩ = some (.int .i64 lo))
    (c2 : w.cell? ⟨b, o + i * 3 + 2, none⟩ = some (.slice oc m cc)) (hm : ¬ 24 < (m : Int)) (hr : roomB ar lo = false) :
    Calls Tryd.prog 27 #[.slice (some ⟨b, o, none⟩) n cap, .int .i64 i] w fun e w' => e = .returned (.int .i64 3) ∧ Kept w w' := by
  have h : ixB i n = true := ixB_true (by omega) (by omega)
  go_enter Tryd.func27, Tryd.ntmps27
  go_wp2_with (first | (go_at_call 35; refine (isIndex_any _ _ _).mono ?_; rintro e w' ⟨rfl, rfl⟩) | (go_at_call 36; refine (hasRoom_any _ _ _ _).mono ?_; rintro e w' ⟨rfl, rfl⟩))
  go_ret
  exact ⟨rfl, (Kept.refl _).alloc _⟩

theorem opsS_step {p : List Fn} {f : Fn} {c : List (Int × Int)} {k : Nat} {x : Int × Int} (h : c[k]? = some x) : opsS p f (c.drop k) = if opS p f x = 0 then opsS p f (c.drop (k + 1)) else opS p f x := by
  have hk : k < c.length := (List.getElem?_eq_some_iff.1 h).1
  have hx : c[k] = x := (List.getElem?_eq_some_iff.1 h).2
  rw [List.drop_eq_getElem_cons hk, hx]
  rfl

set_option maxHeartbeats 2000000 in
theorem check_ops (p : List Fn) (f : Fn) (i b o cap : Nat) (oc : Option Addr) (m cc : Nat) (w : World) (hk : KindsAt w) (hp : ProgAt w (.slice (some ⟨b, o, none⟩) p.length cap) p) (hi : i < p.length)
    (c0 : w.cell? ⟨b, o + i * 3, none⟩ = some (.int .i64 f.args)) (c1 : w.cell? ⟨b, o + i * 3 + 1, none⟩ = some (.int .i64 f.locals))
    (c2 : w.cell? ⟨b, o + i * 3 + 2, none⟩ = some (.slice oc m cc)) (hc : CodeAt w (.slice oc m cc) f.code) (hml : m = f.code.length) (hm : m ≤ 24) (hr : roomB f.args f.locals = true) :
    Calls Tryd.prog 27 #[.slice (some ⟨b, o, none⟩) p.length cap, .int .i64 i] w fun e w' => e = .returned (.int .i64 (opsS p f f.code)) ∧ Kept w w' := by
  have h : ixB i p.length = true := ixB_true (by omega) (by omega)
  have hm' : ¬ 24 < (m : Int) := by omega
  have HP : Hid (ProgAt w (.slice (some ⟨b, o, none⟩) p.length cap) p) := hp
  have HK : Hid (KindsAt w) := hk
  have HC : Hid (CodeAt w (.slice oc m cc) f.code) := hc
  have HL : Hid (m = f.code.length) := hml
  clear hp hk hc hml
  have d0 : (w.alloc (.cells #[.int .i64 f.args, .int .i64 f.locals, .slice oc m cc] 36)).cell? ⟨b, o + i * 3, none⟩ = some (.int .i64 f.args) := ((Kept.refl w).alloc _).cell c0
  have d1 : (w.alloc (.cells #[.int .i64 f.args, .int .i64 f.locals, .slice oc m cc] 36)).cell? ⟨b, o + i * 3 + 1, none⟩ = some (.int .i64 f.locals) := ((Kept.refl w).alloc _).cell c1
  have d2 : (w.alloc (.cells #[.int .i64 f.args, .int .i64 f.locals, .slice oc m cc] 36)).cell? ⟨b, o + i * 3 + 2, none⟩ = some (.slice oc m cc) := ((Kept.refl w).alloc _).cell c2
  go_enter Tryd.func27, Tryd.ntmps27
  go_wp2_with (first | (go_at_call 35; refine (isIndex_any _ _ _).mono ?_; rintro e w' ⟨rfl, rfl⟩) | (go_at_call 36; refine (hasRoom_any _ _ _ _).mono ?_; rintro e w' ⟨rfl, rfl⟩))
  refine (bounds_any _ _ _ _ _ _ _ _ _).mono ?_
  rintro e w1 ⟨Bp, Bf, he, hbp, hbl, hbc, hbk⟩
  unfold mayV at he
  subst he
  have g2 : ∀ o1, (w1.alloc o1).cell? ⟨b, o + i * 3 + 2, none⟩ = some (.slice oc m cc) := fun o1 => ((Kept.refl w1).alloc _).cell (hbk.cell d2)
  have HB : Hid (Kept w w1) := Kept.trans ((Kept.refl w).alloc _) hbk
  have HM : Hid (MayAt w1 p f (.slice (some ⟨b, o, none⟩) p.length cap) Bp Bf) := ⟨HP.out.kept HB.out, hbp, hbl, ⟨oc, cc, by rw [← HL.out]; exact hbc⟩⟩
  clear d0 d1 d2 hbp hbl hbc hbk c0 c1 c2
  go_wp2
  generalize hW0 : w1.alloc (.cells #[.func (.func 46) #[] #[], .func (.func 47) #[] #[], .func (.func 48) #[] #[.pointer (some ⟨Bf, 0, none⟩)], .func (.func 49) #[] #[.pointer (some ⟨Bf, 0, none⟩)], .func (.func 50) #[] #[.pointer (some ⟨Bp, 0, none⟩)]] 63) = W0
  have HW : Hid (∀ u, Kept W0 u → ∀ j v, (#[Value.func (.func 46) #[] #[], .func (.func 47) #[] #[], .func (.func 48) #[] #[.pointer (some ⟨Bf, 0, none⟩)], .func (.func 49) #[] #[.pointer (some ⟨Bf, 0, none⟩)], .func (.func 50) #[] #[.pointer (some ⟨Bp, 0, none⟩)]])[j]? = some v → u.cell? ⟨w1.heap.size, j, none⟩ = some v) := by
    intro u hu j v hv
    refine hu.cell ?_
    rw [← hW0]
    exact (cell_lays (lays_new rfl) j).trans hv
  have H0 : Hid (Kept w1 W0) := by rw [← hW0]; exact (Kept.refl _).alloc _
  clear hW0 g2
  go_loopw [39] (fun i wr => ∃ k : Nat, k ≤ m ∧ i = .int .i64 k ∧ Hid (opsS p f (f.code.drop k) = opsS p f f.code) ∧ Hid (Kept W0 wr)) (fun i _ => m - (intOf i).toNat)
  case atStart => exact ⟨0, Nat.zero_le _, rfl, rfl, Kept.refl _⟩
  case round =>
    obtain ⟨k, hkm, rfl, HO, HKW⟩ := hrel
    by_cases hlt : k < m
    · obtain ⟨x, hx⟩ : ∃ x, f.code[k]? = some x := ⟨f.code[k]'(by rw [← HL.out]; exact hlt), List.getElem?_eq_getElem _⟩
      have hKr : Kept w wr := HB.out.trans (H0.out.trans HKW.out)
      obtain ⟨oa', cap', he, _, hcell⟩ := HC.out.kept hKr
      obtain ⟨b', o', rfl, x0, x1⟩ := hcell k x hx
      obtain ⟨rfl, -, -⟩ := (by simpa using he : oc = some ⟨b', o', none⟩ ∧ m = f.code.length ∧ cc = cap')
      have HX : Hid (f.code[k]? = some x) := hx
      have HKr : Hid (Kept w wr) := hKr
      have e0 := HW.out _ (HKW.out.alloc (.cells #[.int .i64 x.1, .int .i64 x.2] 38)) 0 _ rfl
      have e1 := HW.out _ (HKW.out.alloc (.cells #[.int .i64 x.1, .int .i64 x.2] 38)) 1 _ rfl
      have e2 := HW.out _ (HKW.out.alloc (.cells #[.int .i64 x.1, .int .i64 x.2] 38)) 2 _ rfl
      have e3 := HW.out _ (HKW.out.alloc (.cells #[.int .i64 x.1, .int .i64 x.2] 38)) 3 _ rfl
      have e4 := HW.out _ (HKW.out.alloc (.cells #[.int .i64 x.1, .int .i64 x.2] 38)) 4 _ rfl
      clear hcell he hx hKr
      have hck := checkOp_any p f (.slice (some ⟨b, o, none⟩) p.length cap) x.1 x.2 Bp Bf (wr.alloc (.cells #[.int .i64 x.1, .int .i64 x.2] 38)) (HK.out.kept (HKr.out.alloc _)) (HM.out.kept ((H0.out.trans HKW.out).alloc _))
      unfold mayV at hck
      have HCK := hide hck
      clear hck
      have hst := opsS_step (p := p) (f := f) HX.out
      go_wp2_with fail
      refine (unhide HCK).mono ?_
      clear HCK
      rintro e w2 ⟨he, hk2⟩
      by_cases hz : opS p f x = 0
      · rw [if_pos hz] at hst
        rw [show opS p f (x.1, x.2) = 0 from hz] at he
        subst he
        have HST := hide hst
        have HK2 : Hid (Kept W0 w2) := Kept.trans (HKW.out.alloc _) hk2
        clear hst hz hk2
        go_wp2
        go_roundw
        case rel => exact ⟨k + 1, by omega, by go_num, (unhide HST).symm.trans HO.out, HK2⟩
        case measure => simp [intOf]; omega
      · rw [if_neg hz] at hst
        have hz' : (opS p f (x.1, x.2) != 0) = true := by rw [bne_iff_ne]; exact hz
        have HST := hide hst
        have HK2 : Hid (Kept w w2) := Kept.trans (HKr.out.alloc _) hk2
        clear hst hz hk2
        subst he
        go_wp2
        go_ret
        exact ⟨by rw [← HO.out, unhide HST]; rfl, HK2⟩
    · have hke : k = f.code.length := by have := HL.out; omega
      have HE := hide hke
      clear hke
      go_wp2
      go_ret
      refine ⟨?_, HB.out.trans (H0.out.trans HKW.out)⟩
      rw [← HO.out, unhide HE, List.drop_length]
      rfl

/-- op.Check answers what A2 says. -/
theorem check_any (p : List Fn) (v : Value) (f : Int) (w : World) (hp : ProgAt w v p) (hk : KindsAt w) :
    Calls Tryd.prog 27 #[v, .int .i64 f] w fun e w' => e = .returned (.int .i64 (chkS p f)) ∧ Kept w w' := by
  have hp0 := hp
  obtain ⟨oa, cap, rfl, hl, hi⟩ := hp
  unfold chkS
  by_cases h : 0 ≤ f ∧ f < p.length
  · rw [if_pos h]
    obtain ⟨i, rfl⟩ := Int.eq_ofNat_of_zero_le h.1
    obtain ⟨b, o, cv, rfl, c0, c1, c2, hc⟩ := hi i _ (getD_of_lt p i Fn.zero (by omega))
    have hc0 := hc
    obtain ⟨oc, cc, rfl, _, _⟩ := hc
    rw [Int.toNat_natCast]
    generalize p.getD i Fn.zero = g at *
    by_cases hm : 24 < g.code.length
    · simp only [if_pos hm]
      exact check_many i b o p.length cap oc _ cc w (by omega) c2 (by omega)
    · simp only [if_neg hm]
      cases hr : roomB g.args g.locals with
      | false =>
        rw [if_neg (by decide)]
        exact check_range i b o p.length cap _ _ oc _ cc w (by omega) c0 c1 c2 (by omega) hr
      | true =>
        rw [if_pos rfl]
        exact check_ops p g i b o cap oc _ cc w hk hp0 (by omega) c0 c1 c2 hc0 rfl (by omega) hr
  · rw [if_neg h]
    exact check_none f oa p.length cap w (ixB_false h)
end Go.Proofs.YtkepbeeioalmbabDoor
