/- OpG, Hide, OpH, OpB, Count, OpL0, FlowA, FlowB, FlowC, FlowD -/
import Derived.Test.YtkepbeeioalmbabDoorTM03
import Derived.Test.YtkepbeeioalmbabDoorTM04
import Derived.Test.YtkepbeeioalmbabDoorTM05
import Derived.Test.YtkepbeeioalmbabDoorTM06
import Derived.Test.YtkepbeeioalmbabDoorTM07
import Derived.Test.YtkepbeeioalmbabDoorTM08
import Derived.Test.YtkepbeeioalmbabDoorTM01
import Derived.Deep.LoopGhost
import Derived.Test.YtkepbeeioalmbabDoorTM02
import Derived.Test.YtkepbeeioalmbabDoorChecked
import Derived.RangeFuncNested
import Derived.RangeFuncBound
import Derived.RangeFuncCalls
import Derived.RangeFuncLeaves
import Derived.Shelf.Abstract
import Derived.Shelf.RegionOpen
import Derived.WalkKit
import Derived.OwnWalkIn
import Derived.TacticsInMore
import Derived.LoopNIn
import Derived.LoopIn
set_option maxRecDepth 100000
set_option maxHeartbeats 8000000
namespace Go.Proofs.YtkepbeeioalmbabDoor
open Go.RowKit
structure MayAt (w : World) (p : List Fn) (f : Fn) (v : Value) (Bp Bf : Nat) : Prop where
  prog : ProgAt w v p
  cp : w.cell? ⟨Bp, 0, none⟩ = some v
  cl : w.cell? ⟨Bf, 1, none⟩ = some (.int .i64 f.locals)
  cc : ∃ oa cap, w.cell? ⟨Bf, 2, none⟩ = some (.slice oa f.code.length cap)
theorem MayAt.kept {w w' : World} {p : List Fn} {f : Fn} {v : Value} {Bp Bf : Nat} (h : MayAt w p f v Bp Bf) (k : Kept w w') : MayAt w' p f v Bp Bf :=
  ⟨h.prog.kept k, k.cell h.cp, k.cell h.cl, by obtain ⟨oa, cap, hc⟩ := h.cc; exact ⟨oa, cap, k.cell hc⟩⟩
theorem opd_cases (k : Nat) (h : k < 17) : opd k = 0 ∨ opd k = 1 ∨ opd k = 2 ∨ opd k = 3 ∨ opd k = 4 := by
  have : ∀ k : Fin 17, opd k = 0 ∨ opd k = 1 ∨ opd k = 2 ∨ opd k = 3 ∨ opd k = 4 := by decide
  exact this ⟨k, h⟩
theorem opS_no {p : List Fn} {f : Fn} {k : Nat} {a : Int} (h : k < 17) (hm : mayB p f (opd k) a = false) : opS p f (k, a) = 3 := by
  unfold opS
  rw [if_pos ⟨by simp, by simp; omega⟩]
  simp [hm]
theorem opS_yes {p : List Fn} {f : Fn} {k : Nat} {a : Int} (h : k < 17) (hm : mayB p f (opd k) a = true) (hn : k ≠ 13) : opS p f (k, a) = 0 := by
  unfold opS
  rw [if_pos ⟨by simp, by simp; omega⟩]
  have : ¬ ((k : Int) = 13) := by omega
  simp [hm, this]
theorem checkOp_any (p : List Fn) (f : Fn) (v : Value) (kd a : Int) (Bp Bf : Nat) (w : World) (hk : KindsAt w) (hm : MayAt w p f v Bp Bf) :
    Calls Tryd.prog 38 #[v, .agg #[.int .i64 kd, .int .i64 a], mayV Bp Bf] w fun e w' => e = .returned (.int .i64 (opS p f (kd, a))) ∧ Kept w w' := by
  by_cases h : 0 ≤ kd ∧ kd < 17
  · obtain ⟨k, rfl⟩ := Int.eq_ofNat_of_zero_le h.1
    have hb : k < 17 := by omega
    have hc : w.cell? ⟨0, k * 3 + 2, none⟩ = some (.int .i64 (opd k)) := hk (k * 3 + 2) (by omega)
    obtain ⟨oa, cap, hcc⟩ := hm.cc
    by_cases h13 : k = 13
    · subst h13
      have H : ∀ u, Kept w u → Calls Tryd.prog 50 #[.int .i64 a, .pointer (some ⟨Bp, 0, none⟩)] u fun e u' => e = .returned (.bool (mayB p f 4 a)) ∧ Kept u u' := fun u hu => may4_any p v a Bp u (hu.cell hm.cp) (hm.prog.kept hu)
      have ho : opd 13 = 4 := rfl
      rw [ho] at hc
      cases hmay : mayB p f 4 a with
      | false =>
        rw [hmay] at H
        rw [opS_no hb (by rw [ho]; exact hmay)]
        exact checkOp4_no 13 a v hb Bp Bf w hc H
      | true =>
        rw [hmay] at H
        have hx : ixB a p.length = true := by
          have := hmay
          simp only [mayB] at this
          rw [if_neg (by decide), if_neg (by decide), if_neg (by decide), if_neg (by decide), Bool.and_eq_true] at this
          exact this.1
        rw [ixB_iff] at hx
        obtain ⟨i, rfl⟩ := Int.eq_ofNat_of_zero_le hx.1
        obtain ⟨oa', cap', rfl, hl, hi⟩ := hm.prog
        obtain ⟨b, o, cv, rfl, c0, _⟩ := hi i _ (getD_of_lt p i Fn.zero (by omega))
        have e : opS p f (((13 : Nat) : Int), (i : Int)) = if (p.getD i Fn.zero).args ≠ 1 then 1 else 0 := by
          unfold opS
          rw [if_pos ⟨by simp, by simp⟩]
          have ho' : opd ((((13 : Nat) : Int), (i : Int)).1).toNat = 4 := rfl
          rw [ho', hmay, if_pos rfl]
          simp
        rw [e]
        by_cases hr : (p.getD i Fn.zero).args = 1
        · rw [if_neg (by simpa using hr)]
          exact checkOpMake_false i b o p.length cap' _ Bp Bf w hc H (by omega) c0 (by rw [hr]; rfl)
        · rw [if_pos hr]
          exact checkOpMake_true i b o p.length cap' _ Bp Bf w hc H (by omega) c0 (by rw [bne_iff_ne]; exact hr)
    · have hn : ((k : Int) == 13) = false := beq_eq_false_iff_ne.2 (by omega)
      rcases opd_cases k hb with ho | ho | ho | ho | ho
      · rw [ho] at hc
        have H : ∀ u, Kept w u → Calls Tryd.prog 46 #[.int .i64 a] u fun e u' => e = .returned (.bool (mayB p f 0 a)) ∧ Kept u u' := fun u _ => (may0_any a u).mono fun e u' ⟨h1, h2⟩ => ⟨by rw [h1]; simp only [mayB]; rw [if_pos trivial]; rfl, h2 ▸ Kept.refl _⟩
        cases hmay : mayB p f 0 a with
        | false => rw [hmay] at H; rw [opS_no hb (by rw [ho]; exact hmay)]; exact checkOp0_no k a v hb Bp Bf w hc H
        | true => rw [hmay] at H; rw [opS_yes hb (by rw [ho]; exact hmay) h13]; exact checkOp0_yes k a v hb hn Bp Bf w hc H
      · rw [ho] at hc
        have H : ∀ u, Kept w u → Calls Tryd.prog 47 #[.int .i64 a] u fun e u' => e = .returned (.bool (mayB p f 1 a)) ∧ Kept u u' := fun u _ => (may1_any a u).mono fun e u' ⟨h1, h2⟩ => ⟨h1, h2 ▸ Kept.refl _⟩
        cases hmay : mayB p f 1 a with
        | false => rw [hmay] at H; rw [opS_no hb (by rw [ho]; exact hmay)]; exact checkOp1_no k a v hb Bp Bf w hc H
        | true => rw [hmay] at H; rw [opS_yes hb (by rw [ho]; exact hmay) h13]; exact checkOp1_yes k a v hb hn Bp Bf w hc H
      · rw [ho] at hc
        have H : ∀ u, Kept w u → Calls Tryd.prog 48 #[.int .i64 a, .pointer (some ⟨Bf, 0, none⟩)] u fun e u' => e = .returned (.bool (mayB p f 2 a)) ∧ Kept u u' := fun u hu => (may2_any a f.locals Bf u (hu.cell hm.cl)).mono fun e u' ⟨h1, h2⟩ => ⟨h1, h2 ▸ Kept.refl _⟩
        cases hmay : mayB p f 2 a with
        | false => rw [hmay] at H; rw [opS_no hb (by rw [ho]; exact hmay)]; exact checkOp2_no k a v hb Bp Bf w hc H
        | true => rw [hmay] at H; rw [opS_yes hb (by rw [ho]; exact hmay) h13]; exact checkOp2_yes k a v hb hn Bp Bf w hc H
      · rw [ho] at hc
        have H : ∀ u, Kept w u → Calls Tryd.prog 49 #[.int .i64 a, .pointer (some ⟨Bf, 0, none⟩)] u fun e u' => e = .returned (.bool (mayB p f 3 a)) ∧ Kept u u' := fun u hu => (may3_any a Bf oa f.code.length cap u (hu.cell hcc)).mono fun e u' ⟨h1, h2⟩ => ⟨h1, h2 ▸ Kept.refl _⟩
        cases hmay : mayB p f 3 a with
        | false => rw [hmay] at H; rw [opS_no hb (by rw [ho]; exact hmay)]; exact checkOp3_no k a v hb Bp Bf w hc H
        | true => rw [hmay] at H; rw [opS_yes hb (by rw [ho]; exact hmay) h13]; exact checkOp3_yes k a v hb hn Bp Bf w hc H
      · rw [ho] at hc
        have H : ∀ u, Kept w u → Calls Tryd.prog 50 #[.int .i64 a, .pointer (some ⟨Bp, 0, none⟩)] u fun e u' => e = .returned (.bool (mayB p f 4 a)) ∧ Kept u u' := fun u hu => may4_any p v a Bp u (hu.cell hm.cp) (hm.prog.kept hu)
        cases hmay : mayB p f 4 a with
        | false => rw [hmay] at H; rw [opS_no hb (by rw [ho]; exact hmay)]; exact checkOp4_no k a v hb Bp Bf w hc H
        | true => rw [hmay] at H; rw [opS_yes hb (by rw [ho]; exact hmay) h13]; exact checkOp4_yes k a v hb hn Bp Bf w hc H
  · have e : opS p f (kd, a) = 4 := by unfold opS; rw [if_neg h]
    rw [e]
    exact checkOp_bad kd a v Bp Bf w (ixB_false h)
theorem check_none (f : Int) (oa : Option Addr) (n cap : Nat) (w : World) (h : ixB f n = false) :
    Calls Tryd.prog 27 #[.slice oa n cap, .int .i64 f] w fun e w' => e = .returned (.int .i64 5) ∧ Kept w w' := by
  go_enter Tryd.func27, Tryd.ntmps27
  go_wp2_with (go_at_call 35; refine (isIndex_any _ _ _).mono ?_; rintro e w' ⟨rfl, rfl⟩)
  go_ret
  exact ⟨rfl, Kept.refl _⟩
theorem check_many (i b o n cap : Nat) (oc : Option Addr) (m cc : Nat) (w : World) (hi : i < n) (c2 : w.cell? ⟨b, o + i * 3 + 2, none⟩ = some (.slice oc m cc)) (hm : 24 < (m : Int)) :
    Calls Tryd.prog 27 #[.slice (some ⟨b, o, none⟩) n cap, .int .i64 i] w fun e w' => e = .returned (.int .i64 2) ∧ Kept w w' := by
  have h : ixB i n = true := ixB_true (by omega) (by omega)
  go_enter Tryd.func27, Tryd.ntmps27
  go_wp2_with (go_at_call 35; refine (isIndex_any _ _ _).mono ?_; rintro e w' ⟨rfl, rfl⟩)
  go_ret
  exact ⟨rfl, Kept.refl _⟩
theorem check_range (i b o n cap : Nat) (ar lo : Int) (oc : Option Addr) (m cc : Nat) (w : World) (hi : i < n) (c0 : w.cell? ⟨b, o + i * 3, none⟩ = some (.int .i64 ar)) (c1 : w.cell? ⟨b, o + i * 3 + 1, none⟩ = some (.int .i64 lo))
    (c2 : w.cell? ⟨b, o + i * 3 + 2, none⟩ = some (.slice oc m cc)) (hm : ¬ 24 < (m : Int)) (hr : roomB ar lo = false) :
    Calls Tryd.prog 27 #[.slice (some ⟨b, o, none⟩) n cap, .int .i64 i] w fun e w' => e = .returned (.int .i64 3) ∧ Kept w w' := by
  have h : ixB i n = true := ixB_true (by omega) (by omega)
  go_enter Tryd.func27, Tryd.ntmps27
  go_wp2_with (first | (go_at_call 35; refine (isIndex_any _ _ _).mono ?_; rintro e w' ⟨rfl, rfl⟩) | (go_at_call 36; refine (hasRoom_any _ _ _ _).mono ?_; rintro e w' ⟨rfl, rfl⟩))
  go_ret
  exact ⟨rfl, (Kept.refl _).alloc _⟩
theorem opsS_step {p : List Fn} {f : Fn} {c : List (Int × Int)} {k : Nat} {x : Int × Int} (h : c[k]? = some x) : opsS p f (c.drop k) = if opS p f x = 0 then opsS p f (c.drop (k + 1)) else opS p f x := by
  have hk : k < c.length := (List.getElem?_eq_some_iff.1 h).1
  have hx : c[k] = x := (List.getElem?_eq_some_iff.1 h).2
  rw [List.drop_eq_getElem_cons hk, hx]
  rfl
theorem check_ops (p : List Fn) (f : Fn) (i b o cap : Nat) (oc : Option Addr) (m cc : Nat) (w : World) (hk : KindsAt w) (hp : ProgAt w (.slice (some ⟨b, o, none⟩) p.length cap) p) (hi : i < p.length)
    (c0 : w.cell? ⟨b, o + i * 3, none⟩ = some (.int .i64 f.args)) (c1 : w.cell? ⟨b, o + i * 3 + 1, none⟩ = some (.int .i64 f.locals))
    (c2 : w.cell? ⟨b, o + i * 3 + 2, none⟩ = some (.slice oc m cc)) (hc : CodeAt w (.slice oc m cc) f.code) (hml : m = f.code.length) (hm : m ≤ 24) (hr : roomB f.args f.locals = true) :
    Calls Tryd.prog 27 #[.slice (some ⟨b, o, none⟩) p.length cap, .int .i64 i] w fun e w' => e = .returned (.int .i64 (opsS p f f.code)) ∧ Kept w w' := by
  have h : ixB i p.length = true := ixB_true (by omega) (by omega)
  have hm' : ¬ 24 < (m : Int) := by omega
  have HP : Hid (ProgAt w (.slice (some ⟨b, o, none⟩) p.length cap) p) := hp
  have HK : Hid (KindsAt w) := hk
  have HC : Hid (CodeAt w (.slice oc m cc) f.code) := hc
  have HL : Hid (m = f.code.length) := hml
  clear hp hk hc hml
  have d0 : (w.alloc (.cells #[.int .i64 f.args, .int .i64 f.locals, .slice oc m cc] 36)).cell? ⟨b, o + i * 3, none⟩ = some (.int .i64 f.args) := ((Kept.refl w).alloc _).cell c0
  have d1 : (w.alloc (.cells #[.int .i64 f.args, .int .i64 f.locals, .slice oc m cc] 36)).cell? ⟨b, o + i * 3 + 1, none⟩ = some (.int .i64 f.locals) := ((Kept.refl w).alloc _).cell c1
  have d2 : (w.alloc (.cells #[.int .i64 f.args, .int .i64 f.locals, .slice oc m cc] 36)).cell? ⟨b, o + i * 3 + 2, none⟩ = some (.slice oc m cc) := ((Kept.refl w).alloc _).cell c2
  go_enter Tryd.func27, Tryd.ntmps27
  go_wp2_with (first | (go_at_call 35; refine (isIndex_any _ _ _).mono ?_; rintro e w' ⟨rfl, rfl⟩) | (go_at_call 36; refine (hasRoom_any _ _ _ _).mono ?_; rintro e w' ⟨rfl, rfl⟩))
  refine (bounds_any _ _ _ _ _ _ _ _ _).mono ?_
  rintro e w1 ⟨Bp, Bf, he, hbp, hbl, hbc, hbk⟩
  unfold mayV at he
  subst he
  have g2 : ∀ o1, (w1.alloc o1).cell? ⟨b, o + i * 3 + 2, none⟩ = some (.slice oc m cc) := fun o1 => ((Kept.refl w1).alloc _).cell (hbk.cell d2)
  have HB : Hid (Kept w w1) := Kept.trans ((Kept.refl w).alloc _) hbk
  have HM : Hid (MayAt w1 p f (.slice (some ⟨b, o, none⟩) p.length cap) Bp Bf) := ⟨HP.out.kept HB.out, hbp, hbl, ⟨oc, cc, by rw [← HL.out]; exact hbc⟩⟩
  clear d0 d1 d2 hbp hbl hbc hbk c0 c1 c2
  go_wp2
  generalize hW0 : w1.alloc (.cells #[.func (.func 46) #[] #[], .func (.func 47) #[] #[], .func (.func 48) #[] #[.pointer (some ⟨Bf, 0, none⟩)], .func (.func 49) #[] #[.pointer (some ⟨Bf, 0, none⟩)], .func (.func 50) #[] #[.pointer (some ⟨Bp, 0, none⟩)]] 63) = W0
  have HW : Hid (∀ u, Kept W0 u → ∀ j v, (#[Value.func (.func 46) #[] #[], .func (.func 47) #[] #[], .func (.func 48) #[] #[.pointer (some ⟨Bf, 0, none⟩)], .func (.func 49) #[] #[.pointer (some ⟨Bf, 0, none⟩)], .func (.func 50) #[] #[.pointer (some ⟨Bp, 0, none⟩)]])[j]? = some v → u.cell? ⟨w1.heap.size, j, none⟩ = some v) := by
    intro u hu j v hv
    refine hu.cell ?_
    rw [← hW0]
    exact (cell_lays (lays_new rfl) j).trans hv
  have H0 : Hid (Kept w1 W0) := by rw [← hW0]; exact (Kept.refl _).alloc _
  clear hW0 g2
  go_loopw [39] (fun i wr => ∃ k : Nat, k ≤ m ∧ i = .int .i64 k ∧ Hid (opsS p f (f.code.drop k) = opsS p f f.code) ∧ Hid (Kept W0 wr)) (fun i _ => m - (intOf i).toNat)
  case atStart => exact ⟨0, Nat.zero_le _, rfl, rfl, Kept.refl _⟩
  case round =>
    obtain ⟨k, hkm, rfl, HO, HKW⟩ := hrel
    by_cases hlt : k < m
    · obtain ⟨x, hx⟩ : ∃ x, f.code[k]? = some x := ⟨f.code[k]'(by rw [← HL.out]; exact hlt), List.getElem?_eq_getElem _⟩
      have hKr : Kept w wr := HB.out.trans (H0.out.trans HKW.out)
      obtain ⟨oa', cap', he, _, hcell⟩ := HC.out.kept hKr
      obtain ⟨b', o', rfl, x0, x1⟩ := hcell k x hx
      obtain ⟨rfl, -, -⟩ := (by simpa using he : oc = some ⟨b', o', none⟩ ∧ m = f.code.length ∧ cc = cap')
      have HX : Hid (f.code[k]? = some x) := hx
      have HKr : Hid (Kept w wr) := hKr
      have e0 := HW.out _ (HKW.out.alloc (.cells #[.int .i64 x.1, .int .i64 x.2] 38)) 0 _ rfl
      have e1 := HW.out _ (HKW.out.alloc (.cells #[.int .i64 x.1, .int .i64 x.2] 38)) 1 _ rfl
      have e2 := HW.out _ (HKW.out.alloc (.cells #[.int .i64 x.1, .int .i64 x.2] 38)) 2 _ rfl
      have e3 := HW.out _ (HKW.out.alloc (.cells #[.int .i64 x.1, .int .i64 x.2] 38)) 3 _ rfl
      have e4 := HW.out _ (HKW.out.alloc (.cells #[.int .i64 x.1, .int .i64 x.2] 38)) 4 _ rfl
      clear hcell he hx hKr
      have hck := checkOp_any p f (.slice (some ⟨b, o, none⟩) p.length cap) x.1 x.2 Bp Bf (wr.alloc (.cells #[.int .i64 x.1, .int .i64 x.2] 38)) (HK.out.kept (HKr.out.alloc _)) (HM.out.kept ((H0.out.trans HKW.out).alloc _))
      unfold mayV at hck
      have HCK := hide hck
      clear hck
      have hst := opsS_step (p := p) (f := f) HX.out
      go_wp2_with fail
      refine (unhide HCK).mono ?_
      clear HCK
      rintro e w2 ⟨he, hk2⟩
      by_cases hz : opS p f x = 0
      · rw [if_pos hz] at hst
        rw [show opS p f (x.1, x.2) = 0 from hz] at he
        subst he
        have HST := hide hst
        have HK2 : Hid (Kept W0 w2) := Kept.trans (HKW.out.alloc _) hk2
        clear hst hz hk2
        go_wp2
        go_roundw
        case rel => exact ⟨k + 1, by omega, by go_num, (unhide HST).symm.trans HO.out, HK2⟩
        case measure => simp [intOf]; omega
      · rw [if_neg hz] at hst
        have hz' : (opS p f (x.1, x.2) != 0) = true := by rw [bne_iff_ne]; exact hz
        have HST := hide hst
        have HK2 : Hid (Kept w w2) := Kept.trans (HKr.out.alloc _) hk2
        clear hst hz hk2
        subst he
        go_wp2
        go_ret
        exact ⟨by rw [← HO.out, unhide HST]; rfl, HK2⟩
    · have hke : k = f.code.length := by have := HL.out; omega
      have HE := hide hke
      clear hke
      go_wp2
      go_ret
      refine ⟨?_, HB.out.trans (H0.out.trans HKW.out)⟩
      rw [← HO.out, unhide HE, List.drop_length]
      rfl
theorem check_any (p : List Fn) (v : Value) (f : Int) (w : World) (hp : ProgAt w v p) (hk : KindsAt w) :
    Calls Tryd.prog 27 #[v, .int .i64 f] w fun e w' => e = .returned (.int .i64 (chkS p f)) ∧ Kept w w' := by
  have hp0 := hp
  obtain ⟨oa, cap, rfl, hl, hi⟩ := hp
  unfold chkS
  by_cases h : 0 ≤ f ∧ f < p.length
  · rw [if_pos h]
    obtain ⟨i, rfl⟩ := Int.eq_ofNat_of_zero_le h.1
    obtain ⟨b, o, cv, rfl, c0, c1, c2, hc⟩ := hi i _ (getD_of_lt p i Fn.zero (by omega))
    have hc0 := hc
    obtain ⟨oc, cc, rfl, _, _⟩ := hc
    rw [Int.toNat_natCast]
    generalize p.getD i Fn.zero = g at *
    by_cases hm : 24 < g.code.length
    · simp only [if_pos hm]
      exact check_many i b o p.length cap oc _ cc w (by omega) c2 (by omega)
    · simp only [if_neg hm]
      cases hr : roomB g.args g.locals with
      | false =>
        rw [if_neg (by decide)]
        exact check_range i b o p.length cap _ _ oc _ cc w (by omega) c0 c1 c2 (by omega) hr
      | true =>
        rw [if_pos rfl]
        exact check_ops p g i b o cap oc _ cc w hk hp0 (by omega) c0 c1 c2 hc0 rfl (by omega) hr
  · rw [if_neg h]
    exact check_none f oa p.length cap w (ixB_false h)
theorem effect_bad (kd a : Int) (v : Value) (w : World) (h : ixB kd 17 = false) :
    Calls Tryd.prog 51 #[v, .agg #[.int .i64 kd, .int .i64 a]] w fun e w' => e = .returned (.tuple #[.int .i64 0, .int .i64 0, .int .i64 4]) ∧ Kept w w' := by
  go_enter Tryd.func51, Tryd.ntmps51
  go_wp2_with (go_at_call 35; refine (isIndex_any _ _ _).mono ?_; rintro e w' ⟨rfl, rfl⟩)
  go_ret3
  exact ⟨rfl, (Kept.refl _).alloc _⟩
theorem effect_plain (k : Nat) (a : Int) (v : Value) (w : World) (hk : KindsAt w) (h : ixB k 17 = true) (hn : ((k : Int) != 11) = true) :
    Calls Tryd.prog 51 #[v, .agg #[.int .i64 k, .int .i64 a]] w fun e w' => e = .returned (.tuple #[.int .i64 (tk k), .int .i64 (lv k), .int .i64 0]) ∧ Kept w w' := by
  have hb : k < 17 := by rw [ixB_iff] at h; omega
  have c0 : (w.alloc (.cells #[.int .i64 k, .int .i64 a] 38)).cell? ⟨0, k * 3, none⟩ = some (.int .i64 (tk k)) := (Kept.alloc (Kept.refl w) _).cell (hk (k * 3) (by omega))
  have c1 : (w.alloc (.cells #[.int .i64 k, .int .i64 a] 38)).cell? ⟨0, k * 3 + 1, none⟩ = some (.int .i64 (lv k)) := (Kept.alloc (Kept.refl w) _).cell (hk (k * 3 + 1) (by omega))
  have c2 : (w.alloc (.cells #[.int .i64 k, .int .i64 a] 38)).cell? ⟨0, k * 3 + 2, none⟩ = some (.int .i64 (opd k)) := (Kept.alloc (Kept.refl w) _).cell (hk (k * 3 + 2) (by omega))
  clear hk
  go_enter Tryd.func51, Tryd.ntmps51
  go_wp2_with (go_at_call 35; refine (isIndex_any _ _ _).mono ?_; rintro e w' ⟨rfl, rfl⟩)
  go_quiet (fail)
  go_wp2
  go_ret3
  exact ⟨rfl, (((Kept.refl _).alloc _).alloc _).drewN _⟩
theorem effect_none (a : Int) (oa : Option Addr) (n cap : Nat) (w : World) (hk : KindsAt w) (ha : ixB a n = false) :
    Calls Tryd.prog 51 #[.slice oa n cap, .agg #[.int .i64 11, .int .i64 a]] w fun e w' => e = .returned (.tuple #[.int .i64 0, .int .i64 0, .int .i64 5]) ∧ Kept w w' := by
  have h : ixB 11 17 = true := rfl
  have c0 : (w.alloc (.cells #[.int .i64 11, .int .i64 a] 38)).cell? ⟨0, 33, none⟩ = some (.int .i64 (tk 11)) := (Kept.alloc (Kept.refl w) _).cell (hk 33 (by omega))
  have c1 : (w.alloc (.cells #[.int .i64 11, .int .i64 a] 38)).cell? ⟨0, 34, none⟩ = some (.int .i64 (lv 11)) := (Kept.alloc (Kept.refl w) _).cell (hk 34 (by omega))
  have c2 : (w.alloc (.cells #[.int .i64 11, .int .i64 a] 38)).cell? ⟨0, 35, none⟩ = some (.int .i64 (opd 11)) := (Kept.alloc (Kept.refl w) _).cell (hk 35 (by omega))
  clear hk
  go_enter Tryd.func51, Tryd.ntmps51
  go_wp2_with (go_at_call 35; refine (isIndex_any _ _ _).mono ?_; rintro e w' ⟨rfl, rfl⟩)
  go_ret3
  exact ⟨rfl, (((Kept.refl _).alloc _).alloc _)⟩
theorem effect_call (i b o n cap : Nat) (r : Int) (w : World) (hk : KindsAt w) (hi : i < n) (hc : w.cell? ⟨b, o + i * 3, none⟩ = some (.int .i64 r)) :
    Calls Tryd.prog 51 #[.slice (some ⟨b, o, none⟩) n cap, .agg #[.int .i64 11, .int .i64 i]] w fun e w' => e = .returned (.tuple #[.int .i64 r, .int .i64 1, .int .i64 0]) ∧ Kept w w' := by
  have h : ixB 11 17 = true := rfl
  have ha : ixB i n = true := ixB_true (by omega) (by omega)
  have c0 : (w.alloc (.cells #[.int .i64 11, .int .i64 i] 38)).cell? ⟨0, 33, none⟩ = some (.int .i64 0) := (Kept.alloc (Kept.refl w) _).cell (hk 33 (by omega))
  have c1 : (w.alloc (.cells #[.int .i64 11, .int .i64 i] 38)).cell? ⟨0, 34, none⟩ = some (.int .i64 1) := (Kept.alloc (Kept.refl w) _).cell (hk 34 (by omega))
  have c2 : (w.alloc (.cells #[.int .i64 11, .int .i64 i] 38)).cell? ⟨0, 35, none⟩ = some (.int .i64 4) := (Kept.alloc (Kept.refl w) _).cell (hk 35 (by omega))
  have c3 : ((w.alloc (.cells #[.int .i64 11, .int .i64 i] 38)).alloc (.cells #[.int .i64 0, .int .i64 1, .int .i64 4] 77)).cell? ⟨b, o + i * 3, none⟩ = some (.int .i64 r) := (((Kept.refl w).alloc _).alloc _).cell hc
  clear hk hc
  go_enter Tryd.func51, Tryd.ntmps51
  go_wp2_with (go_at_call 35; refine (isIndex_any _ _ _).mono ?_; rintro e w' ⟨rfl, rfl⟩)
  go_quiet (fail)
  go_wp2
  go_ret3
  exact ⟨rfl, (((Kept.refl _).alloc _).alloc _).drewN _⟩
theorem effect_any (p : List Fn) (v : Value) (kd a : Int) (w : World) (hp : ProgAt w v p) (hk : KindsAt w) :
    Calls Tryd.prog 51 #[v, .agg #[.int .i64 kd, .int .i64 a]] w fun e w' => e = .returned (.tuple #[.int .i64 (effS p kd a).1, .int .i64 (effS p kd a).2.1, .int .i64 (effS p kd a).2.2]) ∧ Kept w w' := by
  unfold effS
  by_cases h : 0 ≤ kd ∧ kd < 17
  · rw [if_pos h]
    by_cases h11 : kd = 11
    · rw [if_pos h11]
      subst h11
      obtain ⟨oa, cap, rfl, hl, hi⟩ := hp
      by_cases ha : 0 ≤ a ∧ a < p.length
      · rw [if_pos ha]
        obtain ⟨i, rfl⟩ := Int.eq_ofNat_of_zero_le ha.1
        obtain ⟨b, o, cv, rfl, c0, _⟩ := hi i _ (getD_of_lt p i Fn.zero (by omega))
        rw [Int.toNat_natCast]
        exact effect_call i b o p.length cap _ w hk (by omega) c0
      · rw [if_neg ha]
        exact effect_none a oa p.length cap w hk (ixB_false ha)
    · rw [if_neg h11]
      obtain ⟨k, rfl⟩ := Int.eq_ofNat_of_zero_le h.1
      rw [Int.toNat_natCast]
      exact effect_plain k a v w hk (ixB_true h.1 h.2) (by rw [bne_iff_ne]; exact h11)
  · rw [if_neg h]
    exact effect_bad kd a v w (ixB_false h)
theorem o_any (k a : Int) (w : World) :
    Calls Tryd.prog 33 #[.int .i64 k, .int .i64 a] w fun e w' => e = .returned (.agg #[.int .i64 k, .int .i64 a]) ∧ w' = w.alloc (.cells #[.int .i64 k, .int .i64 a] 38) := by
  go_enter Tryd.func33, Tryd.ntmps33
  go_wp2
  exact bodyPost_ret (v := .agg #[.int .i64 k, .int .i64 a]) (by simp [results, Tryd.results33, go_sem]) rfl ⟨rfl, rfl⟩
theorem count_any (w : World) :
    Calls Tryd.prog 26 #[] w fun e w' => ∃ v, e = .returned v ∧ CountAt w.heap.size w' v ∧ Kept w w' := by
  go_enter Tryd.func26, Tryd.ntmps26
  go_wp2_with (go_at_call 33; refine (o_any _ _ _).mono ?_; rintro e w' ⟨rfl, rfl⟩)
  go_ret
  refine ⟨_, rfl, ⟨w.heap.size + 14, w.heap.size + 27, w.heap.size + 32, w.heap.size + 33, by omega, by omega, by omega, by omega, rfl, ?_, ?_, ?_, ?_⟩, ?_⟩
  · repeat (first | exact lays_new (by simp) | refine lays_alloc ?_ _)
  · repeat (first | exact lays_new (by simp) | refine lays_alloc ?_ _)
  · repeat (first | exact lays_new (by simp) | refine lays_alloc ?_ _)
  · repeat (first | exact lays_new (by simp) | refine lays_alloc ?_ _)
  · repeat (refine Kept.alloc ?_ _)
    exact Kept.refl _
theorem effect_is (p : List Fn) (v : Value) (kd a r1 r2 r3 : Int) (w : World) (hp : ProgAt w v p) (hk : KindsAt w) (h : effS p kd a = (r1, r2, r3)) :
    Calls Tryd.prog 51 #[v, .agg #[.int .i64 kd, .int .i64 a]] w fun e w' => e = .returned (.tuple #[.int .i64 r1, .int .i64 r2, .int .i64 r3]) ∧ Kept w w' := by
  have := effect_any p v kd a w hp hk
  rw [h] at this
  exact this
theorem check_is (p : List Fn) (v : Value) (f r : Int) (w : World) (hp : ProgAt w v p) (hk : KindsAt w) (h : chkS p f = r) :
    Calls Tryd.prog 27 #[v, .int .i64 f] w fun e w' => e = .returned (.int .i64 r) ∧ Kept w w' := by
  have := check_any p v f w hp hk
  rw [h] at this
  exact this
theorem nilProg (w : World) : ProgAt w (.slice none 0 0) [] := ⟨none, 0, rfl, by simp, fun i f h => by simp at h⟩
def cntX : List Fn := [⟨0, 1, (13, 2) :: cnt0.tail⟩, ⟨1, 1, cnt1⟩, ⟨2, 2, cnt2⟩]
theorem CountAt.kept {n0 : Nat} {w w' : World} {v : Value} (h : CountAt n0 w v) (k : Kept w w') : CountAt n0 w' v := by
  obtain ⟨b0, b1, b2, b, h1, h2, h3, h4, rfl, g0, g1, g2, g3⟩ := h
  exact ⟨b0, b1, b2, b, h1, h2, h3, h4, rfl, lays_kept k g0, lays_kept k g1, lays_kept k g2, lays_kept k g3⟩
theorem CountAt.opened {n0 : Nat} {w : World} {v : Value} (h : CountAt n0 w v) : ∃ b b0, n0 ≤ b0 ∧ v = .slice (some ⟨b, 0, none⟩) 3 3 ∧ w.cell? ⟨b, 2, none⟩ = some (.slice (some ⟨b0, 0, none⟩) 14 14) ∧
    w.cell? ⟨b0, 1, none⟩ = some (.int .i64 1) ∧ w.frozen? ⟨b0, 1, none⟩ = false ∧ ProgAt (w.setCell ⟨b0, 1, none⟩ (.int .i64 2)) (.slice (some ⟨b, 0, none⟩) 3 3) cntX := by
  obtain ⟨b0, b1, b2, b, h1, h2, h3, h4, rfl, g0, g1, g2, g3⟩ := h
  refine ⟨b, b0, h1, rfl, cell_lays g3 2, cell_lays g0 1, frozen_lays g0 1, ?_⟩
  refine progAt_block (lays_other g3 (by simp; omega) _) [(⟨0, 1, (13, 2) :: cnt0.tail⟩, .slice (some ⟨b0, 0, none⟩) 14 14), (⟨1, 1, cnt1⟩, .slice (some ⟨b1, 0, none⟩) 12 12), (⟨2, 2, cnt2⟩, .slice (some ⟨b2, 0, none⟩) 4 4)] rfl (by simp) ?_ 3 3 rfl cntX rfl
  intro x hx
  simp only [List.mem_cons, List.not_mem_nil, or_false] at hx
  rcases hx with rfl | rfl | rfl
  · exact codeAt_block (lays_set g0 1 _) ((13, 2) :: cnt0.tail) rfl (by decide) 14 14 rfl
  · exact codeAt_block (lays_other g1 (by simp; omega) _) cnt1 rfl (by decide) 12 12 rfl
  · exact codeAt_block (lays_other g2 (by simp; omega) _) cnt2 rfl (by decide) 4 4 rfl
def BehPost (p : List Fn) (x : Int × Int) (h : Int) (w : World) (e : Ending) (w' : World) : Prop :=
  ∃ r, e = .returned (.tuple #[.int .i64 r, .bool (beh p x h).isSome]) ∧ (∀ m, beh p x h = some m → r = m) ∧ Kept w w'
theorem behind_any (p : List Fn) (g : Fn) (vp : Value) (oc oh : Option Addr) (lc cc lh ch : Nat) (x : Int × Int) (h : Int) (w : World) (hp : ProgAt w vp p) (hk : KindsAt w) (hx : opS p g x = 0) (h0 : 0 ≤ h) (h8 : h ≤ 8) :
    Calls Tryd.prog 44 #[.agg #[vp, .slice oc lc cc, .slice oh lh ch], .agg #[.int .i64 x.1, .int .i64 x.2], .int .i64 h] w fun e w' => BehPost p x h w e w' := by
  obtain ⟨oa, cap, rfl, _, _⟩ := id hp
  have hef : ∃ ta lb, effS p x.1 x.2 = (ta, lb, 0) ∧ 0 ≤ ta ∧ ta ≤ 4 ∧ 0 ≤ lb ∧ lb ≤ 1 := by
    by_cases h11 : x.1 = 11
    · obtain ⟨_, _, h3, h4⟩ := effS_call hx h11
      refine ⟨_, _, h4, h3, ?_, by decide, by decide⟩
      obtain ⟨_, _, hm⟩ := opS_kind hx
      rw [h11] at hm
      have := (mayB4 (show mayB p g 4 x.2 = true from hm)).2.2
      rw [roomB_iff] at this
      omega
    · obtain ⟨ta, lb, h1, h2, h3, h4, h5⟩ := effS_plain hx h11
      exact ⟨ta, lb, h1, h2, by omega, h4, h5⟩
  obtain ⟨ta, lb, he, t0, t4, l0, l1⟩ := hef
  have hb : beh p x h = if ta ≤ h ∧ ¬ (x.1 = 12 ∧ 1 < h) ∧ h - ta + lb ≤ 8 then some (h - ta + lb) else none := by
    unfold beh; rw [he]; simp
  have HB := hide hb
  have HE := hide he
  have HP := hide hp
  have HK := hide hk
  clear he hp hk hb hx
  go_enter Tryd.func44, Tryd.ntmps44
  go_wp2_with fail
  refine (effect_is p _ x.1 x.2 ta lb 0 _ ((unhide HP).kept (((Kept.refl _).alloc _).alloc _)) ((unhide HK).kept (((Kept.refl _).alloc _).alloc _)) (unhide HE)).mono ?_
  rintro e w1 ⟨rfl, hk1⟩
  have q0 := hk1.cell (cell_lays (t := 38) (fr := (0, 0)) (b := w.heap.size + 1) (c := #[.int .i64 x.1, .int .i64 x.2]) (lays_new (by simp)) 0)
  have H1 : Hid (Kept w w1) := (((Kept.refl _).alloc _).alloc _).trans hk1
  clear hk1
  by_cases c1 : h < ta
  · go_wp2
    go_ret2
    have hb := unhide HB
    rw [if_neg (by omega)] at hb
    exact ⟨0, by rw [hb]; rfl, (fun m hm => by rw [hb] at hm; cases hm), H1⟩
  · by_cases c2 : x.1 = 12
    · have c2' : (x.1 == 12) = true := beq_iff_eq.2 c2
      have C2 := hide c2
      clear c2
      by_cases c3 : 1 < h
      · go_wp2
        go_ret2
        have c2 := unhide C2
        have hb := unhide HB
        rw [if_neg (by omega)] at hb
        exact ⟨0, by rw [hb]; rfl, (fun m hm => by rw [hb] at hm; cases hm), H1⟩
      · go_wp2
        go_ret2
        have hb := unhide HB
        refine ⟨h - ta + lb, ?_, fun m hm => ?_, H1⟩
        · by_cases c4 : h - ta + lb ≤ 8
          · rw [hb, if_pos (by omega)]; simp [c4]
          · rw [hb, if_neg (by omega)]; simp [c4]
        · rw [hb] at hm
          split at hm
          · simpa using hm
          · cases hm
    · have c2' : (x.1 == 12) = false := beq_eq_false_iff_ne.2 c2
      have C2 := hide c2
      clear c2
      go_wp2
      go_ret2
      have c2 := unhide C2
      have hb := unhide HB
      refine ⟨h - ta + lb, ?_, fun m hm => ?_, H1⟩
      · by_cases c4 : h - ta + lb ≤ 8
        · rw [hb, if_pos (by omega)]; simp [c4]
        · rw [hb, if_neg (by omega)]; simp [c4]
      · rw [hb] at hm
        split at hm
        · simpa using hm
        · cases hm
theorem following_any (kd a at_ : Int) (w : World) :
    Calls Tryd.prog 45 #[.agg #[.int .i64 kd, .int .i64 a], .int .i64 at_] w fun e w' =>
      e = .returned (.func (.func 52) #[] #[.pointer (some ⟨w.heap.size, 0, none⟩), .pointer (some ⟨w.heap.size + 1, 0, none⟩)]) ∧ w' = (w.alloc (.cells #[.int .i64 kd, .int .i64 a] 38)).alloc (.cells #[.int .i64 at_] 3) := by
  go_enter Tryd.func45, Tryd.ntmps45
  go_wp2
  go_ret
  exact ⟨rfl, rfl⟩
open Go.RowKit Go.Shelf
attribute [local go_sem] Oper.semAt_some
def KpAt (Ba : Nat) (W W' : World) : Prop := W'.cell? ⟨Ba, 0, none⟩ = W.cell? ⟨Ba, 0, none⟩
def SAll (l xs : List Nat) : Prop := xs = l
def SPre (l pre : List Nat) : Prop := ∃ r, pre ++ r = l
theorem following_stops (n Bx Ba : Nat) (kd a : Int) (at_ : Nat) (w0 : World) (hn : 1 ≤ n) (c0 : w0.cell? ⟨Bx, 0, none⟩ = some (.int .i64 kd)) (c1 : w0.cell? ⟨Bx, 1, none⟩ = some (.int .i64 a)) (c2 : w0.cell? ⟨Ba, 0, none⟩ = some (.int .i64 at_))
    (hA : kd = 9 ∨ kd = 10 → 0 ≤ a) (hat : at_ ≤ 8796093022208) :
    SeqStopsK Fence.wide n Tryd.prog 52 #[.pointer (some ⟨Bx, 0, none⟩), .pointer (some ⟨Ba, 0, none⟩)] (fun j : Nat => #[Value.int .i64 j]) (KpAt Ba) (SAll (nexts (kd, a) at_)) (SPre (nexts (kd, a) at_)) 2 w0 := fun l J Jx W hW _ _ hY h0 => by
  have hK : Kept w0 W := hW
  have d0 := hK.cell c0
  have d1 := hK.cell c1
  have d2 := hK.cell c2
  clear hK hW c0 c1 c2
  obtain ⟨L, hL⟩ : ∃ L, nexts (kd, a) at_ = L := ⟨_, rfl⟩
  have HL := hide hL
  rw [hL]
  clear hL
  refine callsIn_of_wp Tryd.func52 rfl trivial ?_ rfl
  simp only [Tryd.ntmps52, List.size_toArray, List.length_cons, List.length_nil, Nat.reduceAdd, Nat.reduceSub, Array.replicate_succ, Array.replicate_zero, List.push_toArray, List.append_toArray, List.nil_append, List.cons_append]
  by_cases h12 : kd = 12
  · subst h12
    gi_wp2
    go_end0
    refine ⟨⟨_, rfl⟩, .inl ⟨[], ?_, h0⟩⟩
    rw [← unhide HL]; rfl
  · have g12 : (kd == 12) = false := beq_eq_false_iff_ne.2 h12
    have N12 := hide h12
    clear h12
    by_cases h9 : kd = 9
    · subst h9
      obtain ⟨j, rfl⟩ := Int.eq_ofNat_of_zero_le (hA (.inl rfl))
      obtain ⟨f1, t1, a1, b1, hy1, hR1⟩ := hY [] j W h0 (by simp)
      dsimp only at hy1
      gi_wp2
      refine hR1.mono ?_
      rintro e W1 (⟨rfl, hJ1, _⟩ | ⟨rfl, hx1⟩)
      · gi_wp2
        go_end0
        refine ⟨⟨_, rfl⟩, .inl ⟨[j], ?_, hJ1⟩⟩
        rw [← unhide HL]; rfl
      · gi_wp2
        go_end0
        refine ⟨⟨_, rfl⟩, .inr ⟨[j], ⟨[], ?_⟩, hx1⟩⟩
        rw [← unhide HL]; rfl
    · have g9 : (kd == 9) = false := beq_eq_false_iff_ne.2 h9
      have N9 := hide h9
      clear h9
      by_cases h10 : kd = 10
      · subst h10
        obtain ⟨j, rfl⟩ := Int.eq_ofNat_of_zero_le (hA (.inr rfl))
        obtain ⟨f1, t1, a1, b1, hy1, hR1⟩ := hY [] j W h0 (by simp)
        dsimp only at hy1
        gi_wp2
        refine hR1.mono ?_
        rintro e W1 (⟨rfl, hJ1, hk1⟩ | ⟨rfl, hx1⟩)
        · have d3 : W1.cell? ⟨Ba, 0, none⟩ = some (.int .i64 at_) := Eq.trans hk1 d2
          obtain ⟨f2, t2, a2, b2, hy2, hR2⟩ := hY [j] (at_ + 1) W1 hJ1 (by simp)
          rw [show ((at_ + 1 : Nat) : Int) = (at_ : Int) + 1 from by omega] at hy2
          clear hk1
          gi_wp2
          refine hR2.mono ?_
          rintro e W2 (⟨rfl, hJ2, _⟩ | ⟨rfl, hx2⟩)
          · gi_wp2
            go_end0
            refine ⟨⟨_, rfl⟩, .inl ⟨[j, at_ + 1], ?_, hJ2⟩⟩
            rw [← unhide HL]; rfl
          · gi_wp2
            go_end0
            refine ⟨⟨_, rfl⟩, .inr ⟨[j, at_ + 1], ⟨[], ?_⟩, hx2⟩⟩
            rw [← unhide HL]; rfl
        · gi_wp2
          go_end0
          refine ⟨⟨_, rfl⟩, .inr ⟨[j], ⟨[at_ + 1], ?_⟩, hx1⟩⟩
          rw [← unhide HL]; rfl
      · have g10 : (kd == 10) = false := beq_eq_false_iff_ne.2 h10
        have hl : nexts (kd, a) at_ = [at_ + 1] := by
          unfold nexts
          rw [if_neg (unhide N12), if_neg (unhide N9), if_neg h10]
        have HM := hide hl
        clear h10 hl
        obtain ⟨f1, t1, a1, b1, hy1, hR1⟩ := hY [] (at_ + 1) W h0 (by simp)
        dsimp only at hy1
        rw [show ((at_ + 1 : Nat) : Int) = (at_ : Int) + 1 from by omega] at hy1
        gi_wp2
        refine hR1.mono ?_
        rintro e W1 (⟨rfl, hJ1, _⟩ | ⟨rfl, hx1⟩)
        · gi_wp2
          go_end0
          refine ⟨⟨_, rfl⟩, .inl ⟨[at_ + 1], ?_, hJ1⟩⟩
          rw [← unhide HL, unhide HM]; rfl
        · gi_wp2
          go_end0
          refine ⟨⟨_, rfl⟩, .inr ⟨[at_ + 1], ⟨[], ?_⟩, hx1⟩⟩
          rw [← unhide HL, unhide HM]; rfl
def HeightsAt (w : World) (B : Nat) (H : List Int) : Prop := w.heap[B]? = some (.cells (H.map (fun z => Value.int .i64 z)).toArray 3)
theorem HeightsAt.kept {w w' : World} {B : Nat} {H : List Int} (h : HeightsAt w B H) (k : Kept w w') : HeightsAt w' B H := lays_kept k h
theorem HeightsAt.cell {w : World} {B : Nat} {H : List Int} (h : HeightsAt w B H) {k : Nat} (hk : k < H.length) : w.cell? ⟨B, k, none⟩ = some (.int .i64 (H.getD k 0)) := by
  rw [cell_lays h k]; simp [hk, List.getD]
theorem HeightsAt.frozen {w : World} {B : Nat} {H : List Int} (h : HeightsAt w B H) (k : Nat) : w.frozen? ⟨B, k, none⟩ = false := frozen_lays h k
theorem HeightsAt.set {w : World} {B : Nat} {H : List Int} (h : HeightsAt w B H) (k : Nat) (z : Int) : HeightsAt (w.setCell ⟨B, k, none⟩ (.int .i64 z)) B (H.set k z) := by
  unfold HeightsAt at *
  rw [lays_set h k]
  congr 2
  simp [List.map_set]
theorem HeightsAt.lt {w : World} {B : Nat} {H : List Int} (h : HeightsAt w B H) : B < w.heap.size := (Array.getElem?_eq_some_iff.1 h).1
theorem HeightsAt.other {w : World} {B : Nat} {H : List Int} (h : HeightsAt w B H) {p : Addr} (hp : p.block ≠ B) (u : Value) : HeightsAt (w.setCell p u) B H := lays_other h (fun e => hp e.symm) u
structure ComeAt (w0 w : World) (p : List Fn) (g : Fn) (vp vc : Value) (B : Nat) (H : List Int) : Prop where
  prog : ProgAt w0 vp p
  code : CodeAt w0 vc g.code
  kinds : KindsAt w0
  right : ∀ x, x ∈ g.code → opS p g x = 0
  most : g.code.length ≤ 24
  kept : Kept w0 w
  new : w0.heap.size ≤ B
  hs : HeightsAt w B H
  len : H.length = g.code.length
def ComePost (p : List Fn) (g : Fn) (n : Nat) (H : List Int) (at_ : Nat) (h : Int) (B : Nat) (w : World) (e : Ending) (w' : World) : Prop :=
  ∃ b H', comeS p g.code n H at_ h = (b, H') ∧ e = .returned (.bool b) ∧ HeightsAt w' B H' ∧ KeptX B w w'
attribute [local go_sem] Oper.semAt_some
theorem come_beyond (n : Nat) (p : List Fn) (g : Fn) (oa oc : Option Addr) (lp cp lc cc B : Nat) (H : List Int) (at_ : Nat) (h : Int) (w : World) (hH : HeightsAt w B H) (hlc : lc = g.code.length) (hat : ((lc : Int) ≤ at_)) :
    Calls Tryd.prog 34 #[.agg #[.slice oa lp cp, .slice oc lc cc, .slice (some ⟨B, 0, none⟩) lc lc], .int .i64 at_, .int .i64 h] w fun e w' => ComePost p g (n + 1) H at_ h B w e w' := by
  have HL := hide hlc
  have HH := hide hH
  clear hlc hH
  refine (callsIn_wide (n := 9)).1 (callsIn_of_wp_marks Tryd.func34 rfl trivial ?_ rfl)
  refine wpIn_wide.2 ?_
  simp only [Tryd.ntmps34, List.size_toArray, List.length_cons, List.length_nil, Nat.reduceAdd, Nat.reduceSub, Array.replicate_succ, Array.replicate_zero, List.push_toArray, List.append_toArray, List.nil_append, List.cons_append]
  go_wp2
  refine ⟨.bool false, by simp [results, Tryd.results34, go_sem], false, H, ?_, rfl, (unhide HH).kept (((Kept.refl _).alloc _).alloc _), .of (((Kept.refl _).alloc _).alloc _)⟩
  have := unhide HL
  unfold comeS
  rw [if_pos (by omega)]
theorem come_seen (n : Nat) (p : List Fn) (g : Fn) (oa oc : Option Addr) (lp cp lc cc B : Nat) (H : List Int) (at_ : Nat) (h : Int) (w : World) (hH : HeightsAt w B H) (hlc : lc = g.code.length) (hlh : H.length = g.code.length) (hat : ¬ ((lc : Int) ≤ at_)) (hs : H.getD at_ 0 ≠ -1) :
    Calls Tryd.prog 34 #[.agg #[.slice oa lp cp, .slice oc lc cc, .slice (some ⟨B, 0, none⟩) lc lc], .int .i64 at_, .int .i64 h] w fun e w' => ComePost p g (n + 1) H at_ h B w e w' := by
  have q := hH.cell (k := at_) (by omega)
  generalize hz : H.getD at_ 0 = z at *
  have d := (((Kept.refl w).alloc (.cells #[.slice oa lp cp, .slice oc lc cc, .slice (some ⟨B, 0, none⟩) lc lc] 59)).alloc (.cells #[.bool false] 4)).cell q
  have hs' : (z != -1) = true := by rw [bne_iff_ne]; exact hs
  have HS := hide hs
  have HL := hide hlc
  have HZ := hide hz
  have HH := hide hH
  clear hlc hH hz q hs hlh
  refine (callsIn_wide (n := 9)).1 (callsIn_of_wp_marks Tryd.func34 rfl trivial ?_ rfl)
  refine wpIn_wide.2 ?_
  simp only [Tryd.ntmps34, List.size_toArray, List.length_cons, List.length_nil, Nat.reduceAdd, Nat.reduceSub, Array.replicate_succ, Array.replicate_zero, List.push_toArray, List.append_toArray, List.nil_append, List.cons_append]
  go_wp2
  refine ⟨.bool (z == h), by simp [results, Tryd.results34, go_sem], z == h, H, ?_, rfl, (unhide HH).kept (((Kept.refl _).alloc _).alloc _), .of (((Kept.refl _).alloc _).alloc _)⟩
  have := unhide HL
  unfold comeS
  rw [if_neg (by omega), unhide HZ, if_neg (unhide HS)]
  rfl
end Go.Proofs.YtkepbeeioalmbabDoor
