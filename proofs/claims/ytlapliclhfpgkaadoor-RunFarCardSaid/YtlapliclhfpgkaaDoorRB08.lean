/- OpG, Hide, OpH, OpB, Count, OpL0, FlowS, OpM -/
import Derived.Test.YtlapliclhfpgkaaDoorRB02
import Derived.Test.YtlapliclhfpgkaaDoorRB03
import Derived.Test.YtlapliclhfpgkaaDoorRB04
import Derived.Test.YtlapliclhfpgkaaDoorRB05
import Derived.Test.YtlapliclhfpgkaaDoorRB06
import Derived.Test.YtlapliclhfpgkaaDoorRB07
import Derived.Test.YtlapliclhfpgkaaDoorRB01
import Derived.Deep.LoopGhost
import Derived.Test.YtlapliclhfpgkaaDoorChecked
namespace Go.Proofs.YtlapliclhfpgkaaDoor
open Go.RowKit
structure MayAt (w : World) (p : List Fn) (f : Fn) (v : Value) (Bp Bf : Nat) : Prop where
  prog : ProgAt w v p
  cp : w.cell? ⟨Bp, 0, none⟩ = some v
  cl : w.cell? ⟨Bf, 1, none⟩ = some (.int .i64 f.locals)
  cc : ∃ oa cap, w.cell? ⟨Bf, 2, none⟩ = some (.slice oa f.code.length cap)
theorem MayAt.kept {w w' : World} {p : List Fn} {f : Fn} {v : Value} {Bp Bf : Nat} (h : MayAt w p f v Bp Bf) (k : Kept w w') : MayAt w' p f v Bp Bf :=
  ⟨h.prog.kept k, k.cell h.cp, k.cell h.cl, by obtain ⟨oa, cap, hc⟩ := h.cc; exact ⟨oa, cap, k.cell hc⟩⟩
theorem opd_cases (k : Nat) (h : k < 17) : opd k = 0 ∨ opd k = 1 ∨ opd k = 2 ∨ opd k = 3 ∨ opd k = 4 := by
  have : ∀ k : Fin 17, opd k = 0 ∨ opd k = 1 ∨ opd k = 2 ∨ opd k = 3 ∨ opd k = 4 := by decide
  exact this ⟨k, h⟩
theorem opS_no {p : List Fn} {f : Fn} {k : Nat} {a : Int} (h : k < 17) (hm : mayB p f (opd k) a = false) : opS p f (k, a) = 3 := by
  unfold opS
  rw [if_pos ⟨by simp, by simp; omega⟩]
  simp [hm]
theorem opS_yes {p : List Fn} {f : Fn} {k : Nat} {a : Int} (h : k < 17) (hm : mayB p f (opd k) a = true) (hn : k ≠ 13) : opS p f (k, a) = 0 := by
  unfold opS
  rw [if_pos ⟨by simp, by simp; omega⟩]
  have : ¬ ((k : Int) = 13) := by omega
  simp [hm, this]
theorem checkOp_any (p : List Fn) (f : Fn) (v : Value) (kd a : Int) (Bp Bf : Nat) (w : World) (hk : KindsAt w) (hm : MayAt w p f v Bp Bf) :
    Calls Tryd.prog 44 #[v, .agg #[.int .i64 kd, .int .i64 a], mayV Bp Bf] w fun e w' => e = .returned (.int .i64 (opS p f (kd, a))) ∧ Kept w w' := by
  by_cases h : 0 ≤ kd ∧ kd < 17
  · obtain ⟨k, rfl⟩ := Int.eq_ofNat_of_zero_le h.1
    have hb : k < 17 := by omega
    have hc : w.cell? ⟨0, k * 3 + 2, none⟩ = some (.int .i64 (opd k)) := hk (k * 3 + 2) (by omega)
    obtain ⟨oa, cap, hcc⟩ := hm.cc
    by_cases h13 : k = 13
    · subst h13
      have H : ∀ u, Kept w u → Calls Tryd.prog 63 #[.int .i64 a, .pointer (some ⟨Bp, 0, none⟩)] u fun e u' => e = .returned (.bool (mayB p f 4 a)) ∧ Kept u u' := fun u hu => may4_any p v a Bp u (hu.cell hm.cp) (hm.prog.kept hu)
      have ho : opd 13 = 4 := rfl
      rw [ho] at hc
      cases hmay : mayB p f 4 a with
      | false =>
        rw [hmay] at H
        rw [opS_no hb (by rw [ho]; exact hmay)]
        exact checkOp4_no 13 a v hb Bp Bf w hc H
      | true =>
        rw [hmay] at H
        have hx : ixB a p.length = true := by
          have := hmay
          simp only [mayB] at this
          rw [if_neg (by decide), if_neg (by decide), if_neg (by decide), if_neg (by decide), Bool.and_eq_true] at this
          exact this.1
        rw [ixB_iff] at hx
        obtain ⟨i, rfl⟩ := Int.eq_ofNat_of_zero_le hx.1
        obtain ⟨oa', cap', rfl, hl, hi⟩ := hm.prog
        obtain ⟨b, o, cv, rfl, c0, _⟩ := hi i _ (getD_of_lt p i Fn.zero (by omega))
        have e : opS p f (((13 : Nat) : Int), (i : Int)) = if (p.getD i Fn.zero).args ≠ 1 then 1 else 0 := by
          unfold opS
          rw [if_pos ⟨by simp, by simp⟩]
          have ho' : opd ((((13 : Nat) : Int), (i : Int)).1).toNat = 4 := rfl
          rw [ho', hmay, if_pos rfl]
          simp
        rw [e]
        by_cases hr : (p.getD i Fn.zero).args = 1
        · rw [if_neg (by simpa using hr)]
          exact checkOpMake_false i b o p.length cap' _ Bp Bf w hc H (by omega) c0 (by rw [hr]; rfl)
        · rw [if_pos hr]
          exact checkOpMake_true i b o p.length cap' _ Bp Bf w hc H (by omega) c0 (by rw [bne_iff_ne]; exact hr)
    · have hn : ((k : Int) == 13) = false := beq_eq_false_iff_ne.2 (by omega)
      rcases opd_cases k hb with ho | ho | ho | ho | ho
      · rw [ho] at hc
        have H : ∀ u, Kept w u → Calls Tryd.prog 59 #[.int .i64 a] u fun e u' => e = .returned (.bool (mayB p f 0 a)) ∧ Kept u u' := fun u _ => (may0_any a u).mono fun e u' ⟨h1, h2⟩ => ⟨by rw [h1]; simp only [mayB]; rw [if_pos trivial]; rfl, h2 ▸ Kept.refl _⟩
        cases hmay : mayB p f 0 a with
        | false => rw [hmay] at H; rw [opS_no hb (by rw [ho]; exact hmay)]; exact checkOp0_no k a v hb Bp Bf w hc H
        | true => rw [hmay] at H; rw [opS_yes hb (by rw [ho]; exact hmay) h13]; exact checkOp0_yes k a v hb hn Bp Bf w hc H
      · rw [ho] at hc
        have H : ∀ u, Kept w u → Calls Tryd.prog 60 #[.int .i64 a] u fun e u' => e = .returned (.bool (mayB p f 1 a)) ∧ Kept u u' := fun u _ => (may1_any a u).mono fun e u' ⟨h1, h2⟩ => ⟨h1, h2 ▸ Kept.refl _⟩
        cases hmay : mayB p f 1 a with
        | false => rw [hmay] at H; rw [opS_no hb (by rw [ho]; exact hmay)]; exact checkOp1_no k a v hb Bp Bf w hc H
        | true => rw [hmay] at H; rw [opS_yes hb (by rw [ho]; exact hmay) h13]; exact checkOp1_yes k a v hb hn Bp Bf w hc H
      · rw [ho] at hc
        have H : ∀ u, Kept w u → Calls Tryd.prog 61 #[.int .i64 a, .pointer (some ⟨Bf, 0, none⟩)] u fun e u' => e = .returned (.bool (mayB p f 2 a)) ∧ Kept u u' := fun u hu => (may2_any a f.locals Bf u (hu.cell hm.cl)).mono fun e u' ⟨h1, h2⟩ => ⟨h1, h2 ▸ Kept.refl _⟩
        cases hmay : mayB p f 2 a with
        | false => rw [hmay] at H; rw [opS_no hb (by rw [ho]; exact hmay)]; exact checkOp2_no k a v hb Bp Bf w hc H
        | true => rw [hmay] at H; rw [opS_yes hb (by rw [ho]; exact hmay) h13]; exact checkOp2_yes k a v hb hn Bp Bf w hc H
      · rw [ho] at hc
        have H : ∀ u, Kept w u → Calls Tryd.prog 62 #[.int .i64 a, .pointer (some ⟨Bf, 0, none⟩)] u fun e u' => e = .returned (.bool (mayB p f 3 a)) ∧ Kept u u' := fun u hu => (may3_any a Bf oa f.code.length cap u (hu.cell hcc)).mono fun e u' ⟨h1, h2⟩ => ⟨h1, h2 ▸ Kept.refl _⟩
        cases hmay : mayB p f 3 a with
        | false => rw [hmay] at H; rw [opS_no hb (by rw [ho]; exact hmay)]; exact checkOp3_no k a v hb Bp Bf w hc H
        | true => rw [hmay] at H; rw [opS_yes hb (by rw [ho]; exact hmay) h13]; exact checkOp3_yes k a v hb hn Bp Bf w hc H
      · rw [ho] at hc
        have H : ∀ u, Kept w u → Calls Tryd.prog 63 #[.int .i64 a, .pointer (some ⟨Bp, 0, none⟩)] u fun e u' => e = .returned (.bool (mayB p f 4 a)) ∧ Kept u u' := fun u hu => may4_any p v a Bp u (hu.cell hm.cp) (hm.prog.kept hu)
        cases hmay : mayB p f 4 a with
        | false => rw [hmay] at H; rw [opS_no hb (by rw [ho]; exact hmay)]; exact checkOp4_no k a v hb Bp Bf w hc H
        | true => rw [hmay] at H; rw [opS_yes hb (by rw [ho]; exact hmay) h13]; exact checkOp4_yes k a v hb hn Bp Bf w hc H
  · have e : opS p f (kd, a) = 4 := by unfold opS; rw [if_neg h]
    rw [e]
    exact checkOp_bad kd a v Bp Bf w (ixB_false h)
end Go.Proofs.YtlapliclhfpgkaaDoor
namespace Go.Proofs.YtlapliclhfpgkaaDoor
open Go.RowKit
end Go.Proofs.YtlapliclhfpgkaaDoor
namespace Go.Proofs.YtlapliclhfpgkaaDoor
open Go.RowKit
set_option maxHeartbeats 400000 in
theorem check_none (f : Int) (oa : Option Addr) (n cap : Nat) (w : World) (h : ixB f n = false) :
    Calls Tryd.prog 28 #[.slice oa n cap, .int .i64 f] w fun e w' => e = .returned (.int .i64 5) ∧ Kept w w' := by
  go_enter Tryd.func28, Tryd.ntmps28
  go_wp2_with (go_at_call 41; refine (isIndex_any _ _ _).mono ?_; rintro e w' ⟨rfl, rfl⟩)
  go_ret
  exact ⟨rfl, Kept.refl _⟩
set_option maxHeartbeats 400000 in
theorem check_many (i b o n cap : Nat) (oc : Option Addr) (m cc : Nat) (w : World) (hi : i < n) (c2 : w.cell? ⟨b, o + i * 3 + 2, none⟩ = some (.slice oc m cc)) (hm : 24 < (m : Int)) :
    Calls Tryd.prog 28 #[.slice (some ⟨b, o, none⟩) n cap, .int .i64 i] w fun e w' => e = .returned (.int .i64 2) ∧ Kept w w' := by
  have h : ixB i n = true := ixB_true (by omega) (by omega)
  go_enter Tryd.func28, Tryd.ntmps28
  go_wp2_with (go_at_call 41; refine (isIndex_any _ _ _).mono ?_; rintro e w' ⟨rfl, rfl⟩)
  go_ret
  exact ⟨rfl, Kept.refl _⟩
set_option maxHeartbeats 400000 in
theorem check_range (i b o n cap : Nat) (ar lo : Int) (oc : Option Addr) (m cc : Nat) (w : World) (hi : i < n) (c0 : w.cell? ⟨b, o + i * 3, none⟩ = some (.int .i64 ar)) (c1 : w.cell? ⟨b, o + i * 3 + 1, none⟩ = some (.int .i64 lo))
    (c2 : w.cell? ⟨b, o + i * 3 + 2, none⟩ = some (.slice oc m cc)) (hm : ¬ 24 < (m : Int)) (hr : roomB ar lo = false) :
    Calls Tryd.prog 28 #[.slice (some ⟨b, o, none⟩) n cap, .int .i64 i] w fun e w' => e = .returned (.int .i64 3) ∧ Kept w w' := by
  have h : ixB i n = true := ixB_true (by omega) (by omega)
  go_enter Tryd.func28, Tryd.ntmps28
  go_wp2_with (first | (go_at_call 41; refine (isIndex_any _ _ _).mono ?_; rintro e w' ⟨rfl, rfl⟩) | (go_at_call 42; refine (hasRoom_any _ _ _ _).mono ?_; rintro e w' ⟨rfl, rfl⟩))
  go_ret
  exact ⟨rfl, (Kept.refl _).alloc _⟩
theorem opsS_step {p : List Fn} {f : Fn} {c : List (Int × Int)} {k : Nat} {x : Int × Int} (h : c[k]? = some x) : opsS p f (c.drop k) = if opS p f x = 0 then opsS p f (c.drop (k + 1)) else opS p f x := by
  have hk : k < c.length := (List.getElem?_eq_some_iff.1 h).1
  have hx : c[k] = x := (List.getElem?_eq_some_iff.1 h).2
  rw [List.drop_eq_getElem_cons hk, hx]
  rfl
set_option maxHeartbeats 2000000 in
theorem check_ops (p : List Fn) (f : Fn) (i b o cap : Nat) (oc : Option Addr) (m cc : Nat) (w : World) (hk : KindsAt w) (hp : ProgAt w (.slice (some ⟨b, o, none⟩) p.length cap) p) (hi : i < p.length)
    (c0 : w.cell? ⟨b, o + i * 3, none⟩ = some (.int .i64 f.args)) (c1 : w.cell? ⟨b, o + i * 3 + 1, none⟩ = some (.int .i64 f.locals))
    (c2 : w.cell? ⟨b, o + i * 3 + 2, none⟩ = some (.slice oc m cc)) (hc : CodeAt w (.slice oc m cc) f.code) (hml : m = f.code.length) (hm : m ≤ 24) (hr : roomB f.args f.locals = true) :
    Calls Tryd.prog 28 #[.slice (some ⟨b, o, none⟩) p.length cap, .int .i64 i] w fun e w' => e = .returned (.int .i64 (opsS p f f.code)) ∧ Kept w w' := by
  have h : ixB i p.length = true := ixB_true (by omega) (by omega)
  have hm' : ¬ 24 < (m : Int) := by omega
  have HP : Hid (ProgAt w (.slice (some ⟨b, o, none⟩) p.length cap) p) := hp
  have HK : Hid (KindsAt w) := hk
  have HC : Hid (CodeAt w (.slice oc m cc) f.code) := hc
  have HL : Hid (m = f.code.length) := hml
  clear hp hk hc hml
  have d0 : (w.alloc (.cells #[.int .i64 f.args, .int .i64 f.locals, .slice oc m cc] 49)).cell? ⟨b, o + i * 3, none⟩ = some (.int .i64 f.args) := ((Kept.refl w).alloc _).cell c0
  have d1 : (w.alloc (.cells #[.int .i64 f.args, .int .i64 f.locals, .slice oc m cc] 49)).cell? ⟨b, o + i * 3 + 1, none⟩ = some (.int .i64 f.locals) := ((Kept.refl w).alloc _).cell c1
  have d2 : (w.alloc (.cells #[.int .i64 f.args, .int .i64 f.locals, .slice oc m cc] 49)).cell? ⟨b, o + i * 3 + 2, none⟩ = some (.slice oc m cc) := ((Kept.refl w).alloc _).cell c2
  go_enter Tryd.func28, Tryd.ntmps28
  go_wp2_with (first | (go_at_call 41; refine (isIndex_any _ _ _).mono ?_; rintro e w' ⟨rfl, rfl⟩) | (go_at_call 42; refine (hasRoom_any _ _ _ _).mono ?_; rintro e w' ⟨rfl, rfl⟩))
  refine (bounds_any _ _ _ _ _ _ _ _ _).mono ?_
  rintro e w1 ⟨Bp, Bf, he, hbp, hbl, hbc, hbk⟩
  unfold mayV at he
  subst he
  have g2 : ∀ o1, (w1.alloc o1).cell? ⟨b, o + i * 3 + 2, none⟩ = some (.slice oc m cc) := fun o1 => ((Kept.refl w1).alloc _).cell (hbk.cell d2)
  have HB : Hid (Kept w w1) := Kept.trans ((Kept.refl w).alloc _) hbk
  have HM : Hid (MayAt w1 p f (.slice (some ⟨b, o, none⟩) p.length cap) Bp Bf) := ⟨HP.out.kept HB.out, hbp, hbl, ⟨oc, cc, by rw [← HL.out]; exact hbc⟩⟩
  clear d0 d1 d2 hbp hbl hbc hbk c0 c1 c2
  go_wp2
  generalize hW0 : w1.alloc (.cells #[.func (.func 59) #[] #[], .func (.func 60) #[] #[], .func (.func 61) #[] #[.pointer (some ⟨Bf, 0, none⟩)], .func (.func 62) #[] #[.pointer (some ⟨Bf, 0, none⟩)], .func (.func 63) #[] #[.pointer (some ⟨Bp, 0, none⟩)]] 80) = W0
  have HW : Hid (∀ u, Kept W0 u → ∀ j v, (#[Value.func (.func 59) #[] #[], .func (.func 60) #[] #[], .func (.func 61) #[] #[.pointer (some ⟨Bf, 0, none⟩)], .func (.func 62) #[] #[.pointer (some ⟨Bf, 0, none⟩)], .func (.func 63) #[] #[.pointer (some ⟨Bp, 0, none⟩)]])[j]? = some v → u.cell? ⟨w1.heap.size, j, none⟩ = some v) := by
    intro u hu j v hv
    refine hu.cell ?_
    rw [← hW0]
    exact (cell_lays (lays_new rfl) j).trans hv
  have H0 : Hid (Kept w1 W0) := by rw [← hW0]; exact (Kept.refl _).alloc _
  clear hW0 g2
  go_loopw [39] (fun i wr => ∃ k : Nat, k ≤ m ∧ i = .int .i64 k ∧ Hid (opsS p f (f.code.drop k) = opsS p f f.code) ∧ Hid (Kept W0 wr)) (fun i _ => m - (intOf i).toNat)
  case atStart => exact ⟨0, Nat.zero_le _, rfl, rfl, Kept.refl _⟩
  case round =>
    obtain ⟨k, hkm, rfl, HO, HKW⟩ := hrel
    by_cases hlt : k < m
    · obtain ⟨x, hx⟩ : ∃ x, f.code[k]? = some x := ⟨f.code[k]'(by rw [← HL.out]; exact hlt), List.getElem?_eq_getElem _⟩
      have hKr : Kept w wr := HB.out.trans (H0.out.trans HKW.out)
      obtain ⟨oa', cap', he, _, hcell⟩ := HC.out.kept hKr
      obtain ⟨b', o', rfl, x0, x1⟩ := hcell k x hx
      obtain ⟨rfl, -, -⟩ := (by simpa using he : oc = some ⟨b', o', none⟩ ∧ m = f.code.length ∧ cc = cap')
      have HX : Hid (f.code[k]? = some x) := hx
      have HKr : Hid (Kept w wr) := hKr
      have e0 := HW.out _ (HKW.out.alloc (.cells #[.int .i64 x.1, .int .i64 x.2] 54)) 0 _ rfl
      have e1 := HW.out _ (HKW.out.alloc (.cells #[.int .i64 x.1, .int .i64 x.2] 54)) 1 _ rfl
      have e2 := HW.out _ (HKW.out.alloc (.cells #[.int .i64 x.1, .int .i64 x.2] 54)) 2 _ rfl
      have e3 := HW.out _ (HKW.out.alloc (.cells #[.int .i64 x.1, .int .i64 x.2] 54)) 3 _ rfl
      have e4 := HW.out _ (HKW.out.alloc (.cells #[.int .i64 x.1, .int .i64 x.2] 54)) 4 _ rfl
      clear hcell he hx hKr
      have hck := checkOp_any p f (.slice (some ⟨b, o, none⟩) p.length cap) x.1 x.2 Bp Bf (wr.alloc (.cells #[.int .i64 x.1, .int .i64 x.2] 54)) (HK.out.kept (HKr.out.alloc _)) (HM.out.kept ((H0.out.trans HKW.out).alloc _))
      unfold mayV at hck
      have HCK := hide hck
      clear hck
      have hst := opsS_step (p := p) (f := f) HX.out
      go_wp2_with fail
      refine (unhide HCK).mono ?_
      clear HCK
      rintro e w2 ⟨he, hk2⟩
      by_cases hz : opS p f x = 0
      · rw [if_pos hz] at hst
        rw [show opS p f (x.1, x.2) = 0 from hz] at he
        subst he
        have HST := hide hst
        have HK2 : Hid (Kept W0 w2) := Kept.trans (HKW.out.alloc _) hk2
        clear hst hz hk2
        go_wp2
        go_roundw
        case rel => exact ⟨k + 1, by omega, by go_num, (unhide HST).symm.trans HO.out, HK2⟩
        case measure => simp [intOf]; omega
      · rw [if_neg hz] at hst
        have hz' : (opS p f (x.1, x.2) != 0) = true := by rw [bne_iff_ne]; exact hz
        have HST := hide hst
        have HK2 : Hid (Kept w w2) := Kept.trans (HKr.out.alloc _) hk2
        clear hst hz hk2
        subst he
        go_wp2
        go_ret
        exact ⟨by rw [← HO.out, unhide HST]; rfl, HK2⟩
    · have hke : k = f.code.length := by have := HL.out; omega
      have HE := hide hke
      clear hke
      go_wp2
      go_ret
      refine ⟨?_, HB.out.trans (H0.out.trans HKW.out)⟩
      rw [← HO.out, unhide HE, List.drop_length]
      rfl
theorem check_any (p : List Fn) (v : Value) (f : Int) (w : World) (hp : ProgAt w v p) (hk : KindsAt w) :
    Calls Tryd.prog 28 #[v, .int .i64 f] w fun e w' => e = .returned (.int .i64 (chkS p f)) ∧ Kept w w' := by
  have hp0 := hp
  obtain ⟨oa, cap, rfl, hl, hi⟩ := hp
  unfold chkS
  by_cases h : 0 ≤ f ∧ f < p.length
  · rw [if_pos h]
    obtain ⟨i, rfl⟩ := Int.eq_ofNat_of_zero_le h.1
    obtain ⟨b, o, cv, rfl, c0, c1, c2, hc⟩ := hi i _ (getD_of_lt p i Fn.zero (by omega))
    have hc0 := hc
    obtain ⟨oc, cc, rfl, _, _⟩ := hc
    rw [Int.toNat_natCast]
    generalize p.getD i Fn.zero = g at *
    by_cases hm : 24 < g.code.length
    · simp only [if_pos hm]
      exact check_many i b o p.length cap oc _ cc w (by omega) c2 (by omega)
    · simp only [if_neg hm]
      cases hr : roomB g.args g.locals with
      | false =>
        rw [if_neg (by decide)]
        exact check_range i b o p.length cap _ _ oc _ cc w (by omega) c0 c1 c2 (by omega) hr
      | true =>
        rw [if_pos rfl]
        exact check_ops p g i b o cap oc _ cc w hk hp0 (by omega) c0 c1 c2 hc0 rfl (by omega) hr
  · rw [if_neg h]
    exact check_none f oa p.length cap w (ixB_false h)
end Go.Proofs.YtlapliclhfpgkaaDoor
namespace Go.Proofs.YtlapliclhfpgkaaDoor
open Go.RowKit
set_option maxHeartbeats 400000 in
theorem effect_bad (kd a : Int) (v : Value) (w : World) (h : ixB kd 17 = false) :
    Calls Tryd.prog 83 #[v, .agg #[.int .i64 kd, .int .i64 a]] w fun e w' => e = .returned (.tuple #[.int .i64 0, .int .i64 0, .int .i64 4]) ∧ Kept w w' := by
  go_enter Tryd.func83, Tryd.ntmps83
  go_wp2_with (go_at_call 41; refine (isIndex_any _ _ _).mono ?_; rintro e w' ⟨rfl, rfl⟩)
  go_ret3
  exact ⟨rfl, (Kept.refl _).alloc _⟩
set_option maxHeartbeats 400000 in
theorem effect_plain (k : Nat) (a : Int) (v : Value) (w : World) (hk : KindsAt w) (h : ixB k 17 = true) (hn : ((k : Int) != 11) = true) :
    Calls Tryd.prog 83 #[v, .agg #[.int .i64 k, .int .i64 a]] w fun e w' => e = .returned (.tuple #[.int .i64 (tk k), .int .i64 (lv k), .int .i64 0]) ∧ Kept w w' := by
  have hb : k < 17 := by rw [ixB_iff] at h; omega
  have c0 : (w.alloc (.cells #[.int .i64 k, .int .i64 a] 54)).cell? ⟨0, k * 3, none⟩ = some (.int .i64 (tk k)) := (Kept.alloc (Kept.refl w) _).cell (hk (k * 3) (by omega))
  have c1 : (w.alloc (.cells #[.int .i64 k, .int .i64 a] 54)).cell? ⟨0, k * 3 + 1, none⟩ = some (.int .i64 (lv k)) := (Kept.alloc (Kept.refl w) _).cell (hk (k * 3 + 1) (by omega))
  have c2 : (w.alloc (.cells #[.int .i64 k, .int .i64 a] 54)).cell? ⟨0, k * 3 + 2, none⟩ = some (.int .i64 (opd k)) := (Kept.alloc (Kept.refl w) _).cell (hk (k * 3 + 2) (by omega))
  clear hk
  go_enter Tryd.func83, Tryd.ntmps83
  go_wp2_with (go_at_call 41; refine (isIndex_any _ _ _).mono ?_; rintro e w' ⟨rfl, rfl⟩)
  go_quiet (fail)
  go_wp2
  go_ret3
  exact ⟨rfl, (((Kept.refl _).alloc _).alloc _).drewN _⟩
set_option maxHeartbeats 400000 in
theorem effect_none (a : Int) (oa : Option Addr) (n cap : Nat) (w : World) (hk : KindsAt w) (ha : ixB a n = false) :
    Calls Tryd.prog 83 #[.slice oa n cap, .agg #[.int .i64 11, .int .i64 a]] w fun e w' => e = .returned (.tuple #[.int .i64 0, .int .i64 0, .int .i64 5]) ∧ Kept w w' := by
  have h : ixB 11 17 = true := rfl
  have c0 : (w.alloc (.cells #[.int .i64 11, .int .i64 a] 54)).cell? ⟨0, 33, none⟩ = some (.int .i64 (tk 11)) := (Kept.alloc (Kept.refl w) _).cell (hk 33 (by omega))
  have c1 : (w.alloc (.cells #[.int .i64 11, .int .i64 a] 54)).cell? ⟨0, 34, none⟩ = some (.int .i64 (lv 11)) := (Kept.alloc (Kept.refl w) _).cell (hk 34 (by omega))
  have c2 : (w.alloc (.cells #[.int .i64 11, .int .i64 a] 54)).cell? ⟨0, 35, none⟩ = some (.int .i64 (opd 11)) := (Kept.alloc (Kept.refl w) _).cell (hk 35 (by omega))
  clear hk
  go_enter Tryd.func83, Tryd.ntmps83
  go_wp2_with (go_at_call 41; refine (isIndex_any _ _ _).mono ?_; rintro e w' ⟨rfl, rfl⟩)
  go_ret3
  exact ⟨rfl, (((Kept.refl _).alloc _).alloc _)⟩
set_option maxHeartbeats 400000 in
theorem effect_call (i b o n cap : Nat) (r : Int) (w : World) (hk : KindsAt w) (hi : i < n) (hc : w.cell? ⟨b, o + i * 3, none⟩ = some (.int .i64 r)) :
    Calls Tryd.prog 83 #[.slice (some ⟨b, o, none⟩) n cap, .agg #[.int .i64 11, .int .i64 i]] w fun e w' => e = .returned (.tuple #[.int .i64 r, .int .i64 1, .int .i64 0]) ∧ Kept w w' := by
  have h : ixB 11 17 = true := rfl
  have ha : ixB i n = true := ixB_true (by omega) (by omega)
  have c0 : (w.alloc (.cells #[.int .i64 11, .int .i64 i] 54)).cell? ⟨0, 33, none⟩ = some (.int .i64 0) := (Kept.alloc (Kept.refl w) _).cell (hk 33 (by omega))
  have c1 : (w.alloc (.cells #[.int .i64 11, .int .i64 i] 54)).cell? ⟨0, 34, none⟩ = some (.int .i64 1) := (Kept.alloc (Kept.refl w) _).cell (hk 34 (by omega))
  have c2 : (w.alloc (.cells #[.int .i64 11, .int .i64 i] 54)).cell? ⟨0, 35, none⟩ = some (.int .i64 4) := (Kept.alloc (Kept.refl w) _).cell (hk 35 (by omega))
  have c3 : ((w.alloc (.cells #[.int .i64 11, .int .i64 i] 54)).alloc (.cells #[.int .i64 0, .int .i64 1, .int .i64 4] 101)).cell? ⟨b, o + i * 3, none⟩ = some (.int .i64 r) := (((Kept.refl w).alloc _).alloc _).cell hc
  clear hk hc
  go_enter Tryd.func83, Tryd.ntmps83
  go_wp2_with (go_at_call 41; refine (isIndex_any _ _ _).mono ?_; rintro e w' ⟨rfl, rfl⟩)
  go_quiet (fail)
  go_wp2
  go_ret3
  exact ⟨rfl, (((Kept.refl _).alloc _).alloc _).drewN _⟩
theorem effect_any (p : List Fn) (v : Value) (kd a : Int) (w : World) (hp : ProgAt w v p) (hk : KindsAt w) :
    Calls Tryd.prog 83 #[v, .agg #[.int .i64 kd, .int .i64 a]] w fun e w' => e = .returned (.tuple #[.int .i64 (effS p kd a).1, .int .i64 (effS p kd a).2.1, .int .i64 (effS p kd a).2.2]) ∧ Kept w w' := by
  unfold effS
  by_cases h : 0 ≤ kd ∧ kd < 17
  · rw [if_pos h]
    by_cases h11 : kd = 11
    · rw [if_pos h11]
      subst h11
      obtain ⟨oa, cap, rfl, hl, hi⟩ := hp
      by_cases ha : 0 ≤ a ∧ a < p.length
      · rw [if_pos ha]
        obtain ⟨i, rfl⟩ := Int.eq_ofNat_of_zero_le ha.1
        obtain ⟨b, o, cv, rfl, c0, _⟩ := hi i _ (getD_of_lt p i Fn.zero (by omega))
        rw [Int.toNat_natCast]
        exact effect_call i b o p.length cap _ w hk (by omega) c0
      · rw [if_neg ha]
        exact effect_none a oa p.length cap w hk (ixB_false ha)
    · rw [if_neg h11]
      obtain ⟨k, rfl⟩ := Int.eq_ofNat_of_zero_le h.1
      rw [Int.toNat_natCast]
      exact effect_plain k a v w hk (ixB_true h.1 h.2) (by rw [bne_iff_ne]; exact h11)
  · rw [if_neg h]
    exact effect_bad kd a v w (ixB_false h)
end Go.Proofs.YtlapliclhfpgkaaDoor
namespace Go.Proofs.YtlapliclhfpgkaaDoor
open Go.RowKit
set_option maxHeartbeats 400000 in
theorem o_any (k a : Int) (w : World) :
    Calls Tryd.prog 22 #[.int .i64 k, .int .i64 a] w fun e w' => e = .returned (.agg #[.int .i64 k, .int .i64 a]) ∧ w' = w.alloc (.cells #[.int .i64 k, .int .i64 a] 54) := by
  go_enter Tryd.func22, Tryd.ntmps22
  go_wp2
  exact bodyPost_ret (v := .agg #[.int .i64 k, .int .i64 a]) (by simp [results, Tryd.results22, go_sem]) rfl ⟨rfl, rfl⟩
set_option maxHeartbeats 4000000 in
theorem count_any (w : World) :
    Calls Tryd.prog 21 #[] w fun e w' => ∃ v, e = .returned v ∧ CountAt w.heap.size w' v ∧ Kept w w' := by
  go_enter Tryd.func21, Tryd.ntmps21
  go_wp2_with (go_at_call 22; refine (o_any _ _ _).mono ?_; rintro e w' ⟨rfl, rfl⟩)
  go_ret
  refine ⟨_, rfl, ⟨w.heap.size + 14, w.heap.size + 27, w.heap.size + 32, w.heap.size + 33, by omega, by omega, by omega, by omega, rfl, ?_, ?_, ?_, ?_⟩, ?_⟩
  · repeat (first | exact lays_new (by simp) | refine lays_alloc ?_ _)
  · repeat (first | exact lays_new (by simp) | refine lays_alloc ?_ _)
  · repeat (first | exact lays_new (by simp) | refine lays_alloc ?_ _)
  · repeat (first | exact lays_new (by simp) | refine lays_alloc ?_ _)
  · repeat (refine Kept.alloc ?_ _)
    exact Kept.refl _
end Go.Proofs.YtlapliclhfpgkaaDoor
namespace Go.Proofs.YtlapliclhfpgkaaDoor
open Go.RowKit
theorem effect_is (p : List Fn) (v : Value) (kd a r1 r2 r3 : Int) (w : World) (hp : ProgAt w v p) (hk : KindsAt w) (h : effS p kd a = (r1, r2, r3)) :
    Calls Tryd.prog 83 #[v, .agg #[.int .i64 kd, .int .i64 a]] w fun e w' => e = .returned (.tuple #[.int .i64 r1, .int .i64 r2, .int .i64 r3]) ∧ Kept w w' := by
  have := effect_any p v kd a w hp hk
  rw [h] at this
  exact this
theorem check_is (p : List Fn) (v : Value) (f r : Int) (w : World) (hp : ProgAt w v p) (hk : KindsAt w) (h : chkS p f = r) :
    Calls Tryd.prog 28 #[v, .int .i64 f] w fun e w' => e = .returned (.int .i64 r) ∧ Kept w w' := by
  have := check_any p v f w hp hk
  rw [h] at this
  exact this
theorem nilProg (w : World) : ProgAt w (.slice none 0 0) [] := ⟨none, 0, rfl, by simp, fun i f h => by simp at h⟩
def cntX : List Fn := [⟨0, 1, (13, 2) :: cnt0.tail⟩, ⟨1, 1, cnt1⟩, ⟨2, 2, cnt2⟩]
theorem CountAt.kept {n0 : Nat} {w w' : World} {v : Value} (h : CountAt n0 w v) (k : Kept w w') : CountAt n0 w' v := by
  obtain ⟨b0, b1, b2, b, h1, h2, h3, h4, rfl, g0, g1, g2, g3⟩ := h
  exact ⟨b0, b1, b2, b, h1, h2, h3, h4, rfl, lays_kept k g0, lays_kept k g1, lays_kept k g2, lays_kept k g3⟩
theorem CountAt.opened {n0 : Nat} {w : World} {v : Value} (h : CountAt n0 w v) : ∃ b b0, n0 ≤ b0 ∧ v = .slice (some ⟨b, 0, none⟩) 3 3 ∧ w.cell? ⟨b, 2, none⟩ = some (.slice (some ⟨b0, 0, none⟩) 14 14) ∧
    w.cell? ⟨b0, 1, none⟩ = some (.int .i64 1) ∧ w.frozen? ⟨b0, 1, none⟩ = false ∧ ProgAt (w.setCell ⟨b0, 1, none⟩ (.int .i64 2)) (.slice (some ⟨b, 0, none⟩) 3 3) cntX := by
  obtain ⟨b0, b1, b2, b, h1, h2, h3, h4, rfl, g0, g1, g2, g3⟩ := h
  refine ⟨b, b0, h1, rfl, cell_lays g3 2, cell_lays g0 1, frozen_lays g0 1, ?_⟩
  refine progAt_block (lays_other g3 (by simp; omega) _) [(⟨0, 1, (13, 2) :: cnt0.tail⟩, .slice (some ⟨b0, 0, none⟩) 14 14), (⟨1, 1, cnt1⟩, .slice (some ⟨b1, 0, none⟩) 12 12), (⟨2, 2, cnt2⟩, .slice (some ⟨b2, 0, none⟩) 4 4)] rfl (by simp) ?_ 3 3 rfl cntX rfl
  intro x hx
  simp only [List.mem_cons, List.not_mem_nil, or_false] at hx
  rcases hx with rfl | rfl | rfl
  · exact codeAt_block (lays_set g0 1 _) ((13, 2) :: cnt0.tail) rfl (by decide) 14 14 rfl
  · exact codeAt_block (lays_other g1 (by simp; omega) _) cnt1 rfl (by decide) 12 12 rfl
  · exact codeAt_block (lays_other g2 (by simp; omega) _) cnt2 rfl (by decide) 4 4 rfl
end Go.Proofs.YtlapliclhfpgkaaDoor
namespace Go.Proofs.YtlapliclhfpgkaaDoor
def beh (p : List Fn) (x : Int × Int) (h : Int) : Option Int :=
  if (effS p x.1 x.2).2.2 = 0 ∧ (effS p x.1 x.2).1 ≤ h ∧ ¬ (x.1 = 12 ∧ 1 < h) ∧ h - (effS p x.1 x.2).1 + (effS p x.1 x.2).2.1 ≤ 8 then some (h - (effS p x.1 x.2).1 + (effS p x.1 x.2).2.1) else none
def nexts (x : Int × Int) (k : Nat) : List Nat :=
  if x.1 = 12 then [] else if x.1 = 9 then [x.2.toNat] else if x.1 = 10 then [x.2.toNat, k + 1] else [k + 1]
def comesS (f : List Int → Nat → Int → Bool × List Int) : List Nat → List Int → Int → Bool × List Int
  | [], H, _ => (true, H)
  | j :: r, H, m => match f H j m with
    | (true, H') => comesS f r H' m
    | (false, H') => (false, H')
def comeS (p : List Fn) (c : List (Int × Int)) : Nat → List Int → Nat → Int → Bool × List Int
  | 0, H, _, _ => (false, H)
  | n + 1, H, at_, h =>
    if c.length ≤ at_ then (false, H)
    else if H.getD at_ 0 = -1 then
      match beh p (c.getD at_ (0, 0)) h with
      | none => (false, H.set at_ h)
      | some m => comesS (comeS p c n) (nexts (c.getD at_ (0, 0)) at_) (H.set at_ h) m
    else (decide (H.getD at_ 0 = h), H)
theorem comesS_snoc (f : List Int → Nat → Int → Bool × List Int) : ∀ (l : List Nat) (j : Nat) (H : List Int) (m : Int), comesS f (l ++ [j]) H m = match comesS f l H m with
    | (true, H') => f H' j m
    | (false, H') => (false, H')
  | [], j, H, m => by
    simp only [List.nil_append, comesS]
    cases f H j m with
    | mk b H' => cases b <;> rfl
  | i :: l, j, H, m => by
    simp only [List.cons_append, comesS]
    cases f H i m with
    | mk b H' => cases b with
      | false => rfl
      | true => exact comesS_snoc f l j H' m
theorem comesS_prefix (f : List Int → Nat → Int → Bool × List Int) (l : List Nat) (H H' : List Int) (m : Int) (h : comesS f l H m = (false, H')) : ∀ r, comesS f (l ++ r) H m = (false, H') := by
  induction l generalizing H with
  | nil => simp [comesS] at h
  | cons i l ih =>
    intro r
    simp only [List.cons_append, comesS] at h ⊢
    cases hf : f H i m with
    | mk b H2 =>
      rw [hf] at h
      cases b with
      | false => exact h
      | true => exact ih H2 h r
def unv (H : List Int) : Nat := (H.filter (fun z => decide (z = -1))).length
theorem unv_set : ∀ (H : List Int) (k : Nat) (z : Int), H.getD k 0 = -1 → z ≠ -1 → unv (H.set k z) + 1 = unv H
  | [], k, z, h, _ => by simp at h
  | y :: H, 0, z, h, hz => by
    simp at h
    subst h
    simp [unv, hz]
  | y :: H, k + 1, z, h, hz => by
    have ih := unv_set H k z (by simpa using h) hz
    simp only [unv, List.set_cons_succ, List.filter_cons] at ih ⊢
    split
    · simp only [List.length_cons]; omega
    · exact ih
end Go.Proofs.YtlapliclhfpgkaaDoor
namespace Go.Proofs.YtlapliclhfpgkaaDoor
theorem opsS_all {p : List Fn} {g : Fn} : ∀ {c : List (Int × Int)}, opsS p g c = 0 → ∀ x, x ∈ c → opS p g x = 0
  | [], _, x, hx => by cases hx
  | y :: c, h, x, hx => by
    unfold opsS at h
    by_cases hy : opS p g y = 0
    · rw [if_pos hy] at h
      rcases List.mem_cons.1 hx with rfl | hx
      · exact hy
      · exact opsS_all h x hx
    · rw [if_neg hy] at h
      exact absurd h hy
theorem opS_kind {p : List Fn} {g : Fn} {x : Int × Int} (h : opS p g x = 0) : 0 ≤ x.1 ∧ x.1 < 17 ∧ mayB p g (opd x.1.toNat) x.2 = true := by
  unfold opS at h
  by_cases hk : 0 ≤ x.1 ∧ x.1 < 17
  · rw [if_pos hk] at h
    by_cases hm : mayB p g (opd x.1.toNat) x.2 = true
    · exact ⟨hk.1, hk.2, hm⟩
    · rw [if_neg hm] at h; omega
  · rw [if_neg hk] at h; omega
theorem mayB4 {p : List Fn} {g : Fn} {a : Int} (h : mayB p g 4 a = true) : 0 ≤ a ∧ a < p.length ∧ roomB (p.getD a.toNat Fn.zero).args (p.getD a.toNat Fn.zero).locals = true := by
  simp only [mayB] at h
  rw [if_neg (by decide), if_neg (by decide), if_neg (by decide), if_neg (by decide), Bool.and_eq_true, ixB_iff] at h
  exact ⟨h.1.1, h.1.2, h.2⟩
theorem tk_lv (k : Nat) (h : k < 17) : 0 ≤ tk k ∧ tk k ≤ 2 ∧ 0 ≤ lv k ∧ lv k ≤ 1 := by
  have : ∀ k : Fin 17, 0 ≤ tk k ∧ tk k ≤ 2 ∧ 0 ≤ lv k ∧ lv k ≤ 1 := by decide
  exact this ⟨k, h⟩
theorem effS_call {p : List Fn} {g : Fn} {x : Int × Int} (h : opS p g x = 0) (hk : x.1 = 11) : 0 ≤ x.2 ∧ x.2 < p.length ∧ 0 ≤ (p.getD x.2.toNat Fn.zero).args ∧ effS p x.1 x.2 = ((p.getD x.2.toNat Fn.zero).args, 1, 0) := by
  obtain ⟨_, _, hm⟩ := opS_kind h
  rw [hk] at hm
  obtain ⟨h1, h2, h3⟩ := mayB4 (show mayB p g 4 x.2 = true from hm)
  rw [roomB_iff] at h3
  refine ⟨h1, h2, h3.1, ?_⟩
  unfold effS
  rw [if_pos ⟨by omega, by omega⟩, if_pos hk, if_pos ⟨h1, h2⟩]
theorem effS_plain {p : List Fn} {g : Fn} {x : Int × Int} (h : opS p g x = 0) (hk : x.1 ≠ 11) : ∃ ta lb, effS p x.1 x.2 = (ta, lb, 0) ∧ 0 ≤ ta ∧ ta ≤ 2 ∧ 0 ≤ lb ∧ lb ≤ 1 := by
  obtain ⟨h1, h2, _⟩ := opS_kind h
  obtain ⟨a, b, c, d⟩ := tk_lv x.1.toNat (by omega)
  refine ⟨_, _, ?_, a, b, c, d⟩
  unfold effS
  rw [if_pos ⟨h1, h2⟩, if_neg hk]
theorem chkS_zero {p : List Fn} {f : Int} (h : chkS p f = 0) : ∃ i : Nat, f = i ∧ i < p.length ∧ (p.getD i Fn.zero).code.length ≤ 24 ∧ roomB (p.getD i Fn.zero).args (p.getD i Fn.zero).locals = true ∧ opsS p (p.getD i Fn.zero) (p.getD i Fn.zero).code = 0 := by
  unfold chkS at h
  by_cases hf : 0 ≤ f ∧ f < p.length
  · rw [if_pos hf] at h
    obtain ⟨i, rfl⟩ := Int.eq_ofNat_of_zero_le hf.1
    rw [Int.toNat_natCast] at h
    refine ⟨i, rfl, by omega, ?_⟩
    generalize p.getD i Fn.zero = g at *
    by_cases hm : 24 < g.code.length
    · simp only [if_pos hm] at h; omega
    · simp only [if_neg hm] at h
      cases hr : roomB g.args g.locals with
      | false => rw [hr, if_neg (by decide)] at h; omega
      | true => rw [hr, if_pos rfl] at h; exact ⟨by omega, rfl, h⟩
  · rw [if_neg hf] at h; omega
end Go.Proofs.YtlapliclhfpgkaaDoor
