/-
  The statement DeskSteps: its walk.
-/
import Derived.Test.YtokhibfenccijaaGreatDoorDeskM
import Derived.Test.YtokhibfenccijaaGreatDoorKB43
import Derived.Test.YtokhibfenccijaaGreatDoorKB44
namespace Go.Proofs.YtokhibfenccijaaGreatDoor
open Go.RowKit Go.Maps

theorem strD_add (a b : List UInt8) (h : a.length + b.length ≤ 1000000) : (ByteArray.mk a.toArray) ++ (ByteArray.mk b.toArray) = ⟨(a ++ b).toArray⟩ ∧ ¬ 9223372036854775807 < (ByteArray.mk a.toArray).size + (ByteArray.mk b.toArray).size := by
  refine ⟨strs_app a b, ?_⟩
  simp only [ByteArray.size, List.size_toArray]
  omega
theorem slice_from (l : List UInt8) (h1 : 1 ≤ l.length) (u : World) : (Instr.slice 9 (.string ⟨l.toArray⟩) (some (.int .i64 1)) none none).run Tryz.prog u = .ok (.string ⟨(l.drop 1).toArray⟩) u := by
  have hsz : (ByteArray.mk l.toArray).size = l.length := by simp [ByteArray.size]
  have hi : (1 : Int) ≤ (l.length : Int) := by omega
  simp [Instr.slice, Instr.sliceBounds, Instr.sliceBound, asIntOf, run_underlying Tryz.underlying9, hsz, hi]
  apply ByteArray.ext
  simp [ByteArray.data_extract]
  exact List.take_of_length_le (by simp)
/-- What is put out, each behind a blank. -/
def blankS (l : List Int) : List UInt8 := l.flatMap fun z => 32 :: Lib.itoa z
theorem blank_len (l : List Int) (h : ∀ z ∈ l, I64 z) : (blankS l).length ≤ l.length * 21 := by
  unfold blankS
  induction l with
  | nil => simp
  | cons z l ih =>
    have h1 := ih (fun x hx => h x (by simp [hx]))
    have h2 := itoa_len (h z (by simp))
    simp only [List.flatMap_cons, List.length_append, List.length_cons, Nat.succ_mul]
    omega
set_option maxRecDepth 100000 in
set_option maxHeartbeats 4000000 in
theorem deskSteps_no (vp : Value) (fu m er : Int) (S : ByteArray) (w : World) (hno : (er == 0) = false ∨ (8192 : Int) < (S.size : Int)) (k ef : Int)
    (HCH : Hid (∀ u, Calls Tryz.prog 8 #[.int .i64 fu, .int .i64 501] u fun e w' => e = .returned (.int .i64 m) ∧ u = w'))
    (HSH : Hid (∀ u, Kept w u → Calls Tryz.prog 9 #[vp] u fun e w' => e = .returned (.tuple #[.string S, .int .i64 er]) ∧ Kept u w'))
    (HAL : Hid (∀ u, Kept w u → Calls Tryz.prog 10 #[vp, .int .i64 m] u fun e w' => ∃ ol nl cl, e = .returned (.tuple #[.slice ol nl cl, .int .i64 k, .int .i64 ef]) ∧ Kept u w'))
    (HDB : Hid (∀ u, Kept w u → Calls Tryz.prog 7 #[] u fun e w' => e = .returned (.bool true) ∧ Kept u w')) :
    Calls Tryz.prog 4 #[vp, .int .i64 fu] w fun e w' => e = .returned (.bool true) ∧ Kept w w' := by
  by_cases he : (er == 0) = false
  · have he2 : (er != 0) = true := by simp [bne, he]
    clear hno
    go_enter Tryz.func4, Tryz.ntmps4
    go_wp2_with fail
    refine ((unhide HCH) _).mono ?_
    rintro _ w0 ⟨rfl, rfl⟩
    go_wp2_with fail
    refine ((unhide HSH) _ (Kept.refl _)).mono ?_
    rintro _ w1 ⟨rfl, k1⟩
    have HK := hide k1
    clear k1 HSH
    go_wp2_with fail
    refine ((unhide HAL) _ (unhide HK)).mono ?_
    rintro _ w2 ⟨o2, n2, c2, rfl, k2⟩
    replace HK := hide ((unhide HK).trans k2)
    clear k2 HAL
    go_wp2_with fail
    refine ((unhide HDB) _ (unhide HK)).mono ?_
    rintro _ w3 ⟨rfl, k3⟩
    replace HK := hide ((unhide HK).trans k3)
    clear k3 HDB
    go_wp2_with fail
    go_ret
    exact ⟨rfl, unhide HK⟩
  · have hz : er = 0 := by simpa using he
    have hbig : (8192 : Int) < (S.size : Int) := by
      rcases hno with h | h
      · exact absurd h he
      · exact h
    subst hz
    clear hno he
    go_enter Tryz.func4, Tryz.ntmps4
    go_wp2_with fail
    refine ((unhide HCH) _).mono ?_
    rintro _ w0 ⟨rfl, rfl⟩
    go_wp2_with fail
    refine ((unhide HSH) _ (Kept.refl _)).mono ?_
    rintro _ w1 ⟨rfl, k1⟩
    have HK := hide k1
    clear k1 HSH
    go_wp2_with fail
    refine ((unhide HAL) _ (unhide HK)).mono ?_
    rintro _ w2 ⟨o2, n2, c2, rfl, k2⟩
    replace HK := hide ((unhide HK).trans k2)
    clear k2 HAL
    go_wp2_with fail
    refine ((unhide HDB) _ (unhide HK)).mono ?_
    rintro _ w3 ⟨rfl, k3⟩
    replace HK := hide ((unhide HK).trans k3)
    clear k3 HDB
    go_wp2_with fail
    go_ret
    exact ⟨rfl, unhide HK⟩
set_option maxRecDepth 100000 in
set_option maxHeartbeats 8000000 in
theorem deskSteps_w (vp : Value) (fu m ef : Int) (k : Nat) (l : List Int) (S RR : ByteArray) (w : World) (hbig : ¬ (8192 : Int) < (S.size : Int)) (hl : l.length ≤ 30) (hI : ∀ z ∈ l, I64 z) (hm : I64 m) (hk : I64 (k : Int)) (he : I64 ef)
    (hR : RR = ⟨(Lib.itoa k ++ (if ef = 0 then [] else [32, 101, 114, 114, 111, 114, 32] ++ Lib.itoa ef) ++ [10] ++ (if l = [] then [45] else (blankS l).drop 1) ++ [10]).toArray⟩)
    (HCH : Hid (∀ u, Calls Tryz.prog 8 #[.int .i64 fu, .int .i64 501] u fun e w' => e = .returned (.int .i64 m) ∧ u = w'))
    (HSH : Hid (∀ u, Kept w u → Calls Tryz.prog 9 #[vp] u fun e w' => e = .returned (.tuple #[.string S, .int .i64 0]) ∧ Kept u w'))
    (HAL : Hid (∀ u, Kept w u → Calls Tryz.prog 10 #[vp, .int .i64 m] u fun e w' => ∃ ol nl cl, e = .returned (.tuple #[.slice ol nl cl, .int .i64 k, .int .i64 ef]) ∧ nl = l.length ∧ IntsW w' (.slice ol nl cl) l ∧ Kept u w'))
    (HPL : Hid (∀ u, Kept w u → Calls Tryz.prog 5 #[.string S, .string ⟨([115, 116, 101, 112, 32] ++ Lib.itoa m ++ [10, 111, 117, 116, 10]).toArray⟩] u fun e w' => e = .returned (.tuple #[.string RR, .int .i64 0]) ∧ Kept u w'))
    (HDB : Hid (∀ u, Kept w u → Calls Tryz.prog 7 #[] u fun e w' => e = .returned (.bool true) ∧ Kept u w')) :
    Calls Tryz.prog 4 #[vp, .int .i64 fu] w fun e w' => e = .returned (.bool true) ∧ Kept w w' := by
  have HDM := hide fun u => digits_all hm u
  have HDK := hide fun u => digits_all hk u
  have HDE := hide fun u => digits_all he u
  have HIA := hide hI
  have lm := itoa_len hm
  have lk := itoa_len hk
  have le := itoa_len he
  obtain ⟨E1, J1⟩ := strD_add [115, 116, 101, 112, 32] (Lib.itoa m) (by simp only [List.length_cons, List.length_nil]; omega)
  obtain ⟨E2, J2⟩ := strD_add ([115, 116, 101, 112, 32] ++ Lib.itoa m) [10, 111, 117, 116, 10] (by simp only [List.length_append, List.length_cons, List.length_nil]; omega)
  unfold strV at HDM HDK HDE
  have HR := hide hR
  have HLK := hide lk
  have HLE := hide le
  generalize hMB : (ByteArray.mk (Lib.itoa m).toArray) = MB at *
  generalize hSM : (ByteArray.mk ([115, 116, 101, 112, 32] ++ Lib.itoa m).toArray) = SM at *
  generalize hTT : (ByteArray.mk ([115, 116, 101, 112, 32] ++ Lib.itoa m ++ [10, 111, 117, 116, 10]).toArray) = TT at *
  replace J1 : ¬ 9223372036854775807 < 5 + MB.size := J1
  replace J2 : ¬ 9223372036854775807 < SM.size + 5 := J2
  clear hR hI lm lk le hMB hSM hTT
  go_enter Tryz.func4, Tryz.ntmps4
  go_wp2_with fail
  refine ((unhide HCH) _).mono ?_
  rintro _ w0 ⟨rfl, rfl⟩
  go_wp2_with fail
  refine ((unhide HSH) _ (Kept.refl _)).mono ?_
  rintro _ w1 ⟨rfl, k1⟩
  have HK := hide k1
  clear k1 HSH HCH
  go_wp2_with fail
  refine ((unhide HAL) _ (unhide HK)).mono ?_
  rintro _ w2 ⟨ol, nl, cl, rfl, hnl, hil, k2⟩
  replace HK := hide ((unhide HK).trans k2)
  have HIL := hide hil
  have HNL := hide hnl
  have hnl30 : nl ≤ 30 := by omega
  clear k2 HAL hil hnl
  go_wp2_with fail
  refine ((unhide HDM) _).mono ?_
  rintro _ w3 ⟨rfl, k3⟩
  have HK3 := hide k3
  clear k3 HDM
  go_wp2_with fail
  refine ((unhide HPL) _ ((unhide HK).trans (unhide HK3))).mono ?_
  rintro _ w4 ⟨rfl, k4⟩
  have HK4 := hide ((unhide HK3).trans k4)
  clear k4 HPL HK3 E1 E2 J1 J2
  go_wp2_with fail
  refine ((unhide HDK) _).mono ?_
  rintro _ w5 ⟨rfl, k5⟩
  have HK5 := hide ((unhide HK4).trans k5)
  clear k5 HDK HK4
  have hlk := unhide HLK
  have hle := unhide HLE
  by_cases hef : ef = 0
  · subst hef
    obtain ⟨WL, hWL⟩ : ∃ W, W = Lib.itoa (k : Int) := ⟨_, rfl⟩
    have HRW : Hid (RR = ⟨(WL ++ [10] ++ (if l = [] then [45] else (blankS l).drop 1) ++ [10]).toArray⟩) := hide (by rw [unhide HR, if_pos rfl, hWL]; simp)
    have hW100 : WL.length ≤ 100 := by rw [hWL]; omega
    rw [← hWL]
    have HKL := HK5
    clear HR hlk hle HLK HLE HDE hWL HK5
    have hWLn : WL.length ≤ 100 := by assumption
    generalize hWB : (ByteArray.mk WL.toArray) = WB at *
    have HWB := hide hWB
    clear hWB
    go_wp2_with fail
    obtain ⟨oa', cap', e', _, hi⟩ := unhide HIL
    simp only [Value.slice.injEq] at e'
    obtain ⟨rfl, -, rfl⟩ := e'
    have HII := hide hi
    clear hi
    go_loopw [14, 15] (fun s14 s15 wr => ∃ j : Nat, j ≤ nl ∧ s15 = .int .i64 (j : Int) ∧ s14 = .string ⟨(blankS (l.take j)).toArray⟩ ∧ Hid (Kept w2 wr)) (fun _ s15 _ => nl - (intOf s15).toNat)
    case atStart => exact ⟨0, Nat.zero_le _, rfl, rfl, HKL⟩
    case round =>
      obtain ⟨j, hjn, rfl, rfl, HW⟩ := hrel
      have hbl := blank_len (l.take j) (fun z hz => (unhide HIA) z (List.mem_of_mem_take hz))
      have hbl2 : (l.take j).length * 21 ≤ 30 * 21 := Nat.mul_le_mul_right _ (by simp; omega)
      have hbl3 : (blankS (l.take j)).length ≤ 630 := by omega
      clear hbl hbl2
      by_cases hj : j < nl
      · obtain ⟨z, hz⟩ : ∃ z, l[j]? = some z := ⟨_, List.getElem?_eq_getElem (by have := unhide HNL; omega)⟩
        obtain ⟨b, o, rfl, hcz⟩ := (unhide HII) j z hz
        replace hcz := (unhide HW).cell hcz
        have hzI := (unhide HIA) z (List.mem_of_getElem? hz)
        have HDZ := hide fun u => digits_all hzI u
        have lz := itoa_len hzI
        unfold strV at HDZ
        obtain ⟨E3, J3⟩ := strD_add (blankS (l.take j)) [32] (by simp only [List.length_cons, List.length_nil]; omega)
        obtain ⟨E4, J4⟩ := strD_add (blankS (l.take j) ++ [32]) (Lib.itoa z) (by simp only [List.length_append, List.length_cons, List.length_nil]; omega)
        have HNB : Hid (blankS (l.take j) ++ [32] ++ Lib.itoa z = blankS (l.take (j + 1))) := hide (by
          unfold blankS
          rw [List.take_add_one, hz, List.flatMap_append]
          simp)
        rw [unhide HNB] at E4
        have hj0 : (0 : Int) ≤ (j : Int) := by omega
        have hj1 : (j : Int) < (nl : Int) := by omega
        generalize (ByteArray.mk (blankS (l.take j)).toArray) = BJ at *
        generalize (ByteArray.mk (blankS (l.take j) ++ [32]).toArray) = BK at *
        generalize hBN : (ByteArray.mk (blankS (l.take (j + 1))).toArray) = BN at *
        generalize (ByteArray.mk (Lib.itoa z).toArray) = ZB at *
        replace J3 : ¬ 9223372036854775807 < BJ.size + 1 := J3
        have HBN := hide hBN
        clear hBN hz lz hbl3
        go_wp2_with fail
        refine ((unhide HDZ) _).mono ?_
        rintro _ w6 ⟨rfl, k6⟩
        have HW6 := hide ((unhide HW).trans k6)
        clear k6 HDZ hcz
        go_wp2_with fail
        go_roundw
        case rel => exact ⟨j + 1, by omega, by go_num, by rw [unhide HBN], HW6⟩
        case measure => simp [intOf]; omega
      · obtain rfl : j = nl := by omega
        have hall : l.take j = l := List.take_of_length_le (by have := unhide HNL; omega)
        rw [hall] at hbl3 ⊢
        have HKE := hide ((unhide HK).trans (unhide HW))
        clear HW hall HII HIL
        by_cases h0 : l = []
        · obtain ⟨OB, hOB⟩ : ∃ O : List UInt8, O = [32, 45] := ⟨_, rfl⟩
          have hOB1 : 1 ≤ OB.length := by rw [hOB]; simp
          have hOBL : OB.length ≤ 1000 := by rw [hOB]; simp
          have HOBX : (if l = [] then [45] else (blankS l).drop 1) = OB.drop 1 := by rw [if_pos h0, hOB]; rfl
          have hbe : blankS l = [] := by rw [h0]; rfl
          rw [hbe]
          obtain ⟨E5, J5⟩ := strD_add WL [10] (by simp only [List.length_cons, List.length_nil]; omega)
          obtain ⟨E6, J6⟩ := strD_add (WL ++ [10]) (OB.drop 1) (by simp only [List.length_append, List.length_cons, List.length_nil, List.length_drop]; omega)
          obtain ⟨E7, J7⟩ := strD_add (WL ++ [10] ++ OB.drop 1) [10] (by simp only [List.length_append, List.length_cons, List.length_nil, List.length_drop]; omega)
          have hsl := slice_from OB hOB1
          have hq : (RR.toList == (ByteArray.mk (WL ++ [10] ++ OB.drop 1 ++ [10]).toArray).toList) = true := by
            rw [unhide HRW, HOBX]
            simp
          rw [unhide HWB] at E5 J5
          replace J5 : ¬ 9223372036854775807 < WB.size + 1 := J5
          generalize (ByteArray.mk (WL ++ [10] ++ OB.drop 1 ++ [10]).toArray) = X3 at *
          generalize (ByteArray.mk (WL ++ [10] ++ OB.drop 1).toArray) = X2 at *
          generalize (ByteArray.mk (WL ++ [10]).toArray) = X1 at *
          replace J7 : ¬ 9223372036854775807 < X2.size + 1 := J7
          subst hOB
          replace hsl : ∀ u, (Instr.slice 9 (.string ⟨#[32, 45]⟩) (some (.int .i64 1)) none none).run Tryz.prog u = .ok (.string ⟨#[45]⟩) u := hsl
          replace E6 : X1 ++ ⟨#[45]⟩ = X2 := E6
          replace J6 : ¬ 9223372036854775807 < X1.size + 1 := J6
          clear hOB1 hOBL HOBX hbe hbl3
          go_wp2_with fail
          refine ((unhide HDB) _ (unhide HKE)).mono ?_
          rintro _ w9 ⟨rfl, k9⟩
          have HK9 := hide ((unhide HKE).trans k9)
          clear k9 HDB HKE
          go_wp2_with fail
          go_ret
          exact ⟨rfl, unhide HK9⟩
        · obtain ⟨OB, hOB⟩ : ∃ O : List UInt8, O = blankS l := ⟨_, rfl⟩
          have hOB1 : 1 ≤ OB.length := by
            rw [hOB]
            unfold blankS
            cases hq : l with
            | nil => exact absurd hq h0
            | cons x r => simp
          have hOBL : OB.length ≤ 1000 := by rw [hOB]; omega
          have HOBX : (if l = [] then [45] else (blankS l).drop 1) = OB.drop 1 := by rw [if_neg h0, hOB]
          rw [← hOB]
          have hOe : ((ByteArray.mk OB.toArray).toList == []) = false := by
            rw [ByteArray.toList_mk]
            cases OB with
            | nil => simp at hOB1
            | cons x r => rfl
          obtain ⟨E5, J5⟩ := strD_add WL [10] (by simp only [List.length_cons, List.length_nil]; omega)
          obtain ⟨E6, J6⟩ := strD_add (WL ++ [10]) (OB.drop 1) (by simp only [List.length_append, List.length_cons, List.length_nil, List.length_drop]; omega)
          obtain ⟨E7, J7⟩ := strD_add (WL ++ [10] ++ OB.drop 1) [10] (by simp only [List.length_append, List.length_cons, List.length_nil, List.length_drop]; omega)
          have hsl := slice_from OB hOB1
          have hq : (RR.toList == (ByteArray.mk (WL ++ [10] ++ OB.drop 1 ++ [10]).toArray).toList) = true := by
            rw [unhide HRW, HOBX]
            simp
          rw [unhide HWB] at E5 J5
          replace J5 : ¬ 9223372036854775807 < WB.size + 1 := J5
          generalize (ByteArray.mk (WL ++ [10] ++ OB.drop 1 ++ [10]).toArray) = X3 at *
          generalize (ByteArray.mk (WL ++ [10] ++ OB.drop 1).toArray) = X2 at *
          generalize (ByteArray.mk (WL ++ [10]).toArray) = X1 at *
          replace J7 : ¬ 9223372036854775807 < X2.size + 1 := J7
          generalize (ByteArray.mk (OB.drop 1).toArray) = XD at *
          generalize (ByteArray.mk OB.toArray) = OO at *
          clear hOB1 hOBL HOBX hOB hbl3
          go_wp2_with fail
          refine ((unhide HDB) _ (unhide HKE)).mono ?_
          rintro _ w9 ⟨rfl, k9⟩
          have HK9 := hide ((unhide HKE).trans k9)
          clear k9 HDB HKE
          go_wp2_with fail
          go_ret
          exact ⟨rfl, unhide HK9⟩
  · have hefb : (ef == 0) = false := by simpa using hef
    have hefc : (ef != 0) = true := by rw [bne_iff_ne]; exact hef
    obtain ⟨E8, J8⟩ := strD_add (Lib.itoa (k : Int)) [32, 101, 114, 114, 111, 114, 32] (by simp only [List.length_cons, List.length_nil]; omega)
    obtain ⟨E9, J9⟩ := strD_add (Lib.itoa (k : Int) ++ [32, 101, 114, 114, 111, 114, 32]) (Lib.itoa ef) (by simp only [List.length_append, List.length_cons, List.length_nil]; omega)
    obtain ⟨WL, hWL⟩ : ∃ W, W = Lib.itoa (k : Int) ++ [32, 101, 114, 114, 111, 114, 32] ++ Lib.itoa ef := ⟨_, rfl⟩
    have HRW : Hid (RR = ⟨(WL ++ [10] ++ (if l = [] then [45] else (blankS l).drop 1) ++ [10]).toArray⟩) := hide (by rw [unhide HR, if_neg hef, hWL]; simp)
    have hW100 : WL.length ≤ 100 := by rw [hWL]; simp only [List.length_append, List.length_cons, List.length_nil]; omega
    rw [← hWL] at E9
    generalize (ByteArray.mk (Lib.itoa (k : Int)).toArray) = KB at *
    generalize (ByteArray.mk (Lib.itoa (k : Int) ++ [32, 101, 114, 114, 111, 114, 32]).toArray) = KC at *
    generalize (ByteArray.mk (Lib.itoa ef).toArray) = EB at *
    replace J8 : ¬ 9223372036854775807 < KB.size + 7 := J8
    clear HR hlk hle HLK HLE hWL
    go_wp2_with fail
    refine ((unhide HDE) _).mono ?_
    rintro _ w7 ⟨rfl, k7⟩
    have HKL := hide ((unhide HK5).trans k7)
    clear k7 HDE HK5
    have hWLn : WL.length ≤ 100 := by assumption
    generalize hWB : (ByteArray.mk WL.toArray) = WB at *
    have HWB := hide hWB
    clear hWB
    go_wp2_with fail
    obtain ⟨oa', cap', e', _, hi⟩ := unhide HIL
    simp only [Value.slice.injEq] at e'
    obtain ⟨rfl, -, rfl⟩ := e'
    have HII := hide hi
    clear hi
    go_loopw [14, 15] (fun s14 s15 wr => ∃ j : Nat, j ≤ nl ∧ s15 = .int .i64 (j : Int) ∧ s14 = .string ⟨(blankS (l.take j)).toArray⟩ ∧ Hid (Kept w2 wr)) (fun _ s15 _ => nl - (intOf s15).toNat)
    case atStart => exact ⟨0, Nat.zero_le _, rfl, rfl, HKL⟩
    case round =>
      obtain ⟨j, hjn, rfl, rfl, HW⟩ := hrel
      have hbl := blank_len (l.take j) (fun z hz => (unhide HIA) z (List.mem_of_mem_take hz))
      have hbl2 : (l.take j).length * 21 ≤ 30 * 21 := Nat.mul_le_mul_right _ (by simp; omega)
      have hbl3 : (blankS (l.take j)).length ≤ 630 := by omega
      clear hbl hbl2
      by_cases hj : j < nl
      · obtain ⟨z, hz⟩ : ∃ z, l[j]? = some z := ⟨_, List.getElem?_eq_getElem (by have := unhide HNL; omega)⟩
        obtain ⟨b, o, rfl, hcz⟩ := (unhide HII) j z hz
        replace hcz := (unhide HW).cell hcz
        have hzI := (unhide HIA) z (List.mem_of_getElem? hz)
        have HDZ := hide fun u => digits_all hzI u
        have lz := itoa_len hzI
        unfold strV at HDZ
        obtain ⟨E3, J3⟩ := strD_add (blankS (l.take j)) [32] (by simp only [List.length_cons, List.length_nil]; omega)
        obtain ⟨E4, J4⟩ := strD_add (blankS (l.take j) ++ [32]) (Lib.itoa z) (by simp only [List.length_append, List.length_cons, List.length_nil]; omega)
        have HNB : Hid (blankS (l.take j) ++ [32] ++ Lib.itoa z = blankS (l.take (j + 1))) := hide (by
          unfold blankS
          rw [List.take_add_one, hz, List.flatMap_append]
          simp)
        rw [unhide HNB] at E4
        have hj0 : (0 : Int) ≤ (j : Int) := by omega
        have hj1 : (j : Int) < (nl : Int) := by omega
        generalize (ByteArray.mk (blankS (l.take j)).toArray) = BJ at *
        generalize (ByteArray.mk (blankS (l.take j) ++ [32]).toArray) = BK at *
        generalize hBN : (ByteArray.mk (blankS (l.take (j + 1))).toArray) = BN at *
        generalize (ByteArray.mk (Lib.itoa z).toArray) = ZB at *
        replace J3 : ¬ 9223372036854775807 < BJ.size + 1 := J3
        have HBN := hide hBN
        clear hBN hz lz hbl3
        go_wp2_with fail
        refine ((unhide HDZ) _).mono ?_
        rintro _ w6 ⟨rfl, k6⟩
        have HW6 := hide ((unhide HW).trans k6)
        clear k6 HDZ hcz
        go_wp2_with fail
        go_roundw
        case rel => exact ⟨j + 1, by omega, by go_num, by rw [unhide HBN], HW6⟩
        case measure => simp [intOf]; omega
      · obtain rfl : j = nl := by omega
        have hall : l.take j = l := List.take_of_length_le (by have := unhide HNL; omega)
        rw [hall] at hbl3 ⊢
        have HKE := hide ((unhide HK).trans (unhide HW))
        clear HW hall HII HIL
        by_cases h0 : l = []
        · obtain ⟨OB, hOB⟩ : ∃ O : List UInt8, O = [32, 45] := ⟨_, rfl⟩
          have hOB1 : 1 ≤ OB.length := by rw [hOB]; simp
          have hOBL : OB.length ≤ 1000 := by rw [hOB]; simp
          have HOBX : (if l = [] then [45] else (blankS l).drop 1) = OB.drop 1 := by rw [if_pos h0, hOB]; rfl
          have hbe : blankS l = [] := by rw [h0]; rfl
          rw [hbe]
          obtain ⟨E5, J5⟩ := strD_add WL [10] (by simp only [List.length_cons, List.length_nil]; omega)
          obtain ⟨E6, J6⟩ := strD_add (WL ++ [10]) (OB.drop 1) (by simp only [List.length_append, List.length_cons, List.length_nil, List.length_drop]; omega)
          obtain ⟨E7, J7⟩ := strD_add (WL ++ [10] ++ OB.drop 1) [10] (by simp only [List.length_append, List.length_cons, List.length_nil, List.length_drop]; omega)
          have hsl := slice_from OB hOB1
          have hq : (RR.toList == (ByteArray.mk (WL ++ [10] ++ OB.drop 1 ++ [10]).toArray).toList) = true := by
            rw [unhide HRW, HOBX]
            simp
          rw [unhide HWB] at E5 J5
          replace J5 : ¬ 9223372036854775807 < WB.size + 1 := J5
          generalize (ByteArray.mk (WL ++ [10] ++ OB.drop 1 ++ [10]).toArray) = X3 at *
          generalize (ByteArray.mk (WL ++ [10] ++ OB.drop 1).toArray) = X2 at *
          generalize (ByteArray.mk (WL ++ [10]).toArray) = X1 at *
          replace J7 : ¬ 9223372036854775807 < X2.size + 1 := J7
          subst hOB
          replace hsl : ∀ u, (Instr.slice 9 (.string ⟨#[32, 45]⟩) (some (.int .i64 1)) none none).run Tryz.prog u = .ok (.string ⟨#[45]⟩) u := hsl
          replace E6 : X1 ++ ⟨#[45]⟩ = X2 := E6
          replace J6 : ¬ 9223372036854775807 < X1.size + 1 := J6
          clear hOB1 hOBL HOBX hbe hbl3
          go_wp2_with fail
          refine ((unhide HDB) _ (unhide HKE)).mono ?_
          rintro _ w9 ⟨rfl, k9⟩
          have HK9 := hide ((unhide HKE).trans k9)
          clear k9 HDB HKE
          go_wp2_with fail
          go_ret
          exact ⟨rfl, unhide HK9⟩
        · obtain ⟨OB, hOB⟩ : ∃ O : List UInt8, O = blankS l := ⟨_, rfl⟩
          have hOB1 : 1 ≤ OB.length := by
            rw [hOB]
            unfold blankS
            cases hq : l with
            | nil => exact absurd hq h0
            | cons x r => simp
          have hOBL : OB.length ≤ 1000 := by rw [hOB]; omega
          have HOBX : (if l = [] then [45] else (blankS l).drop 1) = OB.drop 1 := by rw [if_neg h0, hOB]
          rw [← hOB]
          have hOe : ((ByteArray.mk OB.toArray).toList == []) = false := by
            rw [ByteArray.toList_mk]
            cases OB with
            | nil => simp at hOB1
            | cons x r => rfl
          obtain ⟨E5, J5⟩ := strD_add WL [10] (by simp only [List.length_cons, List.length_nil]; omega)
          obtain ⟨E6, J6⟩ := strD_add (WL ++ [10]) (OB.drop 1) (by simp only [List.length_append, List.length_cons, List.length_nil, List.length_drop]; omega)
          obtain ⟨E7, J7⟩ := strD_add (WL ++ [10] ++ OB.drop 1) [10] (by simp only [List.length_append, List.length_cons, List.length_nil, List.length_drop]; omega)
          have hsl := slice_from OB hOB1
          have hq : (RR.toList == (ByteArray.mk (WL ++ [10] ++ OB.drop 1 ++ [10]).toArray).toList) = true := by
            rw [unhide HRW, HOBX]
            simp
          rw [unhide HWB] at E5 J5
          replace J5 : ¬ 9223372036854775807 < WB.size + 1 := J5
          generalize (ByteArray.mk (WL ++ [10] ++ OB.drop 1 ++ [10]).toArray) = X3 at *
          generalize (ByteArray.mk (WL ++ [10] ++ OB.drop 1).toArray) = X2 at *
          generalize (ByteArray.mk (WL ++ [10]).toArray) = X1 at *
          replace J7 : ¬ 9223372036854775807 < X2.size + 1 := J7
          generalize (ByteArray.mk (OB.drop 1).toArray) = XD at *
          generalize (ByteArray.mk OB.toArray) = OO at *
          clear hOB1 hOBL HOBX hOB hbl3
          go_wp2_with fail
          refine ((unhide HDB) _ (unhide HKE)).mono ?_
          rintro _ w9 ⟨rfl, k9⟩
          have HK9 := hide ((unhide HKE).trans k9)
          clear k9 HDB HKE
          go_wp2_with fail
          go_ret
          exact ⟨rfl, unhide HK9⟩
end Go.Proofs.YtokhibfenccijaaGreatDoor
