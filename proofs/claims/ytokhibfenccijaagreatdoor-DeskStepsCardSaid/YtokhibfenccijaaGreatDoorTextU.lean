/-
  The reference's numbers in words: Digits.
-/
import Derived.Test.YtokhibfenccijaaGreatDoorKB01
namespace Go.Proofs.YtokhibfenccijaaGreatDoor
open Go.RowKit Go.Maps

theorem u8wrap (n : Nat) : IntKind.wrap .u8 (48 + (n : Int).tmod 10) = 48 + (n : Int) % 10 := by
  rw [Int.tmod_eq_emod_of_nonneg (by omega)]
  unfold IntKind.wrap
  simp [IntKind.signed, IntKind.bits]
  omega
theorem decDigits_small {n : Nat} (h : n < 10) : Lib.decDigits n = [UInt8.ofNat (48 + n)] := by unfold Lib.decDigits; rw [dif_pos h]
theorem decDigits_great {n : Nat} (h : ¬ n < 10) : Lib.decDigits n = Lib.decDigits (n / 10) ++ [UInt8.ofNat (48 + n % 10)] := by rw [Lib.decDigits, dif_neg h]
theorem digit_conv (n : Nat) (w : World) : (convert 49 9 (.slice (some ⟨w.heap.size, 0, none⟩) 1 1)).run Tryz.prog (w.alloc (.cells #[.int .u8 (48 + (n : Int) % 10)] 5)) = .ok (.string ⟨[UInt8.ofNat (48 + n % 10)].toArray⟩) (w.alloc (.cells #[.int .u8 (48 + (n : Int) % 10)] 5)) :=
  run_convert_bytes_back (P := Tryz.prog) (w.alloc (.cells #[.int .u8 (48 + (n : Int) % 10)] 5)) 49 9 5 ⟨w.heap.size, 0, none⟩ 1 [UInt8.ofNat (48 + n % 10)] Tryz.underlying49 Tryz.underlying5 Tryz.underlying9 (fun j hj => by
    have : j = 0 := by simpa using hj
    subst this
    rw [show ((⟨w.heap.size, 0, none⟩ : Addr).add 0) = ⟨w.heap.size, 0, none⟩ from rfl, cell_lays (lays_new (w := w) (o := .cells #[.int .u8 (48 + (n : Int) % 10)] 5) rfl)]
    simp
    omega)
set_option maxRecDepth 100000 in
set_option maxHeartbeats 4000000 in
theorem digits_small (n : Nat) (h : n < 10) (w : World) : Calls Tryz.prog 11 #[.int .i64 (n : Int)] w fun e w' => e = .returned (strV (Lib.decDigits n)) ∧ Kept w w' := by
  have hcv := digit_conv n w
  have hn : ¬ (n : Int) < 0 := by omega
  have h1 : (n : Int) < 10 := by omega
  have hw := u8wrap n
  rw [decDigits_small h]
  rw [Nat.mod_eq_of_lt h] at hcv
  unfold strV
  generalize (ByteArray.mk [UInt8.ofNat (48 + n)].toArray) = S at *
  go_enter Tryz.func11, Tryz.ntmps11
  go_wp2_with fail
  go_ret
  exact ⟨rfl, (Kept.refl w).alloc _⟩
set_option maxRecDepth 100000 in
set_option maxHeartbeats 4000000 in
theorem digits_great (n : Nat) (h : ¬ n < 10) (hx : n < 9223372036854775808) (w : World) (HC : Hid (∀ u, Calls Tryz.prog 11 #[.int .i64 ((n / 10 : Nat) : Int)] u fun e w' => e = .returned (strV (Lib.decDigits (n / 10))) ∧ Kept u w')) :
    Calls Tryz.prog 11 #[.int .i64 (n : Int)] w fun e w' => e = .returned (strV (Lib.decDigits n)) ∧ Kept w w' := by
  have hcv := digit_conv n w
  have hn : ¬ (n : Int) < 0 := by omega
  have h1 : ¬ (n : Int) < 10 := by omega
  have hw := u8wrap n
  have hd : Hid ((n : Int) / 10 = ((n / 10 : Nat) : Int)) := hide (by omega)
  have hx1 : (n : Int) ≤ 9223372036854775807 := by omega
  have hE := strs_app (Lib.decDigits (n / 10)) [UInt8.ofNat (48 + n % 10)]
  have hJ : ¬ 9223372036854775807 < (ByteArray.mk (Lib.decDigits (n / 10)).toArray).size + (ByteArray.mk [UInt8.ofNat (48 + n % 10)].toArray).size := by
    have := dec_len (n / 10) 19 (by omega) (by omega)
    simp only [ByteArray.size, List.size_toArray, List.length_singleton]
    omega
  rw [decDigits_great h]
  unfold strV at *
  generalize (ByteArray.mk [UInt8.ofNat (48 + n % 10)].toArray) = S at *
  generalize (ByteArray.mk (Lib.decDigits (n / 10)).toArray) = J at *
  generalize (ByteArray.mk (Lib.decDigits (n / 10) ++ [UInt8.ofNat (48 + n % 10)]).toArray) = R at *
  go_enter Tryz.func11, Tryz.ntmps11
  go_wp2_with fail
  rw [unhide hd]
  refine ((unhide HC) _).mono ?_
  rintro _ w2 ⟨rfl, k2⟩
  have HK := hide (((Kept.refl w).alloc (.cells #[.int .u8 (48 + (n : Int) % 10)] 5)).trans k2)
  clear k2 HC hcv
  go_wp2_with fail
  go_ret
  exact ⟨rfl, unhide HK⟩
theorem digits_nat (n : Nat) : n < 9223372036854775808 → ∀ w : World, Calls Tryz.prog 11 #[.int .i64 (n : Int)] w fun e w' => e = .returned (strV (Lib.decDigits n)) ∧ Kept w w' := by
  induction n using Nat.strongRecOn with
  | ind n ih =>
    intro hx w
    by_cases h : n < 10
    · exact digits_small n h w
    · exact digits_great n h hx w (hide fun u => ih (n / 10) (by omega) (by omega) u)
theorem digits_any {z : Int} (h0 : 0 ≤ z) (h1 : z < 1000000000) (w : World) : Calls Tryz.prog 11 #[.int .i64 z] w fun e w' => e = .returned (strV (Lib.itoa z)) ∧ Kept w w' := by
  obtain ⟨k, rfl⟩ := Int.eq_ofNat_of_zero_le h0
  have hi : Lib.itoa (k : Int) = Lib.decDigits k := by unfold Lib.itoa; rw [if_neg (by omega), Int.toNat_natCast]
  rw [hi]
  exact digits_nat k (by omega) w
set_option maxRecDepth 100000 in
set_option maxHeartbeats 4000000 in
theorem digits_neg (n : Nat) (h0 : 0 < n) (h1 : n < 9223372036854775808) (w : World) : Calls Tryz.prog 11 #[.int .i64 (-(n : Int))] w fun e w' => e = .returned (strV (45 :: Lib.decDigits n)) ∧ Kept w w' := by
  have HC := hide (digits_nat n h1)
  have hn : -(n : Int) < 0 := by omega
  have hx1 : (n : Int) ≤ 9223372036854775807 := by omega
  have hx0 : (0 : Int) < (n : Int) := by omega
  have hne : (-(n : Int) == (n : Int)) = false := by simp; omega
  have hE := strs_app [45] (Lib.decDigits n)
  have hJ : ¬ 9223372036854775807 < 1 + (ByteArray.mk (Lib.decDigits n).toArray).size := by
    have := dec_len n 19 (by omega) (by omega)
    simp only [ByteArray.size, List.size_toArray]
    omega
  have hNN : Hid (- -(n : Int) = (n : Int)) := hide (by omega)
  unfold strV at *
  rw [show (45 :: Lib.decDigits n) = [45] ++ Lib.decDigits n from rfl]
  generalize (ByteArray.mk (Lib.decDigits n).toArray) = J at *
  generalize (ByteArray.mk ([45] ++ Lib.decDigits n).toArray) = R at *
  go_enter Tryz.func11, Tryz.ntmps11
  go_wp2_with fail
  refine ((unhide HC) _).mono ?_
  rintro _ w2 ⟨rfl, k2⟩
  have HK := hide k2
  clear k2 HC
  go_wp2_with fail
  go_ret
  exact ⟨rfl, unhide HK⟩
set_option maxRecDepth 100000 in
theorem digits_min (w : World) : Calls Tryz.prog 11 #[.int .i64 (-9223372036854775808)] w fun e w' => e = .returned (.string ⟨#[45, 57, 50, 50, 51, 51, 55, 50, 48, 51, 54, 56, 53, 52, 55, 55, 53, 56, 48, 56]⟩) ∧ Kept w w' := by
  have hw : wrap64 9223372036854775808 = -9223372036854775808 := by kernel_rfl
  have hb : ((-9223372036854775808 : Int) == wrap64 9223372036854775808) = true := by rw [hw]; rfl
  go_enter Tryz.func11, Tryz.ntmps11
  go_wp2_with fail
  go_ret
  exact ⟨rfl, Kept.refl _⟩
theorem itoa_min : Lib.itoa (-9223372036854775808) = [45, 57, 50, 50, 51, 51, 55, 50, 48, 51, 54, 56, 53, 52, 55, 55, 53, 56, 48, 56] := by
  unfold Lib.itoa
  rw [if_pos (by omega)]
  simp [decDigits_great, decDigits_small]
/-- Digits, of any integer. -/
theorem digits_all {z : Int} (h : I64 z) (w : World) : Calls Tryz.prog 11 #[.int .i64 z] w fun e w' => e = .returned (strV (Lib.itoa z)) ∧ Kept w w' := by
  unfold I64 at h
  by_cases h0 : 0 ≤ z
  · obtain ⟨k, rfl⟩ := Int.eq_ofNat_of_zero_le h0
    have hi : Lib.itoa (k : Int) = Lib.decDigits k := by unfold Lib.itoa; rw [if_neg (by omega), Int.toNat_natCast]
    rw [hi]
    exact digits_nat k (by omega) w
  · by_cases hm : z = -9223372036854775808
    · subst hm
      rw [itoa_min]
      exact digits_min w
    · obtain ⟨k, hk⟩ : ∃ k : Nat, z = -(k : Int) := ⟨(-z).toNat, by omega⟩
      subst hk
      have hi : Lib.itoa (-(k : Int)) = 45 :: Lib.decDigits k := by
        unfold Lib.itoa
        rw [if_pos (by omega)]
        simp
      rw [hi]
      exact digits_neg k (by omega) (by omega) w
end Go.Proofs.YtokhibfenccijaaGreatDoor
