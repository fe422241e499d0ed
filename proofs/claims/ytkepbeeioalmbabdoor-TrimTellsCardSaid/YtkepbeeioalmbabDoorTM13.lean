/- OpI -/
import Derived.Test.YtkepbeeioalmbabDoorTM12
import Derived.Test.YtkepbeeioalmbabDoorTM02
import Derived.Test.YtkepbeeioalmbabDoorTM09
set_option maxRecDepth 100000
set_option maxHeartbeats 8000000
namespace Go.Proofs.YtkepbeeioalmbabDoor
open Go.RowKit
theorem badArgs_any (a l : Int) (c : Value) (w : World) :
    Calls Tryd.prog 39 #[.agg #[.int .i64 a, .int .i64 l, c]] w fun e w' => e = .returned (.bool (!roomB a l)) ∧ w' = w.alloc (.cells #[.int .i64 a, .int .i64 l, c] 36) := by
  by_cases h1 : 0 ≤ a
  · by_cases h2 : a ≤ l
    · by_cases h3 : l ≤ 4
      · rw [show roomB a l = true from by rw [roomB_iff]; exact ⟨h1, h2, h3⟩]
        have g1 : decide (a < 0) = false := by simpa using h1
        have g2 : decide (l < a) = false := by simpa using h2
        have g3 : decide (4 < l) = false := by simpa using h3
        go_enter Tryd.func39, Tryd.ntmps39
        go_wp2
        go_ret
        exact ⟨rfl, rfl⟩
      · rw [show roomB a l = false from by rw [← Bool.not_eq_true, roomB_iff]; omega]
        go_enter Tryd.func39, Tryd.ntmps39
        go_wp2
        go_ret
        exact ⟨rfl, rfl⟩
    · rw [show roomB a l = false from by rw [← Bool.not_eq_true, roomB_iff]; omega]
      go_enter Tryd.func39, Tryd.ntmps39
      go_wp2
      go_ret
      exact ⟨rfl, rfl⟩
  · rw [show roomB a l = false from by rw [← Bool.not_eq_true, roomB_iff]; omega]
    go_enter Tryd.func39, Tryd.ntmps39
    go_wp2
    go_ret
    exact ⟨rfl, rfl⟩
theorem opErr_bad (kd a fi : Int) (v : Value) (w : World) (hb : inB kd 0 16 = false) (h0 : (kd == 0) = false) (h2 : (kd == 2) = false) (h3 : (kd == 3) = false) (h9 : (kd == 9) = false) (h10 : (kd == 10) = false) (h11 : (kd == 11) = false) (h13 : (kd == 13) = false) :
    Calls Tryd.prog 40 #[v, .int .i64 fi, .agg #[.int .i64 kd, .int .i64 a]] w fun e w' => e = .returned (.int .i64 4) ∧ Kept w w' := by
  go_enter Tryd.func40, Tryd.ntmps40
  go_wp2_with (go_at_call 25; refine (within_any _ _ _ _).mono ?_; rintro e w' ⟨rfl, rfl⟩)
  go_ret
  exact ⟨rfl, (Kept.refl _).alloc _⟩
theorem opErr0_false (a : Int) (fi : Int) (v : Value) (w : World) (hb : inB a 0 999 = false) :
    Calls Tryd.prog 40 #[v, .int .i64 fi, .agg #[.int .i64 0, .int .i64 a]] w fun e w' => e = .returned (.int .i64 3) ∧ Kept w w' := by
  have hk : inB 0 0 16 = true := rfl
  go_enter Tryd.func40, Tryd.ntmps40
  go_wp2_with (go_at_call 25; refine (within_any _ _ _ _).mono ?_; rintro e w' ⟨rfl, rfl⟩)
  go_ret
  exact ⟨rfl, (Kept.refl _).alloc _⟩
theorem opErr0_true (a : Int) (fi : Int) (v : Value) (w : World) (hb : inB a 0 999 = true) :
    Calls Tryd.prog 40 #[v, .int .i64 fi, .agg #[.int .i64 0, .int .i64 a]] w fun e w' => e = .returned (.int .i64 0) ∧ Kept w w' := by
  have hk : inB 0 0 16 = true := rfl
  go_enter Tryd.func40, Tryd.ntmps40
  go_wp2_with (go_at_call 25; refine (within_any _ _ _ _).mono ?_; rintro e w' ⟨rfl, rfl⟩)
  go_ret
  exact ⟨rfl, (Kept.refl _).alloc _⟩
theorem opErr1_false (a : Int) (fi : Int) (v : Value) (w : World) (hb : inB a 0 0 = false) :
    Calls Tryd.prog 40 #[v, .int .i64 fi, .agg #[.int .i64 1, .int .i64 a]] w fun e w' => e = .returned (.int .i64 3) ∧ Kept w w' := by
  have hk : inB 1 0 16 = true := rfl
  go_enter Tryd.func40, Tryd.ntmps40
  go_wp2_with (go_at_call 25; refine (within_any _ _ _ _).mono ?_; rintro e w' ⟨rfl, rfl⟩)
  go_ret
  exact ⟨rfl, (Kept.refl _).alloc _⟩
theorem opErr1_true (a : Int) (fi : Int) (v : Value) (w : World) (hb : inB a 0 0 = true) :
    Calls Tryd.prog 40 #[v, .int .i64 fi, .agg #[.int .i64 1, .int .i64 a]] w fun e w' => e = .returned (.int .i64 0) ∧ Kept w w' := by
  have hk : inB 1 0 16 = true := rfl
  go_enter Tryd.func40, Tryd.ntmps40
  go_wp2_with (go_at_call 25; refine (within_any _ _ _ _).mono ?_; rintro e w' ⟨rfl, rfl⟩)
  go_ret
  exact ⟨rfl, (Kept.refl _).alloc _⟩
theorem opErr2_false (a : Int) (i b o n cap : Nat) (lo : Int) (w : World) (hi : i < n) (hlo : 0 ≤ lo) (hl4 : lo ≤ 4) (c1 : w.cell? ⟨b, o + i * 3 + 1, none⟩ = some (.int .i64 lo)) (hb : inB a 0 (lo - 1) = false) :
    Calls Tryd.prog 40 #[.slice (some ⟨b, o, none⟩) n cap, .int .i64 i, .agg #[.int .i64 2, .int .i64 a]] w fun e w' => e = .returned (.int .i64 3) ∧ Kept w w' := by
  have hk : inB 2 0 16 = true := rfl
  have d1 := ((Kept.refl w).alloc (.cells #[.int .i64 2, .int .i64 a] 38)).cell c1
  clear c1
  go_enter Tryd.func40, Tryd.ntmps40
  go_wp2_with (go_at_call 25; refine (within_any _ _ _ _).mono ?_; rintro e w' ⟨rfl, rfl⟩)
  go_ret
  exact ⟨rfl, (Kept.refl _).alloc _⟩
theorem opErr2_true (a : Int) (i b o n cap : Nat) (lo : Int) (w : World) (hi : i < n) (hlo : 0 ≤ lo) (hl4 : lo ≤ 4) (c1 : w.cell? ⟨b, o + i * 3 + 1, none⟩ = some (.int .i64 lo)) (hb : inB a 0 (lo - 1) = true) :
    Calls Tryd.prog 40 #[.slice (some ⟨b, o, none⟩) n cap, .int .i64 i, .agg #[.int .i64 2, .int .i64 a]] w fun e w' => e = .returned (.int .i64 0) ∧ Kept w w' := by
  have hk : inB 2 0 16 = true := rfl
  have d1 := ((Kept.refl w).alloc (.cells #[.int .i64 2, .int .i64 a] 38)).cell c1
  clear c1
  go_enter Tryd.func40, Tryd.ntmps40
  go_wp2_with (go_at_call 25; refine (within_any _ _ _ _).mono ?_; rintro e w' ⟨rfl, rfl⟩)
  go_ret
  exact ⟨rfl, (Kept.refl _).alloc _⟩
theorem opErr3_false (a : Int) (i b o n cap : Nat) (lo : Int) (w : World) (hi : i < n) (hlo : 0 ≤ lo) (hl4 : lo ≤ 4) (c1 : w.cell? ⟨b, o + i * 3 + 1, none⟩ = some (.int .i64 lo)) (hb : inB a 0 (lo - 1) = false) :
    Calls Tryd.prog 40 #[.slice (some ⟨b, o, none⟩) n cap, .int .i64 i, .agg #[.int .i64 3, .int .i64 a]] w fun e w' => e = .returned (.int .i64 3) ∧ Kept w w' := by
  have hk : inB 3 0 16 = true := rfl
  have d1 := ((Kept.refl w).alloc (.cells #[.int .i64 3, .int .i64 a] 38)).cell c1
  clear c1
  go_enter Tryd.func40, Tryd.ntmps40
  go_wp2_with (go_at_call 25; refine (within_any _ _ _ _).mono ?_; rintro e w' ⟨rfl, rfl⟩)
  go_ret
  exact ⟨rfl, (Kept.refl _).alloc _⟩
theorem opErr3_true (a : Int) (i b o n cap : Nat) (lo : Int) (w : World) (hi : i < n) (hlo : 0 ≤ lo) (hl4 : lo ≤ 4) (c1 : w.cell? ⟨b, o + i * 3 + 1, none⟩ = some (.int .i64 lo)) (hb : inB a 0 (lo - 1) = true) :
    Calls Tryd.prog 40 #[.slice (some ⟨b, o, none⟩) n cap, .int .i64 i, .agg #[.int .i64 3, .int .i64 a]] w fun e w' => e = .returned (.int .i64 0) ∧ Kept w w' := by
  have hk : inB 3 0 16 = true := rfl
  have d1 := ((Kept.refl w).alloc (.cells #[.int .i64 3, .int .i64 a] 38)).cell c1
  clear c1
  go_enter Tryd.func40, Tryd.ntmps40
  go_wp2_with (go_at_call 25; refine (within_any _ _ _ _).mono ?_; rintro e w' ⟨rfl, rfl⟩)
  go_ret
  exact ⟨rfl, (Kept.refl _).alloc _⟩
theorem opErr4_false (a : Int) (fi : Int) (v : Value) (w : World) (hb : inB a 0 0 = false) :
    Calls Tryd.prog 40 #[v, .int .i64 fi, .agg #[.int .i64 4, .int .i64 a]] w fun e w' => e = .returned (.int .i64 3) ∧ Kept w w' := by
  have hk : inB 4 0 16 = true := rfl
  go_enter Tryd.func40, Tryd.ntmps40
  go_wp2_with (go_at_call 25; refine (within_any _ _ _ _).mono ?_; rintro e w' ⟨rfl, rfl⟩)
  go_ret
  exact ⟨rfl, (Kept.refl _).alloc _⟩
theorem opErr4_true (a : Int) (fi : Int) (v : Value) (w : World) (hb : inB a 0 0 = true) :
    Calls Tryd.prog 40 #[v, .int .i64 fi, .agg #[.int .i64 4, .int .i64 a]] w fun e w' => e = .returned (.int .i64 0) ∧ Kept w w' := by
  have hk : inB 4 0 16 = true := rfl
  go_enter Tryd.func40, Tryd.ntmps40
  go_wp2_with (go_at_call 25; refine (within_any _ _ _ _).mono ?_; rintro e w' ⟨rfl, rfl⟩)
  go_ret
  exact ⟨rfl, (Kept.refl _).alloc _⟩
theorem opErr5_false (a : Int) (fi : Int) (v : Value) (w : World) (hb : inB a 0 0 = false) :
    Calls Tryd.prog 40 #[v, .int .i64 fi, .agg #[.int .i64 5, .int .i64 a]] w fun e w' => e = .returned (.int .i64 3) ∧ Kept w w' := by
  have hk : inB 5 0 16 = true := rfl
  go_enter Tryd.func40, Tryd.ntmps40
  go_wp2_with (go_at_call 25; refine (within_any _ _ _ _).mono ?_; rintro e w' ⟨rfl, rfl⟩)
  go_ret
  exact ⟨rfl, (Kept.refl _).alloc _⟩
theorem opErr5_true (a : Int) (fi : Int) (v : Value) (w : World) (hb : inB a 0 0 = true) :
    Calls Tryd.prog 40 #[v, .int .i64 fi, .agg #[.int .i64 5, .int .i64 a]] w fun e w' => e = .returned (.int .i64 0) ∧ Kept w w' := by
  have hk : inB 5 0 16 = true := rfl
  go_enter Tryd.func40, Tryd.ntmps40
  go_wp2_with (go_at_call 25; refine (within_any _ _ _ _).mono ?_; rintro e w' ⟨rfl, rfl⟩)
  go_ret
  exact ⟨rfl, (Kept.refl _).alloc _⟩
theorem opErr6_false (a : Int) (fi : Int) (v : Value) (w : World) (hb : inB a 0 0 = false) :
    Calls Tryd.prog 40 #[v, .int .i64 fi, .agg #[.int .i64 6, .int .i64 a]] w fun e w' => e = .returned (.int .i64 3) ∧ Kept w w' := by
  have hk : inB 6 0 16 = true := rfl
  go_enter Tryd.func40, Tryd.ntmps40
  go_wp2_with (go_at_call 25; refine (within_any _ _ _ _).mono ?_; rintro e w' ⟨rfl, rfl⟩)
  go_ret
  exact ⟨rfl, (Kept.refl _).alloc _⟩
theorem opErr6_true (a : Int) (fi : Int) (v : Value) (w : World) (hb : inB a 0 0 = true) :
    Calls Tryd.prog 40 #[v, .int .i64 fi, .agg #[.int .i64 6, .int .i64 a]] w fun e w' => e = .returned (.int .i64 0) ∧ Kept w w' := by
  have hk : inB 6 0 16 = true := rfl
  go_enter Tryd.func40, Tryd.ntmps40
  go_wp2_with (go_at_call 25; refine (within_any _ _ _ _).mono ?_; rintro e w' ⟨rfl, rfl⟩)
  go_ret
  exact ⟨rfl, (Kept.refl _).alloc _⟩
theorem opErr7_false (a : Int) (fi : Int) (v : Value) (w : World) (hb : inB a 0 0 = false) :
    Calls Tryd.prog 40 #[v, .int .i64 fi, .agg #[.int .i64 7, .int .i64 a]] w fun e w' => e = .returned (.int .i64 3) ∧ Kept w w' := by
  have hk : inB 7 0 16 = true := rfl
  go_enter Tryd.func40, Tryd.ntmps40
  go_wp2_with (go_at_call 25; refine (within_any _ _ _ _).mono ?_; rintro e w' ⟨rfl, rfl⟩)
  go_ret
  exact ⟨rfl, (Kept.refl _).alloc _⟩
theorem opErr7_true (a : Int) (fi : Int) (v : Value) (w : World) (hb : inB a 0 0 = true) :
    Calls Tryd.prog 40 #[v, .int .i64 fi, .agg #[.int .i64 7, .int .i64 a]] w fun e w' => e = .returned (.int .i64 0) ∧ Kept w w' := by
  have hk : inB 7 0 16 = true := rfl
  go_enter Tryd.func40, Tryd.ntmps40
  go_wp2_with (go_at_call 25; refine (within_any _ _ _ _).mono ?_; rintro e w' ⟨rfl, rfl⟩)
  go_ret
  exact ⟨rfl, (Kept.refl _).alloc _⟩
theorem opErr8_false (a : Int) (fi : Int) (v : Value) (w : World) (hb : inB a 0 0 = false) :
    Calls Tryd.prog 40 #[v, .int .i64 fi, .agg #[.int .i64 8, .int .i64 a]] w fun e w' => e = .returned (.int .i64 3) ∧ Kept w w' := by
  have hk : inB 8 0 16 = true := rfl
  go_enter Tryd.func40, Tryd.ntmps40
  go_wp2_with (go_at_call 25; refine (within_any _ _ _ _).mono ?_; rintro e w' ⟨rfl, rfl⟩)
  go_ret
  exact ⟨rfl, (Kept.refl _).alloc _⟩
theorem opErr8_true (a : Int) (fi : Int) (v : Value) (w : World) (hb : inB a 0 0 = true) :
    Calls Tryd.prog 40 #[v, .int .i64 fi, .agg #[.int .i64 8, .int .i64 a]] w fun e w' => e = .returned (.int .i64 0) ∧ Kept w w' := by
  have hk : inB 8 0 16 = true := rfl
  go_enter Tryd.func40, Tryd.ntmps40
  go_wp2_with (go_at_call 25; refine (within_any _ _ _ _).mono ?_; rintro e w' ⟨rfl, rfl⟩)
  go_ret
  exact ⟨rfl, (Kept.refl _).alloc _⟩
theorem opErr9_false (a : Int) (i b o n cap : Nat) (oc : Option Addr) (m cc : Nat) (w : World) (hi : i < n) (hm : m ≤ 8796093022208) (c2 : w.cell? ⟨b, o + i * 3 + 2, none⟩ = some (.slice oc m cc)) (hb : inB a 0 ((m : Int) - 1) = false) :
    Calls Tryd.prog 40 #[.slice (some ⟨b, o, none⟩) n cap, .int .i64 i, .agg #[.int .i64 9, .int .i64 a]] w fun e w' => e = .returned (.int .i64 3) ∧ Kept w w' := by
  have hk : inB 9 0 16 = true := rfl
  have d2 := ((Kept.refl w).alloc (.cells #[.int .i64 9, .int .i64 a] 38)).cell c2
  clear c2
  go_enter Tryd.func40, Tryd.ntmps40
  go_wp2_with (go_at_call 25; refine (within_any _ _ _ _).mono ?_; rintro e w' ⟨rfl, rfl⟩)
  go_ret
  exact ⟨rfl, (Kept.refl _).alloc _⟩
theorem opErr9_true (a : Int) (i b o n cap : Nat) (oc : Option Addr) (m cc : Nat) (w : World) (hi : i < n) (hm : m ≤ 8796093022208) (c2 : w.cell? ⟨b, o + i * 3 + 2, none⟩ = some (.slice oc m cc)) (hb : inB a 0 ((m : Int) - 1) = true) :
    Calls Tryd.prog 40 #[.slice (some ⟨b, o, none⟩) n cap, .int .i64 i, .agg #[.int .i64 9, .int .i64 a]] w fun e w' => e = .returned (.int .i64 0) ∧ Kept w w' := by
  have hk : inB 9 0 16 = true := rfl
  have d2 := ((Kept.refl w).alloc (.cells #[.int .i64 9, .int .i64 a] 38)).cell c2
  clear c2
  go_enter Tryd.func40, Tryd.ntmps40
  go_wp2_with (go_at_call 25; refine (within_any _ _ _ _).mono ?_; rintro e w' ⟨rfl, rfl⟩)
  go_ret
  exact ⟨rfl, (Kept.refl _).alloc _⟩
theorem opErr10_false (a : Int) (i b o n cap : Nat) (oc : Option Addr) (m cc : Nat) (w : World) (hi : i < n) (hm : m ≤ 8796093022208) (c2 : w.cell? ⟨b, o + i * 3 + 2, none⟩ = some (.slice oc m cc)) (hb : inB a 0 ((m : Int) - 1) = false) :
    Calls Tryd.prog 40 #[.slice (some ⟨b, o, none⟩) n cap, .int .i64 i, .agg #[.int .i64 10, .int .i64 a]] w fun e w' => e = .returned (.int .i64 3) ∧ Kept w w' := by
  have hk : inB 10 0 16 = true := rfl
  have d2 := ((Kept.refl w).alloc (.cells #[.int .i64 10, .int .i64 a] 38)).cell c2
  clear c2
  go_enter Tryd.func40, Tryd.ntmps40
  go_wp2_with (go_at_call 25; refine (within_any _ _ _ _).mono ?_; rintro e w' ⟨rfl, rfl⟩)
  go_ret
  exact ⟨rfl, (Kept.refl _).alloc _⟩
theorem opErr10_true (a : Int) (i b o n cap : Nat) (oc : Option Addr) (m cc : Nat) (w : World) (hi : i < n) (hm : m ≤ 8796093022208) (c2 : w.cell? ⟨b, o + i * 3 + 2, none⟩ = some (.slice oc m cc)) (hb : inB a 0 ((m : Int) - 1) = true) :
    Calls Tryd.prog 40 #[.slice (some ⟨b, o, none⟩) n cap, .int .i64 i, .agg #[.int .i64 10, .int .i64 a]] w fun e w' => e = .returned (.int .i64 0) ∧ Kept w w' := by
  have hk : inB 10 0 16 = true := rfl
  have d2 := ((Kept.refl w).alloc (.cells #[.int .i64 10, .int .i64 a] 38)).cell c2
  clear c2
  go_enter Tryd.func40, Tryd.ntmps40
  go_wp2_with (go_at_call 25; refine (within_any _ _ _ _).mono ?_; rintro e w' ⟨rfl, rfl⟩)
  go_ret
  exact ⟨rfl, (Kept.refl _).alloc _⟩
theorem opErr12_false (a : Int) (fi : Int) (v : Value) (w : World) (hb : inB a 0 0 = false) :
    Calls Tryd.prog 40 #[v, .int .i64 fi, .agg #[.int .i64 12, .int .i64 a]] w fun e w' => e = .returned (.int .i64 3) ∧ Kept w w' := by
  have hk : inB 12 0 16 = true := rfl
  go_enter Tryd.func40, Tryd.ntmps40
  go_wp2_with (go_at_call 25; refine (within_any _ _ _ _).mono ?_; rintro e w' ⟨rfl, rfl⟩)
  go_ret
  exact ⟨rfl, (Kept.refl _).alloc _⟩
theorem opErr12_true (a : Int) (fi : Int) (v : Value) (w : World) (hb : inB a 0 0 = true) :
    Calls Tryd.prog 40 #[v, .int .i64 fi, .agg #[.int .i64 12, .int .i64 a]] w fun e w' => e = .returned (.int .i64 0) ∧ Kept w w' := by
  have hk : inB 12 0 16 = true := rfl
  go_enter Tryd.func40, Tryd.ntmps40
  go_wp2_with (go_at_call 25; refine (within_any _ _ _ _).mono ?_; rintro e w' ⟨rfl, rfl⟩)
  go_ret
  exact ⟨rfl, (Kept.refl _).alloc _⟩
theorem opErr14_false (a : Int) (fi : Int) (v : Value) (w : World) (hb : inB a 0 0 = false) :
    Calls Tryd.prog 40 #[v, .int .i64 fi, .agg #[.int .i64 14, .int .i64 a]] w fun e w' => e = .returned (.int .i64 3) ∧ Kept w w' := by
  have hk : inB 14 0 16 = true := rfl
  go_enter Tryd.func40, Tryd.ntmps40
  go_wp2_with (go_at_call 25; refine (within_any _ _ _ _).mono ?_; rintro e w' ⟨rfl, rfl⟩)
  go_ret
  exact ⟨rfl, (Kept.refl _).alloc _⟩
theorem opErr14_true (a : Int) (fi : Int) (v : Value) (w : World) (hb : inB a 0 0 = true) :
    Calls Tryd.prog 40 #[v, .int .i64 fi, .agg #[.int .i64 14, .int .i64 a]] w fun e w' => e = .returned (.int .i64 0) ∧ Kept w w' := by
  have hk : inB 14 0 16 = true := rfl
  go_enter Tryd.func40, Tryd.ntmps40
  go_wp2_with (go_at_call 25; refine (within_any _ _ _ _).mono ?_; rintro e w' ⟨rfl, rfl⟩)
  go_ret
  exact ⟨rfl, (Kept.refl _).alloc _⟩
theorem opErr15_false (a : Int) (fi : Int) (v : Value) (w : World) (hb : inB a 0 0 = false) :
    Calls Tryd.prog 40 #[v, .int .i64 fi, .agg #[.int .i64 15, .int .i64 a]] w fun e w' => e = .returned (.int .i64 3) ∧ Kept w w' := by
  have hk : inB 15 0 16 = true := rfl
  go_enter Tryd.func40, Tryd.ntmps40
  go_wp2_with (go_at_call 25; refine (within_any _ _ _ _).mono ?_; rintro e w' ⟨rfl, rfl⟩)
  go_ret
  exact ⟨rfl, (Kept.refl _).alloc _⟩
theorem opErr15_true (a : Int) (fi : Int) (v : Value) (w : World) (hb : inB a 0 0 = true) :
    Calls Tryd.prog 40 #[v, .int .i64 fi, .agg #[.int .i64 15, .int .i64 a]] w fun e w' => e = .returned (.int .i64 0) ∧ Kept w w' := by
  have hk : inB 15 0 16 = true := rfl
  go_enter Tryd.func40, Tryd.ntmps40
  go_wp2_with (go_at_call 25; refine (within_any _ _ _ _).mono ?_; rintro e w' ⟨rfl, rfl⟩)
  go_ret
  exact ⟨rfl, (Kept.refl _).alloc _⟩
theorem opErr16_false (a : Int) (fi : Int) (v : Value) (w : World) (hb : inB a 0 0 = false) :
    Calls Tryd.prog 40 #[v, .int .i64 fi, .agg #[.int .i64 16, .int .i64 a]] w fun e w' => e = .returned (.int .i64 3) ∧ Kept w w' := by
  have hk : inB 16 0 16 = true := rfl
  go_enter Tryd.func40, Tryd.ntmps40
  go_wp2_with (go_at_call 25; refine (within_any _ _ _ _).mono ?_; rintro e w' ⟨rfl, rfl⟩)
  go_ret
  exact ⟨rfl, (Kept.refl _).alloc _⟩
theorem opErr16_true (a : Int) (fi : Int) (v : Value) (w : World) (hb : inB a 0 0 = true) :
    Calls Tryd.prog 40 #[v, .int .i64 fi, .agg #[.int .i64 16, .int .i64 a]] w fun e w' => e = .returned (.int .i64 0) ∧ Kept w w' := by
  have hk : inB 16 0 16 = true := rfl
  go_enter Tryd.func40, Tryd.ntmps40
  go_wp2_with (go_at_call 25; refine (within_any _ _ _ _).mono ?_; rintro e w' ⟨rfl, rfl⟩)
  go_ret
  exact ⟨rfl, (Kept.refl _).alloc _⟩
theorem opErr11_none (a fi : Int) (oa : Option Addr) (n cap : Nat) (w : World) (hn : n ≤ 8796093022208) (hb : inB a 0 ((n : Int) - 1) = false) :
    Calls Tryd.prog 40 #[.slice oa n cap, .int .i64 fi, .agg #[.int .i64 11, .int .i64 a]] w fun e w' => e = .returned (.int .i64 3) ∧ Kept w w' := by
  have hk : inB 11 0 16 = true := rfl
  go_enter Tryd.func40, Tryd.ntmps40
  go_wp2_with (go_at_call 25; refine (within_any _ _ _ _).mono ?_; rintro e w' ⟨rfl, rfl⟩)
  go_ret
  exact ⟨rfl, (Kept.refl _).alloc _⟩
theorem opErr11_room (fi : Int) (j b o n cap : Nat) (ar lo : Int) (cv : Value) (w : World) (hn : n ≤ 8796093022208) (hj : j < n) (c0 : w.cell? ⟨b, o + j * 3, none⟩ = some (.int .i64 ar)) (c1 : w.cell? ⟨b, o + j * 3 + 1, none⟩ = some (.int .i64 lo)) (c2 : w.cell? ⟨b, o + j * 3 + 2, none⟩ = some cv) (hr : roomB ar lo = false) :
    Calls Tryd.prog 40 #[.slice (some ⟨b, o, none⟩) n cap, .int .i64 fi, .agg #[.int .i64 11, .int .i64 j]] w fun e w' => e = .returned (.int .i64 3) ∧ Kept w w' := by
  have hk : inB 11 0 16 = true := rfl
  have hb : inB j 0 ((n : Int) - 1) = true := inB_true (by omega) (by omega)
  have d0 := ((Kept.refl w).alloc (.cells #[.int .i64 11, .int .i64 j] 38)).cell c0
  have d1 := ((Kept.refl w).alloc (.cells #[.int .i64 11, .int .i64 j] 38)).cell c1
  have d2 := ((Kept.refl w).alloc (.cells #[.int .i64 11, .int .i64 j] 38)).cell c2
  have d3 := (((Kept.refl w).alloc (.cells #[.int .i64 11, .int .i64 j] 38)).alloc (.cells #[.int .i64 ar, .int .i64 lo, cv] 36)).cell c0
  clear c0 c1 c2
  go_enter Tryd.func40, Tryd.ntmps40
  go_wp2_with (first | (go_at_call 25; refine (within_any _ _ _ _).mono ?_; rintro e w' ⟨rfl, rfl⟩) | (go_at_call 39; refine (badArgs_any _ _ _ _).mono ?_; rintro e w' ⟨rfl, rfl⟩))
  go_ret
  exact ⟨rfl, ((Kept.refl _).alloc _).alloc _⟩
theorem opErr11_ok (fi : Int) (j b o n cap : Nat) (ar lo : Int) (cv : Value) (w : World) (hn : n ≤ 8796093022208) (hj : j < n) (c0 : w.cell? ⟨b, o + j * 3, none⟩ = some (.int .i64 ar)) (c1 : w.cell? ⟨b, o + j * 3 + 1, none⟩ = some (.int .i64 lo)) (c2 : w.cell? ⟨b, o + j * 3 + 2, none⟩ = some cv) (hr : roomB ar lo = true) :
    Calls Tryd.prog 40 #[.slice (some ⟨b, o, none⟩) n cap, .int .i64 fi, .agg #[.int .i64 11, .int .i64 j]] w fun e w' => e = .returned (.int .i64 0) ∧ Kept w w' := by
  have hk : inB 11 0 16 = true := rfl
  have hb : inB j 0 ((n : Int) - 1) = true := inB_true (by omega) (by omega)
  have d0 := ((Kept.refl w).alloc (.cells #[.int .i64 11, .int .i64 j] 38)).cell c0
  have d1 := ((Kept.refl w).alloc (.cells #[.int .i64 11, .int .i64 j] 38)).cell c1
  have d2 := ((Kept.refl w).alloc (.cells #[.int .i64 11, .int .i64 j] 38)).cell c2
  have d3 := (((Kept.refl w).alloc (.cells #[.int .i64 11, .int .i64 j] 38)).alloc (.cells #[.int .i64 ar, .int .i64 lo, cv] 36)).cell c0
  clear c0 c1 c2
  go_enter Tryd.func40, Tryd.ntmps40
  go_wp2_with (first | (go_at_call 25; refine (within_any _ _ _ _).mono ?_; rintro e w' ⟨rfl, rfl⟩) | (go_at_call 39; refine (badArgs_any _ _ _ _).mono ?_; rintro e w' ⟨rfl, rfl⟩))
  go_ret
  exact ⟨rfl, ((Kept.refl _).alloc _).alloc _⟩
theorem opErr13_none (a fi : Int) (oa : Option Addr) (n cap : Nat) (w : World) (hn : n ≤ 8796093022208) (hb : inB a 0 ((n : Int) - 1) = false) :
    Calls Tryd.prog 40 #[.slice oa n cap, .int .i64 fi, .agg #[.int .i64 13, .int .i64 a]] w fun e w' => e = .returned (.int .i64 3) ∧ Kept w w' := by
  have hk : inB 13 0 16 = true := rfl
  go_enter Tryd.func40, Tryd.ntmps40
  go_wp2_with (go_at_call 25; refine (within_any _ _ _ _).mono ?_; rintro e w' ⟨rfl, rfl⟩)
  go_ret
  exact ⟨rfl, (Kept.refl _).alloc _⟩
theorem opErr13_room (fi : Int) (j b o n cap : Nat) (ar lo : Int) (cv : Value) (w : World) (hn : n ≤ 8796093022208) (hj : j < n) (c0 : w.cell? ⟨b, o + j * 3, none⟩ = some (.int .i64 ar)) (c1 : w.cell? ⟨b, o + j * 3 + 1, none⟩ = some (.int .i64 lo)) (c2 : w.cell? ⟨b, o + j * 3 + 2, none⟩ = some cv) (hr : roomB ar lo = false) :
    Calls Tryd.prog 40 #[.slice (some ⟨b, o, none⟩) n cap, .int .i64 fi, .agg #[.int .i64 13, .int .i64 j]] w fun e w' => e = .returned (.int .i64 3) ∧ Kept w w' := by
  have hk : inB 13 0 16 = true := rfl
  have hb : inB j 0 ((n : Int) - 1) = true := inB_true (by omega) (by omega)
  have d0 := ((Kept.refl w).alloc (.cells #[.int .i64 13, .int .i64 j] 38)).cell c0
  have d1 := ((Kept.refl w).alloc (.cells #[.int .i64 13, .int .i64 j] 38)).cell c1
  have d2 := ((Kept.refl w).alloc (.cells #[.int .i64 13, .int .i64 j] 38)).cell c2
  have d3 := (((Kept.refl w).alloc (.cells #[.int .i64 13, .int .i64 j] 38)).alloc (.cells #[.int .i64 ar, .int .i64 lo, cv] 36)).cell c0
  clear c0 c1 c2
  go_enter Tryd.func40, Tryd.ntmps40
  go_wp2_with (first | (go_at_call 25; refine (within_any _ _ _ _).mono ?_; rintro e w' ⟨rfl, rfl⟩) | (go_at_call 39; refine (badArgs_any _ _ _ _).mono ?_; rintro e w' ⟨rfl, rfl⟩))
  go_ret
  exact ⟨rfl, ((Kept.refl _).alloc _).alloc _⟩
theorem opErr13_form (fi : Int) (j b o n cap : Nat) (ar lo : Int) (cv : Value) (w : World) (hn : n ≤ 8796093022208) (hj : j < n) (c0 : w.cell? ⟨b, o + j * 3, none⟩ = some (.int .i64 ar)) (c1 : w.cell? ⟨b, o + j * 3 + 1, none⟩ = some (.int .i64 lo)) (c2 : w.cell? ⟨b, o + j * 3 + 2, none⟩ = some cv) (hr : roomB ar lo = true) (hne : (ar != 1) = true) :
    Calls Tryd.prog 40 #[.slice (some ⟨b, o, none⟩) n cap, .int .i64 fi, .agg #[.int .i64 13, .int .i64 j]] w fun e w' => e = .returned (.int .i64 1) ∧ Kept w w' := by
  have hk : inB 13 0 16 = true := rfl
  have hb : inB j 0 ((n : Int) - 1) = true := inB_true (by omega) (by omega)
  have d0 := ((Kept.refl w).alloc (.cells #[.int .i64 13, .int .i64 j] 38)).cell c0
  have d1 := ((Kept.refl w).alloc (.cells #[.int .i64 13, .int .i64 j] 38)).cell c1
  have d2 := ((Kept.refl w).alloc (.cells #[.int .i64 13, .int .i64 j] 38)).cell c2
  have d3 := (((Kept.refl w).alloc (.cells #[.int .i64 13, .int .i64 j] 38)).alloc (.cells #[.int .i64 ar, .int .i64 lo, cv] 36)).cell c0
  clear c0 c1 c2
  go_enter Tryd.func40, Tryd.ntmps40
  go_wp2_with (first | (go_at_call 25; refine (within_any _ _ _ _).mono ?_; rintro e w' ⟨rfl, rfl⟩) | (go_at_call 39; refine (badArgs_any _ _ _ _).mono ?_; rintro e w' ⟨rfl, rfl⟩))
  go_ret
  exact ⟨rfl, ((Kept.refl _).alloc _).alloc _⟩
theorem opErr13_ok (fi : Int) (j b o n cap : Nat) (ar lo : Int) (cv : Value) (w : World) (hn : n ≤ 8796093022208) (hj : j < n) (c0 : w.cell? ⟨b, o + j * 3, none⟩ = some (.int .i64 ar)) (c1 : w.cell? ⟨b, o + j * 3 + 1, none⟩ = some (.int .i64 lo)) (c2 : w.cell? ⟨b, o + j * 3 + 2, none⟩ = some cv) (hr : roomB ar lo = true) (hne : (ar != 1) = false) :
    Calls Tryd.prog 40 #[.slice (some ⟨b, o, none⟩) n cap, .int .i64 fi, .agg #[.int .i64 13, .int .i64 j]] w fun e w' => e = .returned (.int .i64 0) ∧ Kept w w' := by
  have hk : inB 13 0 16 = true := rfl
  have hb : inB j 0 ((n : Int) - 1) = true := inB_true (by omega) (by omega)
  have d0 := ((Kept.refl w).alloc (.cells #[.int .i64 13, .int .i64 j] 38)).cell c0
  have d1 := ((Kept.refl w).alloc (.cells #[.int .i64 13, .int .i64 j] 38)).cell c1
  have d2 := ((Kept.refl w).alloc (.cells #[.int .i64 13, .int .i64 j] 38)).cell c2
  have d3 := (((Kept.refl w).alloc (.cells #[.int .i64 13, .int .i64 j] 38)).alloc (.cells #[.int .i64 ar, .int .i64 lo, cv] 36)).cell c0
  clear c0 c1 c2
  go_enter Tryd.func40, Tryd.ntmps40
  go_wp2_with (first | (go_at_call 25; refine (within_any _ _ _ _).mono ?_; rintro e w' ⟨rfl, rfl⟩) | (go_at_call 39; refine (badArgs_any _ _ _ _).mono ?_; rintro e w' ⟨rfl, rfl⟩))
  go_ret
  exact ⟨rfl, ((Kept.refl _).alloc _).alloc _⟩
end Go.Proofs.YtkepbeeioalmbabDoor
