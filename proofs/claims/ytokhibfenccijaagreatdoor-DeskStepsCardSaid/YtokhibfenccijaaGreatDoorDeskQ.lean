/-
  The statement DeskSteps: what is handed to its walk.
-/
import Derived.Test.YtokhibfenccijaaGreatDoorDeskO
namespace Go.Proofs.YtokhibfenccijaaGreatDoor
open Go.RowKit Go.Maps

theorem tail_blank : ∀ (r : List Int), Lib.joinTail [32] (r.map Lib.itoa) = blankS r
  | [] => rfl
  | z :: r => by
    have ih := tail_blank r
    simp only [Lib.joinTail, blankS, List.map_cons, List.flatten_cons, List.flatMap_cons] at ih ⊢
    rw [ih]
    rfl
theorem join_blank {l : List Int} (h : l ≠ []) : Lib.join (numsD l) [32] = (blankS l).drop 1 := by
  cases l with
  | nil => exact absurd rfl h
  | cons z r =>
    have : numsD (z :: r) = Lib.itoa z :: r.map Lib.itoa := rfl
    rw [this, Lib.join_cons, tail_blank]
    simp [blankS]
theorem steps_out {p : List Fn} (hz : progS p = 0) {m : Nat} (hm : m ≤ 500) :
    (linesD (opsOf p) (beginS p) [lineW [115, 116, 101, 112] [(m : Int)], [111, 117, 116]]).2 = Lib.itoa ((rnS p (beginS p) m).2.1 : Int) ++ (if (rnS p (beginS p) m).2.2 = 0 then [] else [32, 101, 114, 114, 111, 114, 32] ++ Lib.itoa (rnS p (beginS p) m).2.2) ++ [10] ++ (if (rnS p (beginS p) m).1.out = [] then [45] else (blankS (rnS p (beginS p) m).1.out).drop 1) ++ [10] := by
  have h0 := begin_right hz
  have hin : inB (m : Int) 0 500 = true := inB_true (by omega) (by omega)
  have herr : (rnS p (beginS p) m).2.2 ≠ 3 := by
    unfold rnS
    rw [if_pos hin, if_pos h0]
    have := (runN_err p (m : Int).toNat (beginS p)).1
    unfold ErrN at this
    omega
  have a : ansD (opsOf p) (beginS p) (splitT 32 (lineW [115, 116, 101, 112] [(m : Int)])) = ((rnS p (beginS p) m).1, numsD [((rnS p (beginS p) m).2.1 : Int)] ++ if (rnS p (beginS p) m).2.2 = 0 then [] else faultD (rnS p (beginS p) m).2.2) := by
    rw [(lineW_split (by decide) (by simp)).1]
    refine ans_l ((do_step _ _ (n := (m : Int)) (numT_itoa (by omega) (by omega))).trans (if_neg herr)) (by simp [numsD])
  have b : ansD (opsOf p) (rnS p (beginS p) m).1 (splitT 32 [111, 117, 116]) = ((rnS p (beginS p) m).1, if (rnS p (beginS p) m).1.out = [] then [[45]] else numsD (rnS p (beginS p) m).1.out) := by
    rw [sp5]
    by_cases ho : (rnS p (beginS p) m).1.out = []
    · rw [if_pos ho]
      exact ans_0 ((do_out _ _).trans (by rw [ho]; rfl))
    · rw [if_neg ho]
      exact ans_l (do_out _ _) (by simpa [numsD] using ho)
  rw [linesD_cons a, linesD_cons b]
  generalize (rnS p (beginS p) m).1.out = l
  generalize (rnS p (beginS p) m).2.2 = ef
  generalize ((rnS p (beginS p) m).2.1 : Int) = k
  have e1 : Lib.join (numsD [k] ++ if ef = 0 then [] else faultD ef) [32] = Lib.itoa k ++ (if ef = 0 then [] else [32, 101, 114, 114, 111, 114, 32] ++ Lib.itoa ef) := by
    by_cases he : ef = 0
    · simp [he, numsD, Lib.join_one]
    · simp [he, numsD, faultD, Lib.join_cons, Lib.joinTail]
  have e2 : Lib.join (if l = [] then [[45]] else numsD l) [32] = if l = [] then [45] else (blankS l).drop 1 := by
    by_cases hl : l = []
    · rw [if_pos hl, if_pos hl, Lib.join_one]
    · rw [if_neg hl, if_neg hl, join_blank hl]
  rw [e1, e2]
  simp [linesD]
theorem all_few (p : List Fn) (m : Int) : (allS p m).1.length ≤ 1000 := by
  unfold allS
  by_cases hi : inB m 0 500 = true
  · rw [if_pos hi]
    by_cases hz : progS p = 0
    · rw [if_pos hz]
      have e : rnS p (beginS p) m = runS p m.toNat (beginS p) := by unfold rnS; rw [if_pos hi, if_pos (begin_right hz)]
      have := (right_lims (run_right m.toNat (begin_right hz))).2
      rw [e]
      show (runS p m.toNat (beginS p)).1.out.length ≤ 1000
      omega
    · rw [if_neg hz]; simp
  · rw [if_neg hi]; simp
theorem deskSteps_walk (p : List Fn) (vp : Value) (fu : Int) (w : World) (hp : ProgAt w vp p) (hfu : (Lit.int .i64 fu).wf = true) (hk : KindsAt w) (he : EnvT w) :
    Calls Tryz.prog 4 #[vp, .int .i64 fu] w fun e w' => e = .returned (.bool true) ∧ Kept w w' := by
  have HCH : Hid (∀ u, Calls Tryz.prog 8 #[.int .i64 fu, .int .i64 501] u fun e w' => e = .returned (.int .i64 ((chooseS fu 501 : Nat) : Int)) ∧ u = w') := hide fun u => choose_any fu 501 u hfu (by omega) (by omega)
  have hm : chooseS fu 501 < 501 := chooseS_lt fu (by omega)
  generalize chooseS fu 501 = m at *
  have HDB := hide fun u (hu : Kept w u) => deskBegun_any u (he.kept hu) (hk.kept hu)
  have hAL : ∀ u, Kept w u → Calls Tryz.prog 10 #[vp, .int .i64 (m : Int)] u fun e w' => ∃ ol nl cl, e = .returned (.tuple #[.slice ol nl cl, .int .i64 ((allS p m).2.1 : Nat), .int .i64 (allS p m).2.2]) ∧ nl = (allS p m).1.length ∧ IntsW w' (.slice ol nl cl) (allS p m).1 ∧ Kept u w' := fun u hu => (runAll_any p vp m u (hp.kept hu) (hk.kept hu)).mono fun e w' ⟨v, h1, h2, h3⟩ => by
    obtain ⟨oa, cap, rfl, hle, hi⟩ := rowT_at h2
    refine ⟨oa, _, cap, h1, rfl, ⟨oa, cap, rfl, ?_, fun i z hz => ?_⟩, h3⟩
    · obtain ⟨_, ⟨_, h0⟩ | ⟨_, _, _, _, _, _, h7, h8, _⟩⟩ := id h2
      · omega
      · have := all_few p m
        omega
    · have hz' : (ints (allS p m).1)[i]? = some (.int .i64 z) := by simp [ints, hz]
      obtain ⟨g, cur, r1, r2, r3, r4⟩ := hi i _ hz'
      exact ⟨g, 0, r1, by rw [cell_lays r3, Nat.zero_add]; exact r4 i _ hz'⟩
  have he2 : (showR p).2 = progS p := by
    unfold showR
    split
    · rename_i h; exact h.symm
    · rfl
  have hSH : ∀ u, Kept w u → Calls Tryz.prog 9 #[vp] u fun e w' => e = .returned (.tuple #[.string ⟨(showR p).1.toArray⟩, .int .i64 (progS p)]) ∧ Kept u w' := fun u hu => by
    have := show_any u p _ (hp.kept hu) (he.kept hu) (hk.kept hu)
    rwa [he2] at this
  by_cases hc : progS p = 0 ∧ ¬ (8192 : Int) < ((ByteArray.mk (showR p).1.toArray).size : Int)
  · obtain ⟨hz, hbig⟩ := hc
    have hin : inB (m : Int) 0 500 = true := inB_true (by omega) (by omega)
    have hall : allS p m = ((rnS p (beginS p) m).1.out, (rnS p (beginS p) m).2.1, (rnS p (beginS p) m).2.2) := by
      unfold allS
      rw [if_pos hin, if_pos hz]
    have h0 := begin_right hz
    have hrg : stErrS p (rnS p (beginS p) m).1 = 0 ∧ NumI (rnS p (beginS p) m).1 := by
      unfold rnS
      rw [if_pos hin, if_pos h0]
      exact ⟨run_right _ h0, (NumI.begin p).run (right_okT hz) _⟩
    obtain ⟨her, hkk⟩ := rn_err h0 (m : Int)
    have hsr : showR p = (showT p, 0) := if_pos hz
    rw [hz] at hSH
    rw [hsr] at hSH hbig
    rw [hall] at hAL
    have hI3 : I64 (rnS p (beginS p) m).2.2 := by
      unfold ErrN at her
      unfold I64
      omega
    refine deskSteps_w vp fu m (rnS p (beginS p) m).2.2 (rnS p (beginS p) m).2.1 (rnS p (beginS p) m).1.out _ _ w hbig (right_lims hrg.1).2 hrg.2.out (by unfold I64; omega) (by unfold I64; omega) hI3 (by rw [← steps_out hz (show m ≤ 500 by omega)]) HCH (hide hSH) (hide hAL) (hide fun u hu => ?_) HDB
    have hlw : lineW [115, 116, 101, 112] [(m : Int)] = [115, 116, 101, 112, 32] ++ Lib.itoa m := by simp [lineW, Lib.join_cons, Lib.joinTail]
    have hno := (lineW_split (wd := [115, 116, 101, 112]) (l := [(m : Int)]) (by decide) (by simp)).2
    have hil := itoa_len (z := (m : Int)) (by unfold I64; omega)
    refine play_right u p ([115, 116, 101, 112, 32] ++ Lib.itoa m ++ [10, 111, 117, 116, 10]) [lineW [115, 116, 101, 112] [(m : Int)], [111, 117, 116]] hz (he.kept hu) (hk.kept hu) ?_ ?_ ?_
    · simp only [List.length_append, List.length_cons, List.length_nil]
      omega
    · have := List.count_le_length (a := (10 : UInt8)) (l := [115, 116, 101, 112, 32] ++ Lib.itoa m ++ [10, 111, 117, 116, 10])
      unfold Lib.countByte
      simp only [List.length_append, List.length_cons, List.length_nil] at this
      omega
    · have hT : [115, 116, 101, 112, 32] ++ Lib.itoa (m : Int) ++ [10, 111, 117, 116, 10] = ([115, 116, 101, 112, 32] ++ Lib.itoa (m : Int) ++ [10, 111, 117, 116]) ++ [10] := by simp
      unfold linesT
      rw [if_neg (by simp), if_pos (by rw [hT, List.getLast?_concat])]
      have hd : ([115, 116, 101, 112, 32] ++ Lib.itoa (m : Int) ++ [10, 111, 117, 116, 10]).dropLast = lineW [115, 116, 101, 112] [(m : Int)] ++ 10 :: [111, 117, 116] := by
        rw [hlw, show ([10, 111, 117, 116, 10] : List UInt8) = [10, 111, 117, 116] ++ [10] from rfl, ← List.append_assoc, List.dropLast_concat]
      rw [hd, split_app _ hno, split_none (by decide)]
  · refine deskSteps_no vp fu m (progS p) ⟨(showR p).1.toArray⟩ w ?_ ((allS p m).2.1 : Nat) (allS p m).2.2 HCH (hide hSH) (hide fun u hu => (hAL u hu).mono fun e w' ⟨a, b, c, h1, _, _, h4⟩ => ⟨a, b, c, h1, h4⟩) HDB
    by_cases hz : progS p = 0
    · exact .inr (by
        by_cases hb : (8192 : Int) < ((ByteArray.mk (showR p).1.toArray).size : Int)
        · exact hb
        · exact absurd ⟨hz, hb⟩ hc)
    · exact .inl (by simpa using hz)
end Go.Proofs.YtokhibfenccijaaGreatDoor
