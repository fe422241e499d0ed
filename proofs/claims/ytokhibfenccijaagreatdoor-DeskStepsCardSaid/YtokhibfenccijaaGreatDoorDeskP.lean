/-
  What must be in any case of the desk, plain.
-/
import Derived.Test.YtokhibfenccijaaGreatDoorKB43
import Derived.Test.YtokhibfenccijaaGreatDoorTextU
import Derived.Test.YtokhibfenccijaaGreatDoorKB13
namespace Go.Proofs.YtokhibfenccijaaGreatDoor

theorem cntR : progS cntL = 0 := by decide +kernel
theorem linesD_cons {O : OpsD} {s s' : St} {l : List UInt8} {ls ws : List (List UInt8)} (h : ansD O s (splitT 32 l) = (s', ws)) : (linesD O s (l :: ls)).2 = (Lib.join ws [32] ++ [10]) ++ (linesD O s' ls).2 := by
  simp only [linesD, h]
theorem ans_l {O : OpsD} {s s' : St} {ws l : List (List UInt8)} (h : doD O s ws = .inl (s', l)) (h0 : l ≠ []) : ansD O s ws = (s', l) := by
  unfold ansD; rw [h]; simp [h0]
theorem ans_0 {O : OpsD} {s s' : St} {ws : List (List UInt8)} (h : doD O s ws = .inl (s', [])) : ansD O s ws = (s', [[45]]) := by
  unfold ansD; rw [h]; rfl
theorem ans_r {O : OpsD} {s : St} {z : Int} {ws : List (List UInt8)} (h : doD O s ws = .inr z) : ansD O s ws = (s, faultD z) := by
  unfold ansD; rw [h]
theorem do_out (O : OpsD) (s : St) : doD O s [[111, 117, 116]] = .inl (s, numsD s.out) := rfl
theorem do_line (O : OpsD) (s : St) : doD O s [[108, 105, 110, 101]] = .inl (s, numsD (O.line s)) := rfl
theorem do_kinds (O : OpsD) (s : St) : doD O s [[107, 105, 110, 100, 115]] = .inl (s, numsD ((List.range s.fibers.length).map fun k => O.kind s k)) := rfl
theorem do_trim (O : OpsD) (s : St) : doD O s [[116, 114, 105, 109]] = .inl (s, numsD [opsD O.trim]) := rfl
theorem do_again (O : OpsD) (s : St) : doD O s [[97, 103, 97, 105, 110]] = .inl (O.beg, [[111, 107]]) := rfl
theorem do_step (O : OpsD) (s : St) {b : List UInt8} {n : Int} (h : numT b = some n) : doD O s [[115, 116, 101, 112], b] = (if (O.run s n).2.2 = 3 then .inr 3 else .inl ((O.run s n).1, numsD [((O.run s n).2.1 : Int)] ++ if (O.run s n).2.2 = 0 then [] else faultD (O.run s n).2.2)) := by
  show (match numT b with | some n => withD O s [115, 116, 101, 112] n | none => .inr 1) = _
  rw [h]; rfl
theorem do_hgt (O : OpsD) (s : St) {b : List UInt8} {n : Int} (h : numT b = some n) : doD O s [[104, 101, 105, 103, 104, 116, 115], b] = (if (O.hgt n).2 = 0 then .inl (s, numsD (O.hgt n).1) else .inr (O.hgt n).2) := by
  show (match numT b with | some n => withD O s [104, 101, 105, 103, 104, 116, 115] n | none => .inr 1) = _
  rw [h]; rfl
def sA : St := (rnS cntL (beginS cntL) 6).1
def sB : St := (rnS cntL sA 500).1
theorem it0 : Lib.itoa 0 = [48] := by simp [Lib.itoa, decDigits_small]
theorem it1 : Lib.itoa 1 = [49] := by simp [Lib.itoa, decDigits_small]
theorem it2 : Lib.itoa 2 = [50] := by simp [Lib.itoa, decDigits_small]
theorem it3 : Lib.itoa 3 = [51] := by simp [Lib.itoa, decDigits_small]
theorem it5 : Lib.itoa 5 = [53] := by simp [Lib.itoa, decDigits_small]
theorem it6 : Lib.itoa 6 = [54] := by simp [Lib.itoa, decDigits_small]
theorem it7 : Lib.itoa 7 = [55] := by simp [Lib.itoa, decDigits_small]
theorem it8 : Lib.itoa 8 = [56] := by simp [Lib.itoa, decDigits_small]
theorem it22 : Lib.itoa 22 = [50, 50] := by simp [Lib.itoa, decDigits_great, decDigits_small]
theorem it28 : Lib.itoa 28 = [50, 56] := by simp [Lib.itoa, decDigits_great, decDigits_small]
theorem it99 : Lib.itoa 99 = [57, 57] := by simp [Lib.itoa, decDigits_great, decDigits_small]
theorem it500 : Lib.itoa 500 = [53, 48, 48] := by simp [Lib.itoa, decDigits_great, decDigits_small]
theorem it501 : Lib.itoa 501 = [53, 48, 49] := by simp [Lib.itoa, decDigits_great, decDigits_small]
theorem nt2 : numT [50] = some 2 := by rw [← it2]; exact numT_itoa (by omega) (by omega)
theorem nt3 : numT [51] = some 3 := by rw [← it3]; exact numT_itoa (by omega) (by omega)
theorem nt5 : numT [53] = some 5 := by rw [← it5]; exact numT_itoa (by omega) (by omega)
theorem nt6 : numT [54] = some 6 := by rw [← it6]; exact numT_itoa (by omega) (by omega)
theorem nt500 : numT [53, 48, 48] = some 500 := by rw [← it500]; exact numT_itoa (by omega) (by omega)
theorem nt501 : numT [53, 48, 49] = some 501 := by rw [← it501]; exact numT_itoa (by omega) (by omega)
theorem sA_run : (rnS cntL (beginS cntL) 6).2 = (6, 0) := by decide +kernel
theorem sB_run : (rnS cntL sA 500).2 = (22, 0) := by decide +kernel
theorem k0 : (List.range (beginS cntL).fibers.length).map (fun k => kindC cntL (beginS cntL) k) = [1] := by decide +kernel
theorem l0 : lineC cntL (beginS cntL) = [0] := by decide +kernel
theorem kA : (List.range sA.fibers.length).map (fun k => kindC cntL sA k) = [2, 1] := by decide +kernel
theorem lA : lineC cntL sA = [1, 0] := by decide +kernel
theorem oA : sA.out = [] := by decide +kernel
theorem oB : sB.out = [7, 8, 99] := by decide +kernel
theorem kB : (List.range sB.fibers.length).map (fun k => kindC cntL sB k) = [0, 0] := by decide +kernel
theorem lB : lineC cntL sB = [] := by decide +kernel
theorem h2 : hgtS cntL 2 = ([0, 1, 2, 1], 0) := by decide +kernel
theorem h3 : (hgtS cntL 3).2 = 5 := by decide +kernel
theorem tC : opsD (taS cntL) = 28 := by decide +kernel
theorem r501 : (rnS cntL (beginS cntL) 501).2.2 = 3 := by decide +kernel
def T1 : List UInt8 := [107, 105, 110, 100, 115, 10, 108, 105, 110, 101, 10, 115, 116, 101, 112, 32, 54, 10, 107, 105, 110, 100, 115, 10, 108, 105, 110, 101, 10, 111, 117, 116, 10, 115, 116, 101, 112, 32, 53, 48, 48, 10, 111, 117, 116, 10, 107, 105, 110, 100, 115, 10, 108, 105, 110, 101, 10, 104, 101, 105, 103, 104, 116, 115, 32, 50, 10, 104, 101, 105, 103, 104, 116, 115, 32, 51, 10, 116, 114, 105, 109, 10, 97, 103, 97, 105, 110, 10, 115, 116, 101, 112, 32, 53, 48, 49, 10, 115, 116, 101, 112, 10, 111, 117, 116, 10]
theorem T1_lines : linesT T1 = some [[107, 105, 110, 100, 115], [108, 105, 110, 101], [115, 116, 101, 112, 32, 54], [107, 105, 110, 100, 115], [108, 105, 110, 101], [111, 117, 116], [115, 116, 101, 112, 32, 53, 48, 48], [111, 117, 116], [107, 105, 110, 100, 115], [108, 105, 110, 101], [104, 101, 105, 103, 104, 116, 115, 32, 50], [104, 101, 105, 103, 104, 116, 115, 32, 51], [116, 114, 105, 109], [97, 103, 97, 105, 110], [115, 116, 101, 112, 32, 53, 48, 49], [115, 116, 101, 112], [111, 117, 116]] := by decide +kernel
theorem sp0 : splitT 32 [107, 105, 110, 100, 115] = [[107, 105, 110, 100, 115]] := by decide +kernel
theorem sp1 : splitT 32 [108, 105, 110, 101] = [[108, 105, 110, 101]] := by decide +kernel
theorem sp2 : splitT 32 [115, 116, 101, 112, 32, 54] = [[115, 116, 101, 112], [54]] := by decide +kernel
theorem sp3 : splitT 32 [107, 105, 110, 100, 115] = [[107, 105, 110, 100, 115]] := by decide +kernel
theorem sp4 : splitT 32 [108, 105, 110, 101] = [[108, 105, 110, 101]] := by decide +kernel
theorem sp5 : splitT 32 [111, 117, 116] = [[111, 117, 116]] := by decide +kernel
theorem sp6 : splitT 32 [115, 116, 101, 112, 32, 53, 48, 48] = [[115, 116, 101, 112], [53, 48, 48]] := by decide +kernel
theorem sp7 : splitT 32 [111, 117, 116] = [[111, 117, 116]] := by decide +kernel
theorem sp8 : splitT 32 [107, 105, 110, 100, 115] = [[107, 105, 110, 100, 115]] := by decide +kernel
theorem sp9 : splitT 32 [108, 105, 110, 101] = [[108, 105, 110, 101]] := by decide +kernel
theorem sp10 : splitT 32 [104, 101, 105, 103, 104, 116, 115, 32, 50] = [[104, 101, 105, 103, 104, 116, 115], [50]] := by decide +kernel
theorem sp11 : splitT 32 [104, 101, 105, 103, 104, 116, 115, 32, 51] = [[104, 101, 105, 103, 104, 116, 115], [51]] := by decide +kernel
theorem sp12 : splitT 32 [116, 114, 105, 109] = [[116, 114, 105, 109]] := by decide +kernel
theorem sp13 : splitT 32 [97, 103, 97, 105, 110] = [[97, 103, 97, 105, 110]] := by decide +kernel
theorem sp14 : splitT 32 [115, 116, 101, 112, 32, 53, 48, 49] = [[115, 116, 101, 112], [53, 48, 49]] := by decide +kernel
theorem sp15 : splitT 32 [115, 116, 101, 112] = [[115, 116, 101, 112]] := by decide +kernel
theorem sp16 : splitT 32 [111, 117, 116] = [[111, 117, 116]] := by decide +kernel
theorem a0 : ansD (opsOf cntL) (beginS cntL) (splitT 32 [107, 105, 110, 100, 115]) = (beginS cntL, [Lib.itoa 1]) := by
  rw [sp0]; exact ans_l ((do_kinds _ _).trans (by rw [show ((List.range (beginS cntL).fibers.length).map fun k => (opsOf cntL).kind (beginS cntL) k) = [1] from k0]; rfl)) (by simp)
theorem a1 : ansD (opsOf cntL) (beginS cntL) (splitT 32 [108, 105, 110, 101]) = (beginS cntL, [Lib.itoa 0]) := by
  rw [sp1]; exact ans_l ((do_line _ _).trans (by rw [show (opsOf cntL).line (beginS cntL) = [0] from l0]; rfl)) (by simp)
theorem a2 : ansD (opsOf cntL) (beginS cntL) (splitT 32 [115, 116, 101, 112, 32, 54]) = (sA, [Lib.itoa 6]) := by
  rw [sp2]; refine ans_l ((do_step _ _ nt6).trans ?_) (by simp)
  rw [show ((opsOf cntL).run (beginS cntL) 6).2 = (6, 0) from sA_run]; rfl
theorem a3 : ansD (opsOf cntL) sA (splitT 32 [107, 105, 110, 100, 115]) = (sA, [Lib.itoa 2, Lib.itoa 1]) := by
  rw [sp3]; exact ans_l ((do_kinds _ _).trans (by rw [show ((List.range sA.fibers.length).map fun k => (opsOf cntL).kind sA k) = [2, 1] from kA]; rfl)) (by simp)
theorem a4 : ansD (opsOf cntL) sA (splitT 32 [108, 105, 110, 101]) = (sA, [Lib.itoa 1, Lib.itoa 0]) := by
  rw [sp4]; exact ans_l ((do_line _ _).trans (by rw [show (opsOf cntL).line sA = [1, 0] from lA]; rfl)) (by simp)
theorem a5 : ansD (opsOf cntL) sA (splitT 32 [111, 117, 116]) = (sA, [[45]]) := by
  rw [sp5]; exact ans_0 ((do_out _ _).trans (by rw [oA]; rfl))
theorem a6 : ansD (opsOf cntL) sA (splitT 32 [115, 116, 101, 112, 32, 53, 48, 48]) = (sB, [Lib.itoa 22]) := by
  rw [sp6]; refine ans_l ((do_step _ _ nt500).trans ?_) (by simp)
  rw [show ((opsOf cntL).run sA 500).2 = (22, 0) from sB_run]; rfl
theorem a7 : ansD (opsOf cntL) sB (splitT 32 [111, 117, 116]) = (sB, [Lib.itoa 7, Lib.itoa 8, Lib.itoa 99]) := by
  rw [sp7]; exact ans_l ((do_out _ _).trans (by rw [oB]; rfl)) (by simp)
theorem a8 : ansD (opsOf cntL) sB (splitT 32 [107, 105, 110, 100, 115]) = (sB, [Lib.itoa 0, Lib.itoa 0]) := by
  rw [sp8]; exact ans_l ((do_kinds _ _).trans (by rw [show ((List.range sB.fibers.length).map fun k => (opsOf cntL).kind sB k) = [0, 0] from kB]; rfl)) (by simp)
theorem a9 : ansD (opsOf cntL) sB (splitT 32 [108, 105, 110, 101]) = (sB, [[45]]) := by
  rw [sp9]; exact ans_0 ((do_line _ _).trans (by rw [show (opsOf cntL).line sB = [] from lB]; rfl))
theorem a10 : ansD (opsOf cntL) sB (splitT 32 [104, 101, 105, 103, 104, 116, 115, 32, 50]) = (sB, [Lib.itoa 0, Lib.itoa 1, Lib.itoa 2, Lib.itoa 1]) := by
  rw [sp10]; refine ans_l ((do_hgt _ _ nt2).trans ?_) (by simp)
  rw [show (opsOf cntL).hgt 2 = ([0, 1, 2, 1], 0) from h2]; rfl
theorem a11 : ansD (opsOf cntL) sB (splitT 32 [104, 101, 105, 103, 104, 116, 115, 32, 51]) = (sB, faultD 5) := by
  rw [sp11]; refine ans_r ((do_hgt _ _ nt3).trans ?_)
  rw [show ((opsOf cntL).hgt 3).2 = 5 from h3]; rfl
theorem a12 : ansD (opsOf cntL) sB (splitT 32 [116, 114, 105, 109]) = (sB, [Lib.itoa 28]) := by
  rw [sp12]; exact ans_l ((do_trim _ _).trans (by rw [show opsD (opsOf cntL).trim = 28 from tC]; rfl)) (by simp)
theorem a13 : ansD (opsOf cntL) sB (splitT 32 [97, 103, 97, 105, 110]) = (beginS cntL, [[111, 107]]) := by
  rw [sp13]; exact ans_l (do_again _ _) (by simp)
theorem a14 : ansD (opsOf cntL) (beginS cntL) (splitT 32 [115, 116, 101, 112, 32, 53, 48, 49]) = (beginS cntL, faultD 3) := by
  rw [sp14]; refine ans_r ((do_step _ _ nt501).trans ?_)
  rw [if_pos (show ((opsOf cntL).run (beginS cntL) 501).2.2 = 3 from r501)]
theorem a15 : ansD (opsOf cntL) (beginS cntL) (splitT 32 [115, 116, 101, 112]) = (beginS cntL, faultD 1) := by
  rw [sp15]; exact ans_r rfl
theorem a16 : ansD (opsOf cntL) (beginS cntL) (splitT 32 [111, 117, 116]) = (beginS cntL, [[45]]) := by
  rw [sp16]; exact ans_0 rfl
theorem out1 : (linesD (opsOf cntL) (beginS cntL) [[107, 105, 110, 100, 115], [108, 105, 110, 101], [115, 116, 101, 112, 32, 54], [107, 105, 110, 100, 115], [108, 105, 110, 101], [111, 117, 116], [115, 116, 101, 112, 32, 53, 48, 48], [111, 117, 116], [107, 105, 110, 100, 115], [108, 105, 110, 101], [104, 101, 105, 103, 104, 116, 115, 32, 50], [104, 101, 105, 103, 104, 116, 115, 32, 51], [116, 114, 105, 109], [97, 103, 97, 105, 110], [115, 116, 101, 112, 32, 53, 48, 49], [115, 116, 101, 112], [111, 117, 116]]).2 = [49, 10, 48, 10, 54, 10, 50, 32, 49, 10, 49, 32, 48, 10, 45, 10, 50, 50, 10, 55, 32, 56, 32, 57, 57, 10, 48, 32, 48, 10, 45, 10, 48, 32, 49, 32, 50, 32, 49, 10, 101, 114, 114, 111, 114, 32, 53, 10, 50, 56, 10, 111, 107, 10, 101, 114, 114, 111, 114, 32, 51, 10, 101, 114, 114, 111, 114, 32, 49, 10, 45, 10] := by
  rw [linesD_cons a0, linesD_cons a1, linesD_cons a2, linesD_cons a3, linesD_cons a4, linesD_cons a5, linesD_cons a6, linesD_cons a7, linesD_cons a8, linesD_cons a9, linesD_cons a10, linesD_cons a11, linesD_cons a12, linesD_cons a13, linesD_cons a14, linesD_cons a15, linesD_cons a16]
  simp [linesD, faultD, it0, it1, it2, it3, it5, it6, it7, it8, it22, it28, it99, Lib.join_cons, Lib.joinTail]
def p2L : List Fn := [⟨0, 0, [(0, 1), (15, 0), (12, 0)]⟩]
theorem p2R : progS p2L = 0 := by decide +kernel
theorem p2_show : showT p2L = [102, 117, 110, 99, 32, 48, 32, 48, 10, 112, 117, 115, 104, 32, 49, 10, 121, 105, 101, 108, 100, 10, 114, 101, 116, 117, 114, 110, 10] := by
  simp [showT, p2L, fnT, opT, lineT, tkS, it0, it1, Lib.join_cons, Lib.joinTail]
def T2 : List UInt8 := [115, 116, 101, 112, 32, 53, 10, 115, 116, 101, 112, 32, 53, 10]
theorem T2_lines : linesT T2 = some [[115, 116, 101, 112, 32, 53], [115, 116, 101, 112, 32, 53]] := by decide +kernel
theorem sq0 : splitT 32 [115, 116, 101, 112, 32, 53] = [[115, 116, 101, 112], [53]] := by decide +kernel
def sC : St := (rnS p2L (beginS p2L) 5).1
theorem sC_run : (rnS p2L (beginS p2L) 5).2 = (1, 7) := by decide +kernel
theorem sD_run : (rnS p2L sC 5).2 = (0, 7) := by decide +kernel
theorem b0 : ansD (opsOf p2L) (beginS p2L) (splitT 32 [115, 116, 101, 112, 32, 53]) = (sC, [Lib.itoa 1] ++ faultD 7) := by
  rw [sq0]; refine ans_l ((do_step _ _ nt5).trans ?_) (by simp)
  rw [show ((opsOf p2L).run (beginS p2L) 5).2 = (1, 7) from sC_run]; rfl
theorem b1 : ansD (opsOf p2L) sC (splitT 32 [115, 116, 101, 112, 32, 53]) = ((rnS p2L sC 5).1, [Lib.itoa 0] ++ faultD 7) := by
  rw [sq0]; refine ans_l ((do_step _ _ nt5).trans ?_) (by simp)
  rw [show ((opsOf p2L).run sC 5).2 = (0, 7) from sD_run]; rfl
theorem out2 : (linesD (opsOf p2L) (beginS p2L) [[115, 116, 101, 112, 32, 53], [115, 116, 101, 112, 32, 53]]).2 = [49, 32, 101, 114, 114, 111, 114, 32, 55, 10, 48, 32, 101, 114, 114, 111, 114, 32, 55, 10] := by
  rw [linesD_cons b0, linesD_cons b1]
  simp [linesD, faultD, it0, it1, it7, Lib.join_cons, Lib.joinTail]
end Go.Proofs.YtokhibfenccijaaGreatDoor
