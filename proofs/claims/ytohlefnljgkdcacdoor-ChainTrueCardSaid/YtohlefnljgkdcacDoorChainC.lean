/-
  The statements' own chainBegun: it answers true.
-/
import Derived.Test.YtohlefnljgkdcacDoorChainB
import Derived.Test.YtohlefnljgkdcacDoorSR39
import Derived.Test.YtohlefnljgkdcacDoorSR43
import Derived.Test.YtohlefnljgkdcacDoorSR32
namespace Go.Proofs.YtohlefnljgkdcacDoor
open Go.RowKit

theorem c_small99 : Small (cs 99) := by unfold Small; decide +kernel
theorem c_err1 : stErrS cntL (cs 1) = 0 := by decide +kernel
theorem c_err7 : stErrS cntL (cs 7) = 0 := by decide +kernel
theorem c_err99 : stErrS cntL (cs 99) = 0 := by decide +kernel
theorem c_line6 : lineC cntL (cs 6) = [1, 0] := by decide +kernel
theorem c_line99 : lineC cntL (cs 99) = [] := by decide +kernel
theorem c_kind60 : kindE cntL (cs 6) 0 = (2, 0) := by decide +kernel
theorem c_kind61 : kindE cntL (cs 6) 1 = (1, 0) := by decide +kernel
theorem c_kind11 : kindE cntL (cs 1) 1 = (3, 0) := by decide +kernel
theorem c_kind71 : kindE cntL (cs 7) 1 = (4, 0) := by decide +kernel
theorem c_kind72 : kindE cntL (cs 7) 2 = (0, 5) := by decide +kernel

theorem afterSt {N0 : Nat} (vp : Value) (n : Nat) (w : World) (hp : CountAt N0 w vp) (hf : n ≤ 500) (hok : runOk cntL n (beginS cntL)) (hs : Small (cs n)) :
    Calls Tryd.prog 21 #[vp, .int .i64 n] w fun e w' => ∃ v, e = .returned v ∧ StAt w' v (cs n) ∧ Kept w w' := by
  refine (afterCnt vp n w hp hf hok).mono ?_
  rintro _ w' ⟨V, rfl, ho, hk⟩
  exact ⟨_, rfl, ho.reads hs, hk⟩

set_option maxRecDepth 100000 in
set_option maxHeartbeats 4000000 in
theorem chainBegun_any (w : World) (hk : KindsAt w) : Calls Tryd.prog 15 #[] w fun e w' => e = .returned (.bool true) ∧ Kept w w' := by
  have HK := hide hk
  have HD0 := hide (Kept.refl w)
  clear hk
  go_enter Tryd.func15, Tryd.ntmps15
  go_wp2_with fail
  refine (count_any _).mono ?_
  rintro _ aA ⟨vA, rfl, hcA, hkaA⟩
  have CA := hide hcA.prog
  have KaA := hide ((unhide HD0).trans hkaA)
  clear hcA hkaA HD0 
  go_wp2_with fail
  refine (count_any _).mono ?_
  rintro _ bA ⟨uA, rfl, hcA, hkbA⟩
  have HCA := hide (afterSt uA 6 bA hcA (by omega) cnt_6 cs_small6)
  have DA := hide ((unhide CA).kept hkbA)
  have KbA := hide ((unhide KaA).trans hkbA)
  clear hcA hkbA KaA CA 
  go_wp2_with fail
  refine (unhide HCA).mono ?_
  rintro _ cA ⟨sA, rfl, hsA, hkcA⟩
  have KcA := hide ((unhide KbA).trans hkcA)
  have HLA := hide (chainLine_any cntL (cs 6) vA sA cA ((unhide DA).kept hkcA) hsA ((unhide HK).kept (unhide KcA)) (hide (fun u h1 h2 h3 => stCheck_any cntL (cs 6) vA sA u h1 h2 h3)))
  clear hsA hkcA KbA HCA DA 
  go_wp2_with fail
  refine (unhide HLA).mono ?_
  unfold LinePost2
  rw [c_line6, err_x]
  rintro _ dA ⟨lA, rfl, hiA, hkdA⟩
  obtain ⟨oA, qA, rfl, _, _⟩ := id hiA
  have IA := hide hiA
  clear hiA
  have HDA := hide ((unhide KcA).trans hkdA)
  clear hkdA KcA HLA 
  go_wp2_with fail
  refine (count_any _).mono ?_
  rintro _ aB ⟨vB, rfl, hcB, hkaB⟩
  have CB := hide hcB.prog
  have KaB := hide ((unhide HDA).trans hkaB)
  have IABa := hide ((unhide IA).kept hkaB)
  clear hcB hkaB HDA IA
  go_wp2_with fail
  refine (count_any _).mono ?_
  rintro _ bB ⟨uB, rfl, hcB, hkbB⟩
  have HCB := hide (afterSt uB 6 bB hcB (by omega) cnt_6 cs_small6)
  have DB := hide ((unhide CB).kept hkbB)
  have KbB := hide ((unhide KaB).trans hkbB)
  have IABb := hide ((unhide IABa).kept hkbB)
  clear hcB hkbB KaB CB IABa
  go_wp2_with fail
  refine (unhide HCB).mono ?_
  rintro _ cB ⟨sB, rfl, hsB, hkcB⟩
  have KcB := hide ((unhide KbB).trans hkcB)
  have HLB := hide (chainKind_any cntL (cs 6) 0 vB sB cB ((unhide DB).kept hkcB) hsB ((unhide HK).kept (unhide KcB)) (hide (fun u h1 h2 h3 => stCheck_any cntL (cs 6) vB sB u h1 h2 h3)))
  have IABc := hide ((unhide IABb).kept hkcB)
  clear hsB hkcB KbB HCB DB IABb
  go_wp2_with fail
  refine (unhide HLB).mono ?_
  rw [c_kind60]
  rintro _ dB ⟨rfl, hkdB⟩
  have HDB := hide ((unhide KcB).trans hkdB)
  have IA := hide ((unhide IABc).kept hkdB)
  clear hkdB KcB HLB IABc
  go_wp2_with fail
  refine (count_any _).mono ?_
  rintro _ aC ⟨vC, rfl, hcC, hkaC⟩
  have CC := hide hcC.prog
  have KaC := hide ((unhide HDB).trans hkaC)
  have IACa := hide ((unhide IA).kept hkaC)
  clear hcC hkaC HDB IA
  go_wp2_with fail
  refine (count_any _).mono ?_
  rintro _ bC ⟨uC, rfl, hcC, hkbC⟩
  have HCC := hide (afterSt uC 6 bC hcC (by omega) cnt_6 cs_small6)
  have DC := hide ((unhide CC).kept hkbC)
  have KbC := hide ((unhide KaC).trans hkbC)
  have IACb := hide ((unhide IACa).kept hkbC)
  clear hcC hkbC KaC CC IACa
  go_wp2_with fail
  refine (unhide HCC).mono ?_
  rintro _ cC ⟨sC, rfl, hsC, hkcC⟩
  have KcC := hide ((unhide KbC).trans hkcC)
  have HLC := hide (chainKind_any cntL (cs 6) 1 vC sC cC ((unhide DC).kept hkcC) hsC ((unhide HK).kept (unhide KcC)) (hide (fun u h1 h2 h3 => stCheck_any cntL (cs 6) vC sC u h1 h2 h3)))
  have IACc := hide ((unhide IACb).kept hkcC)
  clear hsC hkcC KbC HCC DC IACb
  go_wp2_with fail
  refine (unhide HLC).mono ?_
  rw [c_kind61]
  rintro _ dC ⟨rfl, hkdC⟩
  have HDC := hide ((unhide KcC).trans hkdC)
  have IA := hide ((unhide IACc).kept hkdC)
  clear hkdC KcC HLC IACc
  go_wp2_with fail
  refine (count_any _).mono ?_
  rintro _ aD ⟨vD, rfl, hcD, hkaD⟩
  have CD := hide hcD.prog
  have KaD := hide ((unhide HDC).trans hkaD)
  have IADa := hide ((unhide IA).kept hkaD)
  clear hcD hkaD HDC IA
  go_wp2_with fail
  refine (count_any _).mono ?_
  rintro _ bD ⟨uD, rfl, hcD, hkbD⟩
  have HCD := hide (afterSt uD 1 bD hcD (by omega) cnt_1 cs_small1)
  have DD := hide ((unhide CD).kept hkbD)
  have KbD := hide ((unhide KaD).trans hkbD)
  have IADb := hide ((unhide IADa).kept hkbD)
  clear hcD hkbD KaD CD IADa
  go_wp2_with fail
  refine (unhide HCD).mono ?_
  rintro _ cD ⟨sD, rfl, hsD, hkcD⟩
  have KcD := hide ((unhide KbD).trans hkcD)
  have HLD := hide (chainKind_any cntL (cs 1) 1 vD sD cD ((unhide DD).kept hkcD) hsD ((unhide HK).kept (unhide KcD)) (hide (fun u h1 h2 h3 => stCheck_any cntL (cs 1) vD sD u h1 h2 h3)))
  have IADc := hide ((unhide IADb).kept hkcD)
  clear hsD hkcD KbD HCD DD IADb
  go_wp2_with fail
  refine (unhide HLD).mono ?_
  rw [c_kind11]
  rintro _ dD ⟨rfl, hkdD⟩
  have HDD := hide ((unhide KcD).trans hkdD)
  have IA := hide ((unhide IADc).kept hkdD)
  clear hkdD KcD HLD IADc
  go_wp2_with fail
  refine (count_any _).mono ?_
  rintro _ aE ⟨vE, rfl, hcE, hkaE⟩
  have CE := hide hcE.prog
  have KaE := hide ((unhide HDD).trans hkaE)
  have IAEa := hide ((unhide IA).kept hkaE)
  clear hcE hkaE HDD IA
  go_wp2_with fail
  refine (count_any _).mono ?_
  rintro _ bE ⟨uE, rfl, hcE, hkbE⟩
  have HCE := hide (afterSt uE 7 bE hcE (by omega) cnt_7 cs_small7)
  have DE := hide ((unhide CE).kept hkbE)
  have KbE := hide ((unhide KaE).trans hkbE)
  have IAEb := hide ((unhide IAEa).kept hkbE)
  clear hcE hkbE KaE CE IAEa
  go_wp2_with fail
  refine (unhide HCE).mono ?_
  rintro _ cE ⟨sE, rfl, hsE, hkcE⟩
  have KcE := hide ((unhide KbE).trans hkcE)
  have HLE := hide (chainKind_any cntL (cs 7) 1 vE sE cE ((unhide DE).kept hkcE) hsE ((unhide HK).kept (unhide KcE)) (hide (fun u h1 h2 h3 => stCheck_any cntL (cs 7) vE sE u h1 h2 h3)))
  have IAEc := hide ((unhide IAEb).kept hkcE)
  clear hsE hkcE KbE HCE DE IAEb
  go_wp2_with fail
  refine (unhide HLE).mono ?_
  rw [c_kind71]
  rintro _ dE ⟨rfl, hkdE⟩
  have HDE := hide ((unhide KcE).trans hkdE)
  have IA := hide ((unhide IAEc).kept hkdE)
  clear hkdE KcE HLE IAEc
  go_wp2_with fail
  refine (count_any _).mono ?_
  rintro _ aF ⟨vF, rfl, hcF, hkaF⟩
  have CF := hide hcF.prog
  have KaF := hide ((unhide HDE).trans hkaF)
  have IAFa := hide ((unhide IA).kept hkaF)
  clear hcF hkaF HDE IA
  go_wp2_with fail
  refine (count_any _).mono ?_
  rintro _ bF ⟨uF, rfl, hcF, hkbF⟩
  have HCF := hide (afterSt uF 7 bF hcF (by omega) cnt_7 cs_small7)
  have DF := hide ((unhide CF).kept hkbF)
  have KbF := hide ((unhide KaF).trans hkbF)
  have IAFb := hide ((unhide IAFa).kept hkbF)
  clear hcF hkbF KaF CF IAFa
  go_wp2_with fail
  refine (unhide HCF).mono ?_
  rintro _ cF ⟨sF, rfl, hsF, hkcF⟩
  have KcF := hide ((unhide KbF).trans hkcF)
  have HLF := hide (chainKind_any cntL (cs 7) 2 vF sF cF ((unhide DF).kept hkcF) hsF ((unhide HK).kept (unhide KcF)) (hide (fun u h1 h2 h3 => stCheck_any cntL (cs 7) vF sF u h1 h2 h3)))
  have IAFc := hide ((unhide IAFb).kept hkcF)
  clear hsF hkcF KbF HCF DF IAFb
  go_wp2_with fail
  refine (unhide HLF).mono ?_
  rw [c_kind72]
  rintro _ dF ⟨rfl, hkdF⟩
  have HDF := hide ((unhide KcF).trans hkdF)
  have IA := hide ((unhide IAFc).kept hkdF)
  clear hkdF KcF HLF IAFc
  go_wp2_with fail
  refine (count_any _).mono ?_
  rintro _ aG ⟨vG, rfl, hcG, hkaG⟩
  have CG := hide hcG.prog
  have KaG := hide ((unhide HDF).trans hkaG)
  have IAGa := hide ((unhide IA).kept hkaG)
  clear hcG hkaG HDF IA
  go_wp2_with fail
  refine (count_any _).mono ?_
  rintro _ bG ⟨uG, rfl, hcG, hkbG⟩
  have HCG := hide (afterSt uG 99 bG hcG (by omega) cnt_99 c_small99)
  have DG := hide ((unhide CG).kept hkbG)
  have KbG := hide ((unhide KaG).trans hkbG)
  have IAGb := hide ((unhide IAGa).kept hkbG)
  clear hcG hkbG KaG CG IAGa
  go_wp2_with fail
  refine (unhide HCG).mono ?_
  rintro _ cG ⟨sG, rfl, hsG, hkcG⟩
  have KcG := hide ((unhide KbG).trans hkcG)
  have HLG := hide (chainLine_any cntL (cs 99) vG sG cG ((unhide DG).kept hkcG) hsG ((unhide HK).kept (unhide KcG)) (hide (fun u h1 h2 h3 => stCheck_any cntL (cs 99) vG sG u h1 h2 h3)))
  have IAGc := hide ((unhide IAGb).kept hkcG)
  clear hsG hkcG KbG HCG DG IAGb
  go_wp2_with fail
  refine (unhide HLG).mono ?_
  unfold LinePost2
  rw [c_line99, c_err99]
  rintro _ dG ⟨lG, rfl, hiG, hkdG⟩
  obtain ⟨oG, qG, rfl, _, _⟩ := id hiG
  have IG := hide hiG
  clear hiG
  have HDG := hide ((unhide KcG).trans hkdG)
  have IA := hide ((unhide IAGc).kept hkdG)
  clear hkdG KcG HLG IAGc
  clear IG
  go_wp2_with fail
  have hkz : Kept dG (dG.alloc (.cells #[.int .i64 1, .int .i64 0] 3)) := (Kept.refl dG).alloc _
  have hnew : IntsAt (dG.alloc (.cells #[.int .i64 1, .int .i64 0] 3)) (.slice (some ⟨dG.heap.size, 0, none⟩) 2 2) [1, 0] := by
    have L : (dG.alloc (.cells #[.int .i64 1, .int .i64 0] 3)).heap[dG.heap.size]? = some (.cells #[.int .i64 1, .int .i64 0] 3) := lays_new rfl
    refine ⟨_, 2, rfl, by simp, fun i z hz => ⟨_, _, rfl, ?_⟩⟩
    have hi := (List.getElem?_eq_some_iff.1 hz).1
    simp only [List.length_cons, List.length_nil] at hi
    match i, hi, hz with
    | 0, _, hz => cases hz; exact cell_lays L 0
    | 1, _, hz => cases hz; exact cell_lays L 1
  refine (sameInts_any [1, 0] [1, 0] _ _ _ ((unhide IA).kept hkz) hnew).mono ?_
  rw [decide_eq_true rfl]
  rintro _ wz ⟨rfl, hkw⟩
  have HZ := hide (((unhide HDG).trans hkz).trans hkw)
  clear hkw hkz hnew
  go_wp2
  go_ret
  exact ⟨by simp, unhide HZ⟩
end Go.Proofs.YtohlefnljgkdcacDoor
