/-
  The contract of the reference's HeightsOf.
-/
import Derived.Test.YtkepbeeioalmbaaDoorOpK
import Derived.Test.YtkepbeeioalmbaaDoorFlowI
namespace Go.Proofs.YtkepbeeioalmbaaDoor
open Go.RowKit

set_option maxHeartbeats 1000000 in
theorem heightsOf_bad (p : List Fn) (v : Value) (f : Int) (w : World) (hp : ProgAt w v p) (hz : chkS p f ≠ 0) :
    Calls Tryd.prog 16 #[v, .int .i64 f] w fun e w' => HgtPost p f w e w' := by
  obtain ⟨oa, cap, rfl, _, _⟩ := id hp
  have hz' : (chkS p f != 0) = true := by rw [bne_iff_ne]; exact hz
  have hr : hgtS p f = ([], chkS p f) := by unfold hgtS; rw [if_neg hz]
  have HR := hide hr
  have HP := hide hp
  clear hp hz hr
  go_enter Tryd.func16, Tryd.ntmps16
  go_wp2_with fail
  refine (funcError_any p _ f _ (unhide HP)).mono ?_
  rintro e w1 ⟨rfl, hk1⟩
  have H1 := hide hk1
  clear hk1
  generalize hc : chkS p f = r at *
  have HC := hide hc
  clear hc
  go_wp2
  go_ret2
  exact ⟨.slice none 0 0, by rw [unhide HR]; rfl, by rw [unhide HR]; exact IntsAt.nil _, unhide H1⟩

set_option maxHeartbeats 1000000 in
theorem heightsOf_go (p : List Fn) (g : Fn) (i b o cap : Nat) (oc : Option Addr) (m cc : Nat) (w : World) (hp : ProgAt w (.slice (some ⟨b, o, none⟩) p.length cap) p) (hi : i < p.length) (hg : p.getD i Fn.zero = g)
    (c2 : w.cell? ⟨b, o + i * 3 + 2, none⟩ = some (.slice oc m cc)) (hc : CodeAt w (.slice oc m cc) g.code) (hml : m = g.code.length) (hm : m ≤ 24) (hz : chkS p i = 0) (hops : opsS p g g.code = 0) :
    Calls Tryd.prog 16 #[.slice (some ⟨b, o, none⟩) p.length cap, .int .i64 i] w fun e w' => HgtPost p i w e w' := by
  have hgt : hgtS p i = match heightsS p g.code with | some H => (H, 0) | none => ([], 1) := by
    unfold hgtS
    rw [if_pos hz, Int.toNat_natCast, hg]
    rfl
  have hfe := funcError_any p (.slice (some ⟨b, o, none⟩) p.length cap) i w hp
  rw [hz] at hfe
  have hrf : ∀ u, Kept w u → Calls Tryd.prog 32 #[.slice (some ⟨b, o, none⟩) p.length cap, .int .i64 i] u fun e u' => RefPost p g.code u e u' :=
    fun u hu => refHeights_any p g i b o cap oc m cc u (hp.kept hu) hi (hu.cell c2) (hc.kept hu) hml hm (fun x hx => opsS_all hops x hx)
  have HGT := hide hgt
  have HFE := hide hfe
  have HRF := hide hrf
  clear hgt hfe hrf hp hg c2 hc hml hz hops
  go_enter Tryd.func16, Tryd.ntmps16
  go_wp2_with fail
  refine (unhide HFE).mono ?_
  rintro e w1 ⟨rfl, hk1⟩
  have H1 := hide hk1
  clear hk1
  go_wp2_with fail
  refine ((unhide HRF) _ (unhide H1)).mono ?_
  rintro e w2 ⟨u, rfl, hu, hk2⟩
  have H2 := hide ((unhide H1).trans hk2)
  have HU := hide hu
  clear hu hk2
  cases hh : heightsS p g.code with
  | none =>
    have HH := hide hh
    clear hh
    go_wp2
    go_ret2
    have hgt := unhide HGT
    rw [unhide HH] at hgt
    exact ⟨.slice none 0 0, by rw [hgt]; rfl, by rw [hgt]; exact IntsAt.nil _, unhide H2⟩
  | some H =>
    have HH := hide hh
    clear hh
    go_wp2
    go_ret2
    have hgt := unhide HGT
    rw [unhide HH] at hgt
    have hu := unhide HU
    rw [unhide HH] at hu
    exact ⟨u, by rw [hgt]; rfl, by rw [hgt]; exact hu, unhide H2⟩

/-- The reference's HeightsOf answers what C1 says. -/
theorem heightsOf_any (p : List Fn) (v : Value) (f : Int) (w : World) (hp : ProgAt w v p) :
    Calls Tryd.prog 16 #[v, .int .i64 f] w fun e w' => HgtPost p f w e w' := by
  by_cases hz : chkS p f = 0
  · obtain ⟨i, rfl, hi, hm, hr, hops⟩ := chkS_zero hz
    obtain ⟨oa, cap, rfl, hl, hcell⟩ := id hp
    obtain ⟨b, o, cv, rfl, c0, c1, c2, hc⟩ := hcell i _ (getD_of_lt p i Fn.zero hi)
    obtain ⟨oc, cc, rfl, _, _⟩ := id hc
    exact heightsOf_go p _ i b o cap oc _ cc w hp hi rfl c2 hc rfl hm hz hops
  · exact heightsOf_bad p v f w hp hz

end Go.Proofs.YtkepbeeioalmbaaDoor
