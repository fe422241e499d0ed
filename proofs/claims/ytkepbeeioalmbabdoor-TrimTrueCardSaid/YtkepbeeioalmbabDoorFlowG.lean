/-
  The contract of flow.Heights: what C1 says.
-/
import Derived.Test.YtkepbeeioalmbabDoorFlowF
import Derived.Test.YtkepbeeioalmbabDoorOpL0
import Derived.Deep.DeepCutAuto
import Derived.Deep.RegionWith
import Derived.JoinedCond
namespace Go.Proofs.YtkepbeeioalmbabDoor
open Go.RowKit Go.Shelf

/-- A slice of integers. -/
def IntsAt (w : World) (v : Value) (l : List Int) : Prop :=
  ∃ oa cap, v = .slice oa l.length cap ∧ l.length ≤ 8796093022208 ∧ ∀ i z, l[i]? = some z → ∃ b o, oa = some ⟨b, o, none⟩ ∧ w.cell? ⟨b, o + i, none⟩ = some (.int .i64 z)
theorem IntsAt.kept {w w' : World} (h : Kept w w') {v : Value} {l : List Int} (hl : IntsAt w v l) : IntsAt w' v l := by
  obtain ⟨oa, cap, e, hn, hi⟩ := hl
  refine ⟨oa, cap, e, hn, fun i z hz => ?_⟩
  obtain ⟨b, o, e1, h1⟩ := hi i z hz
  exact ⟨b, o, e1, h.cell h1⟩
theorem IntsAt.nil (w : World) : IntsAt w (.slice none 0 0) [] := ⟨none, 0, rfl, by simp, fun i z h => by simp at h⟩

/-- What flow.Heights (and the reference's HeightsOf) hand back: the list, the error. -/
def hgtS (p : List Fn) (f : Int) : List Int × Int :=
  if chkS p f = 0 then
    match heightsS p (p.getD f.toNat Fn.zero).code with
    | some H => (H, 0)
    | none => ([], 1)
  else ([], chkS p f)
def HgtPost (p : List Fn) (f : Int) (w : World) (e : Ending) (w' : World) : Prop :=
  ∃ v, e = .returned (.tuple #[v, .int .i64 (hgtS p f).2]) ∧ IntsAt w' v (hgtS p f).1 ∧ Kept w w'

set_option maxHeartbeats 1000000 in
theorem heights_bad (p : List Fn) (v : Value) (f : Int) (w : World) (hp : ProgAt w v p) (hk : KindsAt w) (hz : chkS p f ≠ 0) :
    Calls Tryd.prog 22 #[v, .int .i64 f] w fun e w' => HgtPost p f w e w' := by
  obtain ⟨oa, cap, rfl, _, _⟩ := id hp
  have hz' : (chkS p f != 0) = true := by rw [bne_iff_ne]; exact hz
  have hr : hgtS p f = ([], chkS p f) := by unfold hgtS; rw [if_neg hz]
  have HR := hide hr
  have HP := hide hp
  have HK := hide hk
  clear hp hk hz hr
  go_enter Tryd.func22, Tryd.ntmps22
  go_wp2_with fail
  refine (check_any p _ f _ (unhide HP) (unhide HK)).mono ?_
  rintro e w1 ⟨rfl, hk1⟩
  have H1 := hide hk1
  clear hk1
  generalize hc : chkS p f = r at *
  have HC := hide hc
  clear hc
  go_wp2
  go_ret2
  exact ⟨.slice none 0 0, by rw [unhide HR]; rfl, by rw [unhide HR]; exact IntsAt.nil _, unhide H1⟩

theorem infoInt : (Tryd.prog.info? 3).map (fun i => (i.zero, i.size, i.bytes)) = some (some (.int .i64 0), 1, 8) := by kernel_rfl
theorem made_ints (m : Nat) : madeCells #[.int .i64 0] m = ((List.replicate m (0 : Int)).map (fun z => Value.int .i64 z)).toArray := by
  apply Array.ext
  · simp [madeCells]
  · intro i h1 h2
    simp [madeCells, Nat.mod_one]
theorem make_ints (m : Nat) (hm : m ≤ 1000000) (u : World) : (Instr.makeSlice 46 (.int .i64 m) (.int .i64 m)).run Tryd.prog u =
    .ok (.slice (some ⟨u.heap.size, 0, none⟩) m m) (u.alloc (.cells ((List.replicate m (0 : Int)).map (fun z => Value.int .i64 z)).toArray 3)) := by
  obtain ⟨i0, hi, hz0, hz1, hz2⟩ := info_parts infoInt
  have h := run_make (P := Tryd.prog) u 46 3 i0 (.int .i64 0) Tryd.underlying46 hi hz0 .i64 .i64 (m : Int) (m : Int) (by omega) (Int.le_refl _) (by rw [hz2]; omega) (by omega)
  rw [Int.toNat_natCast] at h
  rw [← made_ints]
  simpa [hz1, Value.cells] using h

theorem fill_step {k m : Nat} (h : k < m) : (List.replicate k (-1 : Int) ++ List.replicate (m - k) 0).set k (-1) = List.replicate (k + 1) (-1) ++ List.replicate (m - (k + 1)) 0 := by
  obtain ⟨d, rfl⟩ : ∃ d, m = k + 1 + d := ⟨m - (k + 1), by omega⟩
  rw [List.set_append_right _ _ (by simp)]
  have e1 : k + 1 + d - k = d + 1 := by omega
  have e2 : k + 1 + d - (k + 1) = d := by omega
  rw [e1, e2, List.replicate_succ]
  simp [List.replicate_succ', List.append_assoc]

theorem heights_zero {w : World} {B m : Nat} (h : w.heap[B]? = some (.cells (Array.replicate m (.int .i64 0)) 3)) : HeightsAt w B (List.replicate m 0) := by
  unfold HeightsAt
  rw [h]
  simp

set_option maxHeartbeats 4000000 in
set_option maxRecDepth 100000 in
theorem heights_try (p : List Fn) (g : Fn) (i b o cap : Nat) (oc : Option Addr) (m cc : Nat) (w : World) (hk : KindsAt w) (hp : ProgAt w (.slice (some ⟨b, o, none⟩) p.length cap) p) (hi : i < p.length) (hg : p.getD i Fn.zero = g)
    (c2 : w.cell? ⟨b, o + i * 3 + 2, none⟩ = some (.slice oc m cc)) (hc : CodeAt w (.slice oc m cc) g.code) (hml : m = g.code.length) (hm : m ≤ 24) (hz : chkS p i = 0) (hops : opsS p g g.code = 0) :
    Calls Tryd.prog 22 #[.slice (some ⟨b, o, none⟩) p.length cap, .int .i64 i] w fun e w' => HgtPost p i w e w' := by
  have HK := hide hk
  have HP := hide hp
  have HG := hide hg
  have HC := hide hc
  have HL := hide hml
  have HZ := hide hz
  have HO := hide hops
  have C2 := hide c2
  clear hk hp hg hc hml hz hops c2
  go_enter Tryd.func22, Tryd.ntmps22
  go_wp2_with fail
  refine (check_is p _ i 0 _ (unhide HP) (unhide HK) (unhide HZ)).mono ?_
  rintro e w1 ⟨rfl, hk1⟩
  have d2 := hk1.cell (unhide C2)
  have H1 := hide hk1
  clear hk1
  have d2' : ∀ o1, (w1.alloc o1).cell? ⟨b, o + i * 3 + 2, none⟩ = some (.slice oc m cc) := fun o1 => ((Kept.refl w1).alloc o1).cell d2
  have d2'' : ∀ o1 o2, ((w1.alloc o1).alloc o2).cell? ⟨b, o + i * 3 + 2, none⟩ = some (.slice oc m cc) := fun o1 o2 => (((Kept.refl w1).alloc o1).alloc o2).cell d2
  have hmk := make_ints m (by omega)
  go_wp2_with fail
  go_cut [7] (fun s7 wx => ∃ B Bw, s7 = .pointer (some ⟨Bw, 0, none⟩) ∧ Hid (wx.heap[Bw]? = some (.cells #[.slice (some ⟨b, o, none⟩) p.length cap, .slice oc m cc, .slice (some ⟨B, 0, none⟩) m m] 59)) ∧ Hid (HeightsAt wx B (List.replicate m 0)) ∧ w1.heap.size ≤ B ∧ w1.heap.size ≤ Bw ∧ B ≠ Bw ∧ Hid (Kept w1 wx))
  case first =>
    go_region
    all_goals go_wp2_with fail
    all_goals go_meet
    · exact ⟨w1.heap.size, w1.heap.size + 1, rfl, hide (lays_drew (lays_new (by simp))), hide (heights_zero (lays_drew (lays_alloc (lays_new rfl) _))), Nat.le_refl _, Nat.le_succ _, by omega, hide ((((Kept.refl _).alloc _).alloc _).drew)⟩
    · exact ⟨w1.heap.size + 1, w1.heap.size, rfl, hide (lays_drew (lays_alloc (lays_new rfl) _)), hide (heights_zero (lays_drew (lays_new (by simp)))), Nat.le_succ _, Nat.le_refl _, by omega, hide ((((Kept.refl _).alloc _).alloc _).drew)⟩
  case rest =>
    obtain ⟨B, Bw, rfl, L0, HH0, hB, hBw, hne, HK1⟩ := hcut
    have e2 := cell_lays (unhide L0) 2
    simp only [List.getElem?_toArray, List.getElem?_cons_zero, List.getElem?_cons_succ] at e2
    clear d2 d2' d2'' hmk
    go_wp2
    go_loopw [32] (fun s32 wr => ∃ k : Nat, k ≤ m ∧ s32 = .int .i64 k ∧ Hid (wr.heap[Bw]? = some (.cells #[.slice (some ⟨b, o, none⟩) p.length cap, .slice oc m cc, .slice (some ⟨B, 0, none⟩) m m] 59)) ∧ Hid (HeightsAt wr B (List.replicate k (-1) ++ List.replicate (m - k) 0)) ∧ Hid (Kept w1 wr)) (fun s32 _ => m - (intOf s32).toNat)
    case atStart => exact ⟨0, Nat.zero_le _, rfl, L0, by simpa using HH0, HK1⟩
    case round =>
      obtain ⟨k, hkm, rfl, L0r, HHr, HKr⟩ := hrel
      have f0 := cell_lays (unhide L0r) 0
      have f1 := cell_lays (unhide L0r) 1
      have f2 := cell_lays (unhide L0r) 2
      simp only [List.getElem?_toArray, List.getElem?_cons_zero, List.getElem?_cons_succ] at f0 f1 f2
      by_cases hlt : k < m
      · have q := (unhide HHr).cell (k := k) (by simp; omega)
        have q' := (unhide HHr).frozen k
        have hset := (unhide HHr).set k (-1)
        rw [fill_step hlt] at hset
        have HSET := hide hset
        generalize (List.replicate k (-1 : Int) ++ List.replicate (m - k) 0).getD k 0 = z at q
        clear hset
        go_wp2
        go_roundw
        case rel => exact ⟨k + 1, by omega, by go_num, lays_other (unhide L0r) (fun e => hne e.symm) _, unhide HSET, (unhide HKr).setCell (p := ⟨B, k, none⟩) hB _⟩
        case measure => simp [intOf]; omega
      · have hke : k = m := by omega
        have hst : List.replicate k (-1 : Int) ++ List.replicate (m - k) 0 = start g.code := by
          have := unhide HL
          rw [hke, Nat.sub_self]
          simp [start, this]
        have hHs := unhide HHr
        rw [hst] at hHs
        have hu := unv_le (start g.code)
        rw [show (start g.code).length = g.code.length by simp [start]] at hu
        have hright : ∀ x, x ∈ g.code → opS p g x = 0 := fun x hx => opsS_all (unhide HO) x hx
        have hcm := come_any p g (some ⟨b, o, none⟩) p.length cap oc m cc B w1 (unhide HL) (g.code.length + 1) (start g.code) 0 0 wr ⟨(unhide HP).kept (unhide H1), (unhide HC).kept (unhide H1), (unhide HK).kept (unhide H1), hright, by have := unhide HL; omega, unhide HKr, hB, hHs, by simp [start]⟩ (by omega) (by omega) (by omega)
        have HCM := hide hcm
        have HRT := hide hright
        clear hcm hright hu hHs hst hke
        go_wp2_with fail
        refine (unhide HCM).mono ?_
        clear HCM
        rintro e w2 ⟨bb, H2, hc2, rfl, hH2, hk2⟩
        have hgt : hgtS p i = match heightsS p g.code with | some H => (H, 0) | none => ([], 1) := by
          unfold hgtS
          rw [if_pos (unhide HZ), Int.toNat_natCast, unhide HG]
        have hkw : Kept w w2 := (unhide H1).trans (KeptX.kept (unhide HKr) hB hk2)
        have g2 := cell_lays (hk2.lays (fun e => hne e.symm) (unhide L0r)) 2
        simp only [List.getElem?_toArray, List.getElem?_cons_zero, List.getElem?_cons_succ] at g2
        have HGT := hide hgt
        have HKW := hide hkw
        have HC2 := hide hc2
        have HH2 := hide hH2
        clear hgt hkw hc2 hH2 hk2 f0 f1 f2
        have hR : Right p g.code := ⟨g, rfl, unhide HRT⟩
        cases bb with
        | false =>
          have hn : heightsS p g.code = none := by
            cases hh : heightsS p g.code with
            | none => rfl
            | some H =>
              have := (way_heights hR).2 H hh
              unfold wayS at this
              rw [unhide HC2] at this
              cases this
          have HN := hide hn
          clear hn hR
          go_wp2
          go_ret2
          have hgt := unhide HGT
          rw [unhide HN] at hgt
          exact ⟨.slice none 0 0, by rw [hgt]; rfl, by rw [hgt]; exact IntsAt.nil _, unhide HKW⟩
        | true =>
          have hs : heightsS p g.code = some H2 := (way_heights hR).1 H2 (unhide HC2)
          have hlen : H2.length = m := by rw [(heightsS_ok hR hs).1.len]; exact (unhide HL).symm
          have HS := hide hs
          have HLN := hide hlen
          clear hs hlen hR
          go_wp2
          go_ret2
          have hgt := unhide HGT
          rw [unhide HS] at hgt
          refine ⟨.slice (some ⟨B, 0, none⟩) m m, by rw [hgt]; rfl, ?_, unhide HKW⟩
          rw [hgt]
          have hlen := unhide HLN
          refine ⟨_, m, by rw [hlen], by simp only; omega, fun k z hz => ⟨B, 0, rfl, ?_⟩⟩
          have hk := (List.getElem?_eq_some_iff.1 hz).1
          have := (unhide HH2).cell (k := k) hk
          rw [Nat.zero_add, this]
          simp [List.getD, hz]

/-- flow.Heights answers what C1 says. -/
theorem heights_any (p : List Fn) (v : Value) (f : Int) (w : World) (hp : ProgAt w v p) (hk : KindsAt w) :
    Calls Tryd.prog 22 #[v, .int .i64 f] w fun e w' => HgtPost p f w e w' := by
  by_cases hz : chkS p f = 0
  · obtain ⟨i, rfl, hi, hm, hr, hops⟩ := chkS_zero hz
    obtain ⟨oa, cap, rfl, hl, hcell⟩ := id hp
    obtain ⟨b, o, cv, rfl, c0, c1, c2, hc⟩ := hcell i _ (getD_of_lt p i Fn.zero hi)
    obtain ⟨oc, cc, rfl, _, _⟩ := id hc
    exact heights_try p _ i b o cap oc _ cc w hk hp hi rfl c2 hc rfl hm hz hops
  · exact heights_bad p v f w hp hk hz
end Go.Proofs.YtkepbeeioalmbabDoor
