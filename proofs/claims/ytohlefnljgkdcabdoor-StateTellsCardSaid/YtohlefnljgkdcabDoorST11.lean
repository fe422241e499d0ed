/- FlowF, FlowG, StateT, StateA, StateB, OpAr, Fib -/
import Derived.Test.YtohlefnljgkdcabDoorST10
import Derived.Test.YtohlefnljgkdcabDoorST08
import Derived.Deep.DeepCutAuto
import Derived.Deep.RegionWith
import Derived.JoinedCond
import Derived.Test.YtohlefnljgkdcabDoorST01
import Derived.Lib.SmallJoins
namespace Go.Proofs.YtohlefnljgkdcabDoor
open Go.RowKit Go.Shelf
theorem come_any (p : List Fn) (g : Fn) (oa : Option Addr) (lp cp : Nat) (oc : Option Addr) (lc cc B : Nat) (w0 : World) (hlc : lc = g.code.length) : ∀ (n : Nat) (H : List Int) (at_ : Nat) (h : Int) (w : World),
    ComeAt w0 w p g (.slice oa lp cp) (.slice oc lc cc) B H → 0 ≤ h → h ≤ 8 → unv H < n →
    Calls Tryd.prog 43 #[.agg #[.slice oa lp cp, .slice oc lc cc, .slice (some ⟨B, 0, none⟩) lc lc], .int .i64 at_, .int .i64 h] w fun e w' => ComePost p g n H at_ h B w e w'
  | 0, H, at_, h, w, _, _, _, hu => by omega
  | n + 1, H, at_, h, w, hw, h0, h8, hu => by
    by_cases h1 : lc ≤ at_
    · exact come_beyond n p g oa oc lp cp lc cc B H at_ h w hw.hs hlc (by omega)
    · by_cases h2 : H.getD at_ 0 = -1
      · obtain ⟨x, hx⟩ : ∃ x, g.code[at_]? = some x := ⟨_, List.getElem?_eq_getElem (by omega)⟩
        obtain ⟨oa', cap', he, _, hcell⟩ := id hw.code
        obtain ⟨b', o', rfl, x0, x1⟩ := hcell at_ x hx
        obtain ⟨rfl, -, -⟩ := (by simpa using he : oc = some ⟨b', o', none⟩ ∧ lc = g.code.length ∧ cc = cap')
        exact come_new n p g oa b' o' lp cp lc cc B H at_ h x w0 w hw hlc (by omega) hx x0 x1 h2 h0 h8 hu (fun H' at' h' w' a b c d => come_any p g oa lp cp _ lc cc B w0 hlc n H' at' h' w' a b c d)
      · exact come_seen n p g oa oc lp cp lc cc B H at_ h w hw.hs hlc hw.len (by omega) h2
end Go.Proofs.YtohlefnljgkdcabDoor
namespace Go.Proofs.YtohlefnljgkdcabDoor
open Go.RowKit Go.Shelf
def IntsAt (w : World) (v : Value) (l : List Int) : Prop :=
  ∃ oa cap, v = .slice oa l.length cap ∧ l.length ≤ 8796093022208 ∧ ∀ i z, l[i]? = some z → ∃ b o, oa = some ⟨b, o, none⟩ ∧ w.cell? ⟨b, o + i, none⟩ = some (.int .i64 z)
theorem IntsAt.kept {w w' : World} (h : Kept w w') {v : Value} {l : List Int} (hl : IntsAt w v l) : IntsAt w' v l := by
  obtain ⟨oa, cap, e, hn, hi⟩ := hl
  refine ⟨oa, cap, e, hn, fun i z hz => ?_⟩
  obtain ⟨b, o, e1, h1⟩ := hi i z hz
  exact ⟨b, o, e1, h.cell h1⟩
theorem IntsAt.nil (w : World) : IntsAt w (.slice none 0 0) [] := ⟨none, 0, rfl, by simp, fun i z h => by simp at h⟩
def hgtS (p : List Fn) (f : Int) : List Int × Int :=
  if chkS p f = 0 then
    match heightsS p (p.getD f.toNat Fn.zero).code with
    | some H => (H, 0)
    | none => ([], 1)
  else ([], chkS p f)
def HgtPost (p : List Fn) (f : Int) (w : World) (e : Ending) (w' : World) : Prop :=
  ∃ v, e = .returned (.tuple #[v, .int .i64 (hgtS p f).2]) ∧ IntsAt w' v (hgtS p f).1 ∧ Kept w w'
set_option maxHeartbeats 1000000 in
theorem heights_bad (p : List Fn) (v : Value) (f : Int) (w : World) (hp : ProgAt w v p) (hk : KindsAt w) (hz : chkS p f ≠ 0) :
    Calls Tryd.prog 24 #[v, .int .i64 f] w fun e w' => HgtPost p f w e w' := by
  obtain ⟨oa, cap, rfl, _, _⟩ := id hp
  have hz' : (chkS p f != 0) = true := by rw [bne_iff_ne]; exact hz
  have hr : hgtS p f = ([], chkS p f) := by unfold hgtS; rw [if_neg hz]
  have HR := hide hr
  have HP := hide hp
  have HK := hide hk
  clear hp hk hz hr
  go_enter Tryd.func24, Tryd.ntmps24
  go_wp2_with fail
  refine (check_any p _ f _ (unhide HP) (unhide HK)).mono ?_
  rintro e w1 ⟨rfl, hk1⟩
  have H1 := hide hk1
  clear hk1
  generalize hc : chkS p f = r at *
  have HC := hide hc
  clear hc
  go_wp2
  go_ret2
  exact ⟨.slice none 0 0, by rw [unhide HR]; rfl, by rw [unhide HR]; exact IntsAt.nil _, unhide H1⟩
theorem infoInt : (Tryd.prog.info? 3).map (fun i => (i.zero, i.size, i.bytes)) = some (some (.int .i64 0), 1, 8) := by kernel_rfl
theorem made_ints (m : Nat) : madeCells #[.int .i64 0] m = ((List.replicate m (0 : Int)).map (fun z => Value.int .i64 z)).toArray := by
  apply Array.ext
  · simp [madeCells]
  · intro i h1 h2
    simp [madeCells, Nat.mod_one]
theorem make_ints (m : Nat) (hm : m ≤ 1000000) (u : World) : (Instr.makeSlice 46 (.int .i64 m) (.int .i64 m)).run Tryd.prog u =
    .ok (.slice (some ⟨u.heap.size, 0, none⟩) m m) (u.alloc (.cells ((List.replicate m (0 : Int)).map (fun z => Value.int .i64 z)).toArray 3)) := by
  obtain ⟨i0, hi, hz0, hz1, hz2⟩ := info_parts infoInt
  have h := run_make (P := Tryd.prog) u 46 3 i0 (.int .i64 0) Tryd.underlying46 hi hz0 .i64 .i64 (m : Int) (m : Int) (by omega) (Int.le_refl _) (by rw [hz2]; omega) (by omega)
  rw [Int.toNat_natCast] at h
  rw [← made_ints]
  simpa [hz1, Value.cells] using h
theorem fill_step {k m : Nat} (h : k < m) : (List.replicate k (-1 : Int) ++ List.replicate (m - k) 0).set k (-1) = List.replicate (k + 1) (-1) ++ List.replicate (m - (k + 1)) 0 := by
  obtain ⟨d, rfl⟩ : ∃ d, m = k + 1 + d := ⟨m - (k + 1), by omega⟩
  rw [List.set_append_right _ _ (by simp)]
  have e1 : k + 1 + d - k = d + 1 := by omega
  have e2 : k + 1 + d - (k + 1) = d := by omega
  rw [e1, e2, List.replicate_succ]
  simp [List.replicate_succ', List.append_assoc]
theorem heights_zero {w : World} {B m : Nat} (h : w.heap[B]? = some (.cells (Array.replicate m (.int .i64 0)) 3)) : HeightsAt w B (List.replicate m 0) := by
  unfold HeightsAt
  rw [h]
  simp
set_option maxHeartbeats 4000000 in
set_option maxRecDepth 100000 in
theorem heights_try (p : List Fn) (g : Fn) (i b o cap : Nat) (oc : Option Addr) (m cc : Nat) (w : World) (hk : KindsAt w) (hp : ProgAt w (.slice (some ⟨b, o, none⟩) p.length cap) p) (hi : i < p.length) (hg : p.getD i Fn.zero = g)
    (c2 : w.cell? ⟨b, o + i * 3 + 2, none⟩ = some (.slice oc m cc)) (hc : CodeAt w (.slice oc m cc) g.code) (hml : m = g.code.length) (hm : m ≤ 24) (hz : chkS p i = 0) (hops : opsS p g g.code = 0) :
    Calls Tryd.prog 24 #[.slice (some ⟨b, o, none⟩) p.length cap, .int .i64 i] w fun e w' => HgtPost p i w e w' := by
  have HK := hide hk
  have HP := hide hp
  have HG := hide hg
  have HC := hide hc
  have HL := hide hml
  have HZ := hide hz
  have HO := hide hops
  have C2 := hide c2
  clear hk hp hg hc hml hz hops c2
  go_enter Tryd.func24, Tryd.ntmps24
  go_wp2_with fail
  refine (check_is p _ i 0 _ (unhide HP) (unhide HK) (unhide HZ)).mono ?_
  rintro e w1 ⟨rfl, hk1⟩
  have d2 := hk1.cell (unhide C2)
  have H1 := hide hk1
  clear hk1
  have d2' : ∀ o1, (w1.alloc o1).cell? ⟨b, o + i * 3 + 2, none⟩ = some (.slice oc m cc) := fun o1 => ((Kept.refl w1).alloc o1).cell d2
  have d2'' : ∀ o1 o2, ((w1.alloc o1).alloc o2).cell? ⟨b, o + i * 3 + 2, none⟩ = some (.slice oc m cc) := fun o1 o2 => (((Kept.refl w1).alloc o1).alloc o2).cell d2
  have hmk := make_ints m (by omega)
  go_wp2_with fail
  go_cut [7] (fun s7 wx => ∃ B Bw, s7 = .pointer (some ⟨Bw, 0, none⟩) ∧ Hid (wx.heap[Bw]? = some (.cells #[.slice (some ⟨b, o, none⟩) p.length cap, .slice oc m cc, .slice (some ⟨B, 0, none⟩) m m] 70)) ∧ Hid (HeightsAt wx B (List.replicate m 0)) ∧ w1.heap.size ≤ B ∧ w1.heap.size ≤ Bw ∧ B ≠ Bw ∧ Hid (Kept w1 wx))
  case first =>
    go_region
    all_goals go_wp2_with fail
    all_goals go_meet
    · exact ⟨w1.heap.size, w1.heap.size + 1, rfl, hide (lays_drew (lays_new (by simp))), hide (heights_zero (lays_drew (lays_alloc (lays_new rfl) _))), Nat.le_refl _, Nat.le_succ _, by omega, hide ((((Kept.refl _).alloc _).alloc _).drew)⟩
    · exact ⟨w1.heap.size + 1, w1.heap.size, rfl, hide (lays_drew (lays_alloc (lays_new rfl) _)), hide (heights_zero (lays_drew (lays_new (by simp)))), Nat.le_succ _, Nat.le_refl _, by omega, hide ((((Kept.refl _).alloc _).alloc _).drew)⟩
  case rest =>
    obtain ⟨B, Bw, rfl, L0, HH0, hB, hBw, hne, HK1⟩ := hcut
    have e2 := cell_lays (unhide L0) 2
    simp only [List.getElem?_toArray, List.getElem?_cons_zero, List.getElem?_cons_succ] at e2
    clear d2 d2' d2'' hmk
    go_wp2
    go_loopw [32] (fun s32 wr => ∃ k : Nat, k ≤ m ∧ s32 = .int .i64 k ∧ Hid (wr.heap[Bw]? = some (.cells #[.slice (some ⟨b, o, none⟩) p.length cap, .slice oc m cc, .slice (some ⟨B, 0, none⟩) m m] 70)) ∧ Hid (HeightsAt wr B (List.replicate k (-1) ++ List.replicate (m - k) 0)) ∧ Hid (Kept w1 wr)) (fun s32 _ => m - (intOf s32).toNat)
    case atStart => exact ⟨0, Nat.zero_le _, rfl, L0, by simpa using HH0, HK1⟩
    case round =>
      obtain ⟨k, hkm, rfl, L0r, HHr, HKr⟩ := hrel
      have f0 := cell_lays (unhide L0r) 0
      have f1 := cell_lays (unhide L0r) 1
      have f2 := cell_lays (unhide L0r) 2
      simp only [List.getElem?_toArray, List.getElem?_cons_zero, List.getElem?_cons_succ] at f0 f1 f2
      by_cases hlt : k < m
      · have q := (unhide HHr).cell (k := k) (by simp; omega)
        have q' := (unhide HHr).frozen k
        have hset := (unhide HHr).set k (-1)
        rw [fill_step hlt] at hset
        have HSET := hide hset
        generalize (List.replicate k (-1 : Int) ++ List.replicate (m - k) 0).getD k 0 = z at q
        clear hset
        go_wp2
        go_roundw
        case rel => exact ⟨k + 1, by omega, by go_num, lays_other (unhide L0r) (fun e => hne e.symm) _, unhide HSET, (unhide HKr).setCell (p := ⟨B, k, none⟩) hB _⟩
        case measure => simp [intOf]; omega
      · have hke : k = m := by omega
        have hst : List.replicate k (-1 : Int) ++ List.replicate (m - k) 0 = start g.code := by
          have := unhide HL
          rw [hke, Nat.sub_self]
          simp [start, this]
        have hHs := unhide HHr
        rw [hst] at hHs
        have hu := unv_le (start g.code)
        rw [show (start g.code).length = g.code.length by simp [start]] at hu
        have hright : ∀ x, x ∈ g.code → opS p g x = 0 := fun x hx => opsS_all (unhide HO) x hx
        have hcm := come_any p g (some ⟨b, o, none⟩) p.length cap oc m cc B w1 (unhide HL) (g.code.length + 1) (start g.code) 0 0 wr ⟨(unhide HP).kept (unhide H1), (unhide HC).kept (unhide H1), (unhide HK).kept (unhide H1), hright, by have := unhide HL; omega, unhide HKr, hB, hHs, by simp [start]⟩ (by omega) (by omega) (by omega)
        have HCM := hide hcm
        have HRT := hide hright
        clear hcm hright hu hHs hst hke
        go_wp2_with fail
        refine (unhide HCM).mono ?_
        clear HCM
        rintro e w2 ⟨bb, H2, hc2, rfl, hH2, hk2⟩
        have hgt : hgtS p i = match heightsS p g.code with | some H => (H, 0) | none => ([], 1) := by
          unfold hgtS
          rw [if_pos (unhide HZ), Int.toNat_natCast, unhide HG]
        have hkw : Kept w w2 := (unhide H1).trans (KeptX.kept (unhide HKr) hB hk2)
        have g2 := cell_lays (hk2.lays (fun e => hne e.symm) (unhide L0r)) 2
        simp only [List.getElem?_toArray, List.getElem?_cons_zero, List.getElem?_cons_succ] at g2
        have HGT := hide hgt
        have HKW := hide hkw
        have HC2 := hide hc2
        have HH2 := hide hH2
        clear hgt hkw hc2 hH2 hk2 f0 f1 f2
        have hR : Right p g.code := ⟨g, rfl, unhide HRT⟩
        cases bb with
        | false =>
          have hn : heightsS p g.code = none := by
            cases hh : heightsS p g.code with
            | none => rfl
            | some H =>
              have := (way_heights hR).2 H hh
              unfold wayS at this
              rw [unhide HC2] at this
              cases this
          have HN := hide hn
          clear hn hR
          go_wp2
          go_ret2
          have hgt := unhide HGT
          rw [unhide HN] at hgt
          exact ⟨.slice none 0 0, by rw [hgt]; rfl, by rw [hgt]; exact IntsAt.nil _, unhide HKW⟩
        | true =>
          have hs : heightsS p g.code = some H2 := (way_heights hR).1 H2 (unhide HC2)
          have hlen : H2.length = m := by rw [(heightsS_ok hR hs).1.len]; exact (unhide HL).symm
          have HS := hide hs
          have HLN := hide hlen
          clear hs hlen hR
          go_wp2
          go_ret2
          have hgt := unhide HGT
          rw [unhide HS] at hgt
          refine ⟨.slice (some ⟨B, 0, none⟩) m m, by rw [hgt]; rfl, ?_, unhide HKW⟩
          rw [hgt]
          have hlen := unhide HLN
          refine ⟨_, m, by rw [hlen], by simp only; omega, fun k z hz => ⟨B, 0, rfl, ?_⟩⟩
          have hk := (List.getElem?_eq_some_iff.1 hz).1
          have := (unhide HH2).cell (k := k) hk
          rw [Nat.zero_add, this]
          simp [List.getD, hz]
theorem heights_any (p : List Fn) (v : Value) (f : Int) (w : World) (hp : ProgAt w v p) (hk : KindsAt w) :
    Calls Tryd.prog 24 #[v, .int .i64 f] w fun e w' => HgtPost p f w e w' := by
  by_cases hz : chkS p f = 0
  · obtain ⟨i, rfl, hi, hm, hr, hops⟩ := chkS_zero hz
    obtain ⟨oa, cap, rfl, hl, hcell⟩ := id hp
    obtain ⟨b, o, cv, rfl, c0, c1, c2, hc⟩ := hcell i _ (getD_of_lt p i Fn.zero hi)
    obtain ⟨oc, cc, rfl, _, _⟩ := id hc
    exact heights_try p _ i b o cap oc _ cc w hk hp hi rfl c2 hc rfl hm hz hops
  · exact heights_bad p v f w hp hk hz
end Go.Proofs.YtohlefnljgkdcabDoor
namespace Go.Proofs.YtohlefnljgkdcabDoor
structure Fr where
  fn : Int
  at_ : Int
  locals : List Int
  stack : List Int
structure Fb where
  frames : List Fr
  caller : Int
structure St where
  fibers : List Fb
  now : Int
  out : List Int
def Fr.zero : Fr := ⟨0, 0, [], []⟩
def Fb.zero : Fb := ⟨[], 0⟩
def St.zero : St := ⟨[], 0, []⟩
end Go.Proofs.YtohlefnljgkdcabDoor
namespace Go.Proofs.YtohlefnljgkdcabDoor
open Go.RowKit
theorem IntsAt.wide {w : World} {v : Value} {l : List Int} (h : IntsAt w v l) : IntsW w v l := by
  obtain ⟨oa, cap, e, hn, hi⟩ := h
  exact ⟨oa, cap, e, by omega, hi⟩
theorem IntsW.small {w : World} {v : Value} {l : List Int} (h : IntsW w v l) (hl : l.length ≤ 8796093022208) : IntsAt w v l := by
  obtain ⟨oa, cap, e, hn, hi⟩ := h
  exact ⟨oa, cap, e, hl, hi⟩
def FramesAt (w : World) (v : Value) (l : List Fr) : Prop :=
  ∃ oa cap, v = .slice oa l.length cap ∧ (l.length ≤ 8796093022208 ∧ l.length ≤ cap) ∧ ∀ i f, l[i]? = some f → ∃ b o vl vs, oa = some ⟨b, o, none⟩ ∧
    w.cell? ⟨b, o + i * 4, none⟩ = some (.int .i64 f.fn) ∧ w.cell? ⟨b, o + i * 4 + 1, none⟩ = some (.int .i64 f.at_) ∧
    w.cell? ⟨b, o + i * 4 + 2, none⟩ = some vl ∧ w.cell? ⟨b, o + i * 4 + 3, none⟩ = some vs ∧ IntsW w vl f.locals ∧ IntsW w vs f.stack
def FibersAt (w : World) (v : Value) (l : List Fb) : Prop :=
  ∃ oa cap, v = .slice oa l.length cap ∧ l.length ≤ 8796093022208 ∧ ∀ i f, l[i]? = some f → ∃ b o vf, oa = some ⟨b, o, none⟩ ∧
    w.cell? ⟨b, o + i * 2, none⟩ = some vf ∧ w.cell? ⟨b, o + i * 2 + 1, none⟩ = some (.int .i64 f.caller) ∧ FramesAt w vf f.frames
def StAt (w : World) (v : Value) (s : St) : Prop :=
  ∃ vf vo, v = .agg #[vf, .int .i64 s.now, vo] ∧ FibersAt w vf s.fibers ∧ IntsW w vo s.out
theorem FramesAt.kept {w w' : World} (h : Kept w w') {v : Value} {l : List Fr} (hl : FramesAt w v l) : FramesAt w' v l := by
  obtain ⟨oa, cap, e, hn, hi⟩ := hl
  refine ⟨oa, cap, e, hn, fun i f hf => ?_⟩
  obtain ⟨b, o, vl, vs, e1, h1, h2, h3, h4, h5, h6⟩ := hi i f hf
  exact ⟨b, o, vl, vs, e1, h.cell h1, h.cell h2, h.cell h3, h.cell h4, h5.kept h, h6.kept h⟩
theorem FibersAt.kept {w w' : World} (h : Kept w w') {v : Value} {l : List Fb} (hl : FibersAt w v l) : FibersAt w' v l := by
  obtain ⟨oa, cap, e, hn, hi⟩ := hl
  refine ⟨oa, cap, e, hn, fun i f hf => ?_⟩
  obtain ⟨b, o, vf, e1, h1, h2, h3⟩ := hi i f hf
  exact ⟨b, o, vf, e1, h.cell h1, h.cell h2, h3.kept h⟩
theorem StAt.kept {w w' : World} (h : Kept w w') {v : Value} {s : St} (hs : StAt w v s) : StAt w' v s := by
  obtain ⟨vf, vo, e, h1, h2⟩ := hs
  exact ⟨vf, vo, e, h1.kept h, h2.kept h⟩
theorem FramesAt.nil (w : World) : FramesAt w (.slice none 0 0) [] := ⟨none, 0, rfl, by simp, fun i z h => by simp at h⟩
theorem FibersAt.nil (w : World) : FibersAt w (.slice none 0 0) [] := ⟨none, 0, rfl, by simp, fun i z h => by simp at h⟩
end Go.Proofs.YtohlefnljgkdcabDoor
namespace Go.Proofs.YtohlefnljgkdcabDoor
open Go.RowKit Go.ChangeShapes Go.WideShapes Go.ChangeAt
theorem cellsInts : Tryd.prog.cellsOf 46 = 1 := by kernel_rfl
theorem cellsFrame : Tryd.prog.cellsOf 76 = 4 := by kernel_rfl
theorem cellsFrames : Tryd.prog.cellsOf 77 = 1 := by kernel_rfl
theorem cellsFiber : Tryd.prog.cellsOf 79 = 2 := by kernel_rfl
theorem cellsFibers : Tryd.prog.cellsOf 52 = 1 := by kernel_rfl
theorem cellsState : Tryd.prog.cellsOf 54 = 3 := by kernel_rfl
theorem bytesIntT : Tryd.prog.bytesOf 3 = 8 := by kernel_rfl
theorem bytesFrame : Tryd.prog.bytesOf 76 = 64 := by kernel_rfl
theorem bytesFiber : Tryd.prog.bytesOf 79 = 32 := by kernel_rfl
theorem typeFrame : ∃ f0 f1 f2 f3 : Field, Tryd.prog.underlying 76 = some (.struct #[f0, f1, f2, f3]) ∧ f0.type = 3 ∧ f0.offset = 0 ∧ f1.type = 3 ∧ f1.offset = 1 ∧ f2.type = 46 ∧ f2.offset = 2 ∧ f3.type = 46 ∧ f3.offset = 3 := ⟨_, _, _, _, Tryd.underlying76, rfl, rfl, rfl, rfl, rfl, rfl, rfl, rfl⟩
theorem typeFiber : ∃ f0 f1 : Field, Tryd.prog.underlying 79 = some (.struct #[f0, f1]) ∧ f0.type = 77 ∧ f0.offset = 0 ∧ f1.type = 3 ∧ f1.offset = 1 := ⟨_, _, Tryd.underlying79, rfl, rfl, rfl, rfl⟩
theorem typeState : ∃ f0 f1 f2 : Field, Tryd.prog.underlying 54 = some (.struct #[f0, f1, f2]) ∧ f0.type = 52 ∧ f0.offset = 0 ∧ f1.type = 3 ∧ f1.offset = 1 ∧ f2.type = 46 ∧ f2.offset = 2 := ⟨_, _, _, Tryd.underlying54, rfl, rfl, rfl, rfl, rfl, rfl⟩
section
variable {H : Type} {enc : TypeId × Value → H} {w : World} {base : Nat} {spare : Nat → Bool} {held : Bool}
theorem open_ints {fuel : Nat} {v : Value} {x : DataW H × List MemPlace} (h : DataW.trod enc Tryd.prog w base spare held fuel 46 [v] = some x) (hw : ∀ n, n ∈ x.1.weights Tryd.prog 46 → n ≤ reachBytes) : ∃ l, IntsW w v l := by
  rcases Deep.open_slice Tryd.underlying46 h with ⟨e, _⟩ | ⟨a, len, cap, m, n, D, Pl, e, _, hlc, _, hm, hx, hi⟩
  · simp at e
    subst e
    exact ⟨[], IntsW.nil _⟩
  · simp at e
    subst e
    have hlm : len ≤ m := by rw [hm]; split <;> omega
    have hlen : len * 8 ≤ 140737488351232 := by
      have := hw ((((List.range len).map D).length + ((List.range (m - len)).map fun j => D (len + j)).length) * Tryd.prog.bytesOf 3) (by rw [hx]; simp [DataW.weights, Tryd.underlying46])
      rw [bytesIntT, reach_eq] at this
      simp at this
      omega
    have hall : ∀ i, i < len → ∃ y : Int, w.cell? (a.add (i * 1)) = some (.int .i64 y) := by
      intro i hil
      obtain ⟨cs', hc, ht⟩ := hi i (by omega)
      rw [cellsInt] at hc
      obtain ⟨_, hcl, hcell⟩ := World.cells?_some hc
      obtain ⟨k, e0, _, _⟩ := DataW.trod_int Tryd.underlying3 ht
      subst e0
      refine ⟨k, ?_⟩
      have := hcell 0 (by omega); rw [Deep.add_add] at this; simpa using this
    obtain ⟨g, hg⟩ := Deep.choose_lt hall
    refine ⟨(List.range len).map g, some a, cap, by simp, by simp; omega, fun i y hy => ?_⟩
    rw [List.getElem?_map, Option.map_eq_some_iff] at hy
    obtain ⟨j, hj, rfl⟩ := hy
    have hjl : i < len := by simpa using (List.getElem?_eq_some_iff.1 hj).1
    obtain rfl : i = j := by simpa [hjl] using hj
    have hs : a.spot = none := by
      have := hg 0 (by omega)
      exact spot_none (by simpa [Addr.add] using this)
    refine ⟨a.block, a.off, by cases a; simp_all, ?_⟩
    have := hg i hjl; rwa [add_of_spot hs, Nat.mul_one] at this
theorem open_frames {fuel : Nat} {v : Value} {x : DataW H × List MemPlace} (h : DataW.trod enc Tryd.prog w base spare held fuel 77 [v] = some x) (hw : ∀ n, n ∈ x.1.weights Tryd.prog 77 → n ≤ reachBytes) : ∃ l, FramesAt w v l := by
  rcases Deep.open_slice Tryd.underlying77 h with ⟨e, _⟩ | ⟨a, len, cap, m, n, D, Pl, e, _, hlc, _, hm, hx, hi⟩
  · simp at e
    subst e
    exact ⟨[], FramesAt.nil _⟩
  · simp at e
    subst e
    have hlm : len ≤ m := by rw [hm]; split <;> omega
    have hlen : len * 64 ≤ 140737488351232 := by
      have := hw ((((List.range len).map D).length + ((List.range (m - len)).map fun j => D (len + j)).length) * Tryd.prog.bytesOf 76) (by rw [hx]; simp [DataW.weights, Tryd.underlying77])
      rw [bytesFrame, reach_eq] at this
      simp at this
      omega
    have hall : ∀ i, i < len → ∃ y : Fr × Value × Value, w.cell? (a.add (i * 4)) = some (.int .i64 y.1.fn) ∧ w.cell? (a.add (i * 4 + 1)) = some (.int .i64 y.1.at_) ∧ w.cell? (a.add (i * 4 + 2)) = some y.2.1 ∧ w.cell? (a.add (i * 4 + 3)) = some y.2.2 ∧ IntsW w y.2.1 y.1.locals ∧ IntsW w y.2.2 y.1.stack := by
      intro i hil
      obtain ⟨cs', hc, ht⟩ := hi i (by omega)
      rw [cellsFrame] at hc
      obtain ⟨_, hcl, hcell⟩ := World.cells?_some hc
      obtain ⟨f0, f1, f2, f3, hu, t0, o0, t1, o1, t2, o2, t3, o3⟩ := typeFrame
      obtain ⟨y0, y1, y2, y3, n', hy, _, g0, g1, g2, g3⟩ := Joins.trod_struct4 hu ht
      rw [t0, o0, cellsInt] at g0
      rw [t1, o1, cellsInt] at g1
      rw [t2, o2, cellsInts] at g2
      rw [t3, o3, cellsInts] at g3
      obtain ⟨fn, e0, r0, _⟩ := DataW.trod_int Tryd.underlying3 g0
      obtain ⟨at_, e1, r1, _⟩ := DataW.trod_int Tryd.underlying3 g1
      match cs', hcl with
      | [c0, c1, c2, c3], _ =>
        simp at e0 e1
        subst e0 e1
        simp only [List.drop, List.take] at g2 g3
        have hD : D i = .agg [y0.1, y1.1, y2.1, y3.1] := congrArg Prod.fst hy
        have hmem : ∀ q, (q ∈ y2.1.weights Tryd.prog 46 ∨ q ∈ y3.1.weights Tryd.prog 46) → q ≤ reachBytes := fun q hq => hw q (by
          rw [hx]
          simp only [DataW.weights, Tryd.underlying77, List.mem_cons, List.mem_append]
          refine Or.inr (Or.inl (weightsAll_mem (d := D i) (List.mem_map.2 ⟨i, by simpa using hil, rfl⟩) q ?_))
          rw [hD]
          simp only [DataW.weights, hu, DataW.weightsEach, List.map_cons, List.map_nil, t0, t1, t2, t3, List.mem_append]
          rcases hq with hq | hq
          · exact Or.inr (Or.inr (Or.inl hq))
          · exact Or.inr (Or.inr (Or.inr (Or.inl hq))))
        obtain ⟨l2, h2⟩ := open_ints g2 (fun q hq => hmem q (.inl hq))
        obtain ⟨l3, h3⟩ := open_ints g3 (fun q hq => hmem q (.inr hq))
        refine ⟨(⟨fn, at_, l2, l3⟩, c2, c3), ?_, ?_, ?_, ?_, h2, h3⟩
        · have := hcell 0 (by omega); rw [Deep.add_add] at this; simpa using this
        · have := hcell 1 (by omega); rw [Deep.add_add] at this; simpa using this
        · have := hcell 2 (by omega); rw [Deep.add_add] at this; simpa using this
        · have := hcell 3 (by omega); rw [Deep.add_add] at this; simpa using this
    have : Inhabited (Fr × Value × Value) := ⟨(Fr.zero, .nilIface, .nilIface)⟩
    obtain ⟨g, hg⟩ := Deep.choose_lt hall
    refine ⟨(List.range len).map fun i => (g i).1, some a, cap, by simp, ⟨by simp; omega, by simpa using hlc⟩, fun i y hy => ?_⟩
    rw [List.getElem?_map, Option.map_eq_some_iff] at hy
    obtain ⟨j, hj, rfl⟩ := hy
    have hjl : i < len := by simpa using (List.getElem?_eq_some_iff.1 hj).1
    obtain rfl : i = j := by simpa [hjl] using hj
    have hs : a.spot = none := by
      have := (hg 0 (by omega)).1
      simp only [Nat.zero_mul] at this
      exact spot_none (by simpa [Addr.add] using this)
    obtain ⟨k0, k1, k2, k3, k4, k5⟩ := hg i hjl
    refine ⟨a.block, a.off, (g i).2.1, (g i).2.2, by cases a; simp_all, ?_, ?_, ?_, ?_, k4, k5⟩
    · rwa [add_of_spot hs] at k0
    · rwa [add_of_spot hs, ← Nat.add_assoc] at k1
    · rwa [add_of_spot hs, ← Nat.add_assoc] at k2
    · rwa [add_of_spot hs, ← Nat.add_assoc] at k3
theorem open_fibers {fuel : Nat} {v : Value} {x : DataW H × List MemPlace} (h : DataW.trod enc Tryd.prog w base spare held fuel 52 [v] = some x) (hw : ∀ n, n ∈ x.1.weights Tryd.prog 52 → n ≤ reachBytes) : ∃ l, FibersAt w v l := by
  rcases Deep.open_slice Tryd.underlying52 h with ⟨e, _⟩ | ⟨a, len, cap, m, n, D, Pl, e, _, hlc, _, hm, hx, hi⟩
  · simp at e
    subst e
    exact ⟨[], FibersAt.nil _⟩
  · simp at e
    subst e
    have hlm : len ≤ m := by rw [hm]; split <;> omega
    have hlen : len * 32 ≤ 140737488351232 := by
      have := hw ((((List.range len).map D).length + ((List.range (m - len)).map fun j => D (len + j)).length) * Tryd.prog.bytesOf 79) (by rw [hx]; simp [DataW.weights, Tryd.underlying52])
      rw [bytesFiber, reach_eq] at this
      simp at this
      omega
    have hall : ∀ i, i < len → ∃ y : Fb × Value, w.cell? (a.add (i * 2)) = some y.2 ∧ w.cell? (a.add (i * 2 + 1)) = some (.int .i64 y.1.caller) ∧ FramesAt w y.2 y.1.frames := by
      intro i hil
      obtain ⟨cs', hc, ht⟩ := hi i (by omega)
      rw [cellsFiber] at hc
      obtain ⟨_, hcl, hcell⟩ := World.cells?_some hc
      obtain ⟨f0, f1, hu, t0, o0, t1, o1⟩ := typeFiber
      obtain ⟨y0, y1, n', hy, _, g0, g1⟩ := trod_struct2 hu ht
      rw [t0, o0, cellsFrames] at g0
      rw [t1, o1, cellsInt] at g1
      obtain ⟨ca, e1, r1, _⟩ := DataW.trod_int Tryd.underlying3 g1
      match cs', hcl with
      | [c0, c1], _ =>
        simp at e1
        subst e1
        simp only [List.drop, List.take] at g0
        have hD : D i = .agg [y0.1, y1.1] := congrArg Prod.fst hy
        obtain ⟨l0, h0⟩ := open_frames g0 (fun q hq => hw q (by
          rw [hx]
          simp only [DataW.weights, Tryd.underlying52, List.mem_cons, List.mem_append]
          refine Or.inr (Or.inl (weightsAll_mem (d := D i) (List.mem_map.2 ⟨i, by simpa using hil, rfl⟩) q ?_))
          rw [hD]
          simp only [DataW.weights, hu, DataW.weightsEach, List.map_cons, List.map_nil, t0, t1, List.mem_append]
          exact Or.inl hq))
        refine ⟨(⟨l0, ca⟩, c0), ?_, ?_, h0⟩
        · have := hcell 0 (by omega); rw [Deep.add_add] at this; simpa using this
        · have := hcell 1 (by omega); rw [Deep.add_add] at this; simpa using this
    have : Inhabited (Fb × Value) := ⟨(Fb.zero, .nilIface)⟩
    obtain ⟨g, hg⟩ := Deep.choose_lt hall
    refine ⟨(List.range len).map fun i => (g i).1, some a, cap, by simp, by simp; omega, fun i y hy => ?_⟩
    rw [List.getElem?_map, Option.map_eq_some_iff] at hy
    obtain ⟨j, hj, rfl⟩ := hy
    have hjl : i < len := by simpa using (List.getElem?_eq_some_iff.1 hj).1
    obtain rfl : i = j := by simpa [hjl] using hj
    have hs : a.spot = none := by
      have := (hg 0 (by omega)).1
      simp only [Nat.zero_mul] at this
      exact spot_none (by simpa [Addr.add] using this)
    obtain ⟨k0, k1, k2⟩ := hg i hjl
    refine ⟨a.block, a.off, (g i).2, by cases a; simp_all, ?_, ?_, k2⟩
    · rwa [add_of_spot hs] at k0
    · rwa [add_of_spot hs, ← Nat.add_assoc] at k1
theorem open_state {fuel : Nat} {cs : List Value} {x : DataW H × List MemPlace} (h : DataW.trod enc Tryd.prog w base spare held fuel 54 cs = some x) (hw : ∀ n, n ∈ x.1.weights Tryd.prog 54 → n ≤ reachBytes) : ∃ s, StAt w (.agg cs.toArray) s := by
  obtain ⟨f0, f1, f2, hu, t0, o0, t1, o1, t2, o2⟩ := typeState
  obtain ⟨y0, y1, y2, n', hy, hl, g0, g1, g2⟩ := Deep.trod_struct3 hu h
  rw [t0, o0, cellsFibers] at g0
  rw [t1, o1, cellsInt] at g1
  rw [t2, o2, cellsInts] at g2
  obtain ⟨nw, e1, r1, _⟩ := DataW.trod_int Tryd.underlying3 g1
  rw [cellsState] at hl
  match cs, hl with
  | [c0, c1, c2], _ =>
    simp at e1
    subst e1
    simp only [List.drop, List.take] at g0 g2
    have hD : x.1 = .agg [y0.1, y1.1, y2.1] := congrArg Prod.fst hy
    have hmem : ∀ q, (q ∈ y0.1.weights Tryd.prog 52 ∨ q ∈ y2.1.weights Tryd.prog 46) → q ≤ reachBytes := fun q hq => hw q (by
      rw [hD]
      simp only [DataW.weights, hu, DataW.weightsEach, List.map_cons, List.map_nil, t0, t1, t2, List.mem_append]
      rcases hq with hq | hq
      · exact Or.inl hq
      · exact Or.inr (Or.inr (Or.inl hq)))
    obtain ⟨lf, h0⟩ := open_fibers g0 (fun q hq => hmem q (.inl hq))
    obtain ⟨lo, h2⟩ := open_ints g2 (fun q hq => hmem q (.inr hq))
    exact ⟨⟨lf, nw, lo⟩, c0, c2, rfl, h0, h2⟩
end
end Go.Proofs.YtohlefnljgkdcabDoor
namespace Go.Proofs.YtohlefnljgkdcabDoor
open Go.RowKit
set_option maxHeartbeats 400000 in
theorem within_any (i l n : Int) (w : World) :
    Calls Tryd.prog 34 #[.int .i64 i, .int .i64 l, .int .i64 n] w fun e w' => e = .returned (.bool (inB i l n)) ∧ w = w' := by
  by_cases h1 : l ≤ i
  · by_cases h2 : i ≤ n
    · rw [inB_true h1 h2]
      go_enter Tryd.func34, Tryd.ntmps34
      go_wp2
      go_ret
      exact ⟨rfl, rfl⟩
    · rw [inB_false (by omega)]
      go_enter Tryd.func34, Tryd.ntmps34
      go_wp2
      go_ret
      exact ⟨rfl, rfl⟩
  · rw [inB_false (by omega)]
    go_enter Tryd.func34, Tryd.ntmps34
    go_wp2
    go_ret
    exact ⟨rfl, rfl⟩
end Go.Proofs.YtohlefnljgkdcabDoor
namespace Go.Proofs.YtohlefnljgkdcabDoor
def fibAt (s : St) (i : Nat) : Fb := s.fibers.getD i Fb.zero
def frAt (s : St) (i j : Nat) : Fr := (fibAt s i).frames.getD j Fr.zero
theorem getD_set_self {α : Type} (l : List α) (i : Nat) (x d : α) (h : i < l.length) : (l.set i x).getD i d = x := by simp [List.getD, h]
theorem getD_set_ne {α : Type} (l : List α) (i j : Nat) (x d : α) (h : i ≠ j) : (l.set i x).getD j d = l.getD j d := by simp [List.getD, h]
def setFib (s : St) (i : Nat) (b : Fb) : St := { s with fibers := s.fibers.set i b }
theorem fibAt_same {s : St} {i : Nat} (b : Fb) (h : i < s.fibers.length) : fibAt (setFib s i b) i = b := getD_set_self _ _ _ _ h
theorem fibAt_ne {s : St} {i j : Nat} (b : Fb) (h : i ≠ j) : fibAt (setFib s i b) j = fibAt s j := getD_set_ne _ _ _ _ _ h
theorem setFib_len (s : St) (i : Nat) (b : Fb) : (setFib s i b).fibers.length = s.fibers.length := by simp [setFib]
def setFr (s : St) (i j : Nat) (f : Fr) : St := setFib s i { fibAt s i with frames := (fibAt s i).frames.set j f }
theorem frAt_same {s : St} {i j : Nat} (f : Fr) (hi : i < s.fibers.length) (hj : j < (fibAt s i).frames.length) : frAt (setFr s i j f) i j = f := by
  unfold frAt setFr; rw [fibAt_same _ hi]; exact getD_set_self _ _ _ _ hj
theorem frAt_ne {s : St} {i j i' j' : Nat} (f : Fr) (hi : i < s.fibers.length) (h : ¬ (i = i' ∧ j = j')) : frAt (setFr s i j f) i' j' = frAt s i' j' := by
  unfold frAt setFr
  by_cases e : i = i'
  · subst e
    rw [fibAt_same _ hi]
    exact getD_set_ne _ _ _ _ _ (fun e => h ⟨rfl, e⟩)
  · rw [fibAt_ne _ e]
theorem setFr_frames {s : St} {i j : Nat} (f : Fr) (hi : i < s.fibers.length) (t : Nat) : (fibAt (setFr s i j f) t).frames.length = (fibAt s t).frames.length := by
  unfold setFr
  by_cases e : i = t
  · subst e; rw [fibAt_same _ hi]; simp
  · rw [fibAt_ne _ e]
theorem setFr_caller {s : St} {i j : Nat} (f : Fr) (hi : i < s.fibers.length) (t : Nat) : (fibAt (setFr s i j f) t).caller = (fibAt s t).caller := by
  unfold setFr
  by_cases e : i = t
  · subst e; rw [fibAt_same _ hi]
  · rw [fibAt_ne _ e]
def Small (s : St) : Prop := s.fibers.length ≤ 1000 ∧ s.out.length ≤ 1000 ∧ ∀ b, b ∈ s.fibers → b.frames.length ≤ 1000 ∧ ∀ f, f ∈ b.frames → f.locals.length ≤ 1000 ∧ f.stack.length ≤ 1000
end Go.Proofs.YtohlefnljgkdcabDoor
