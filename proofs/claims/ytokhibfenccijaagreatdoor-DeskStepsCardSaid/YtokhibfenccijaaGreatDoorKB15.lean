/- FlowF, FlowG, StateA, StX0, DeskB, DeskC -/
import Derived.Test.YtokhibfenccijaaGreatDoorKB14
import Derived.Test.YtokhibfenccijaaGreatDoorKB13
import Derived.Deep.DeepCutAuto
import Derived.Deep.RegionWith
import Derived.JoinedCond
import Derived.Test.YtokhibfenccijaaGreatDoorKB05
import Derived.Test.YtokhibfenccijaaGreatDoorKB01
import Derived.Test.YtokhibfenccijaaGreatDoorKB06
set_option maxRecDepth 100000
set_option maxHeartbeats 8000000
namespace Go.Proofs.YtokhibfenccijaaGreatDoor
open Go.RowKit Go.Shelf
theorem come_any (p : List Fn) (g : Fn) (oa : Option Addr) (lp cp : Nat) (oc : Option Addr) (lc cc B : Nat) (w0 : World) (hlc : lc = g.code.length) : ∀ (n : Nat) (H : List Int) (at_ : Nat) (h : Int) (w : World),
    ComeAt w0 w p g (.slice oa lp cp) (.slice oc lc cc) B H → 0 ≤ h → h ≤ 8 → unv H < n →
    Calls Tryz.prog 86 #[.agg #[.slice oa lp cp, .slice oc lc cc, .slice (some ⟨B, 0, none⟩) lc lc], .int .i64 at_, .int .i64 h] w fun e w' => ComePost p g n H at_ h B w e w'
  | 0, H, at_, h, w, _, _, _, hu => by omega
  | n + 1, H, at_, h, w, hw, h0, h8, hu => by
    by_cases h1 : lc ≤ at_
    · exact come_beyond n p g oa oc lp cp lc cc B H at_ h w hw.hs hlc (by omega)
    · by_cases h2 : H.getD at_ 0 = -1
      · obtain ⟨x, hx⟩ : ∃ x, g.code[at_]? = some x := ⟨_, List.getElem?_eq_getElem (by omega)⟩
        obtain ⟨oa', cap', he, _, hcell⟩ := id hw.code
        obtain ⟨b', o', rfl, x0, x1⟩ := hcell at_ x hx
        obtain ⟨rfl, -, -⟩ := (by simpa using he : oc = some ⟨b', o', none⟩ ∧ lc = g.code.length ∧ cc = cap')
        exact come_new n p g oa b' o' lp cp lc cc B H at_ h x w0 w hw hlc (by omega) hx x0 x1 h2 h0 h8 hu (fun H' at' h' w' a b c d => come_any p g oa lp cp _ lc cc B w0 hlc n H' at' h' w' a b c d)
      · exact come_seen n p g oa oc lp cp lc cc B H at_ h w hw.hs hlc hw.len (by omega) h2
def IntsAt (w : World) (v : Value) (l : List Int) : Prop :=
  ∃ oa cap, v = .slice oa l.length cap ∧ l.length ≤ 8796093022208 ∧ ∀ i z, l[i]? = some z → ∃ b o, oa = some ⟨b, o, none⟩ ∧ w.cell? ⟨b, o + i, none⟩ = some (.int .i64 z)
theorem IntsAt.kept {w w' : World} (h : Kept w w') {v : Value} {l : List Int} (hl : IntsAt w v l) : IntsAt w' v l := by
  obtain ⟨oa, cap, e, hn, hi⟩ := hl
  refine ⟨oa, cap, e, hn, fun i z hz => ?_⟩
  obtain ⟨b, o, e1, h1⟩ := hi i z hz
  exact ⟨b, o, e1, h.cell h1⟩
theorem IntsAt.nil (w : World) : IntsAt w (.slice none 0 0) [] := ⟨none, 0, rfl, by simp, fun i z h => by simp at h⟩
def hgtS (p : List Fn) (f : Int) : List Int × Int :=
  if chkS p f = 0 then
    match heightsS p (p.getD f.toNat Fn.zero).code with
    | some H => (H, 0)
    | none => ([], 1)
  else ([], chkS p f)
def HgtPost (p : List Fn) (f : Int) (w : World) (e : Ending) (w' : World) : Prop :=
  ∃ v, e = .returned (.tuple #[v, .int .i64 (hgtS p f).2]) ∧ IntsAt w' v (hgtS p f).1 ∧ Kept w w'
theorem heights_bad (p : List Fn) (v : Value) (f : Int) (w : World) (hp : ProgAt w v p) (hk : KindsAt w) (hz : chkS p f ≠ 0) :
    Calls Tryz.prog 57 #[v, .int .i64 f] w fun e w' => HgtPost p f w e w' := by
  obtain ⟨oa, cap, rfl, _, _⟩ := id hp
  have hz' : (chkS p f != 0) = true := by rw [bne_iff_ne]; exact hz
  have hr : hgtS p f = ([], chkS p f) := by unfold hgtS; rw [if_neg hz]
  have HR := hide hr
  have HP := hide hp
  have HK := hide hk
  clear hp hk hz hr
  go_enter Tryz.func57, Tryz.ntmps57
  go_wp2_with fail
  refine (check_any p _ f _ (unhide HP) (unhide HK)).mono ?_
  rintro e w1 ⟨rfl, hk1⟩
  have H1 := hide hk1
  clear hk1
  generalize hc : chkS p f = r at *
  have HC := hide hc
  clear hc
  go_wp2
  go_ret2
  exact ⟨.slice none 0 0, by rw [unhide HR]; rfl, by rw [unhide HR]; exact IntsAt.nil _, unhide H1⟩
theorem infoInt : (Tryz.prog.info? 3).map (fun i => (i.zero, i.size, i.bytes)) = some (some (.int .i64 0), 1, 8) := by kernel_rfl
theorem made_ints (m : Nat) : madeCells #[.int .i64 0] m = ((List.replicate m (0 : Int)).map (fun z => Value.int .i64 z)).toArray := by
  apply Array.ext
  · simp [madeCells]
  · intro i h1 h2
    simp [madeCells, Nat.mod_one]
theorem make_ints (m : Nat) (hm : m ≤ 1000000) (u : World) : (Instr.makeSlice 30 (.int .i64 m) (.int .i64 m)).run Tryz.prog u =
    .ok (.slice (some ⟨u.heap.size, 0, none⟩) m m) (u.alloc (.cells ((List.replicate m (0 : Int)).map (fun z => Value.int .i64 z)).toArray 3)) := by
  obtain ⟨i0, hi, hz0, hz1, hz2⟩ := info_parts infoInt
  have h := run_make (P := Tryz.prog) u 30 3 i0 (.int .i64 0) Tryz.underlying30 hi hz0 .i64 .i64 (m : Int) (m : Int) (by omega) (Int.le_refl _) (by rw [hz2]; omega) (by omega)
  rw [Int.toNat_natCast] at h
  rw [← made_ints]
  simpa [hz1, Value.cells] using h
theorem fill_step {k m : Nat} (h : k < m) : (List.replicate k (-1 : Int) ++ List.replicate (m - k) 0).set k (-1) = List.replicate (k + 1) (-1) ++ List.replicate (m - (k + 1)) 0 := by
  obtain ⟨d, rfl⟩ : ∃ d, m = k + 1 + d := ⟨m - (k + 1), by omega⟩
  rw [List.set_append_right _ _ (by simp)]
  have e1 : k + 1 + d - k = d + 1 := by omega
  have e2 : k + 1 + d - (k + 1) = d := by omega
  rw [e1, e2, List.replicate_succ]
  simp [List.replicate_succ', List.append_assoc]
theorem heights_zero {w : World} {B m : Nat} (h : w.heap[B]? = some (.cells (Array.replicate m (.int .i64 0)) 3)) : HeightsAt w B (List.replicate m 0) := by
  unfold HeightsAt
  rw [h]
  simp
theorem heights_try (p : List Fn) (g : Fn) (i b o cap : Nat) (oc : Option Addr) (m cc : Nat) (w : World) (hk : KindsAt w) (hp : ProgAt w (.slice (some ⟨b, o, none⟩) p.length cap) p) (hi : i < p.length) (hg : p.getD i Fn.zero = g)
    (c2 : w.cell? ⟨b, o + i * 3 + 2, none⟩ = some (.slice oc m cc)) (hc : CodeAt w (.slice oc m cc) g.code) (hml : m = g.code.length) (hm : m ≤ 24) (hz : chkS p i = 0) (hops : opsS p g g.code = 0) :
    Calls Tryz.prog 57 #[.slice (some ⟨b, o, none⟩) p.length cap, .int .i64 i] w fun e w' => HgtPost p i w e w' := by
  have HK := hide hk
  have HP := hide hp
  have HG := hide hg
  have HC := hide hc
  have HL := hide hml
  have HZ := hide hz
  have HO := hide hops
  have C2 := hide c2
  clear hk hp hg hc hml hz hops c2
  go_enter Tryz.func57, Tryz.ntmps57
  go_wp2_with fail
  refine (check_is p _ i 0 _ (unhide HP) (unhide HK) (unhide HZ)).mono ?_
  rintro e w1 ⟨rfl, hk1⟩
  have d2 := hk1.cell (unhide C2)
  have H1 := hide hk1
  clear hk1
  have d2' : ∀ o1, (w1.alloc o1).cell? ⟨b, o + i * 3 + 2, none⟩ = some (.slice oc m cc) := fun o1 => ((Kept.refl w1).alloc o1).cell d2
  have d2'' : ∀ o1 o2, ((w1.alloc o1).alloc o2).cell? ⟨b, o + i * 3 + 2, none⟩ = some (.slice oc m cc) := fun o1 o2 => (((Kept.refl w1).alloc o1).alloc o2).cell d2
  have hmk := make_ints m (by omega)
  go_wp2_with fail
  go_cut [7] (fun s7 wx => ∃ B Bw, s7 = .pointer (some ⟨Bw, 0, none⟩) ∧ Hid (wx.heap[Bw]? = some (.cells #[.slice (some ⟨b, o, none⟩) p.length cap, .slice oc m cc, .slice (some ⟨B, 0, none⟩) m m] 139)) ∧ Hid (HeightsAt wx B (List.replicate m 0)) ∧ w1.heap.size ≤ B ∧ w1.heap.size ≤ Bw ∧ B ≠ Bw ∧ Hid (Kept w1 wx))
  case first =>
    go_region
    all_goals go_wp2_with fail
    all_goals go_meet
    · exact ⟨w1.heap.size, w1.heap.size + 1, rfl, hide (lays_drew (lays_new (by simp))), hide (heights_zero (lays_drew (lays_alloc (lays_new rfl) _))), Nat.le_refl _, Nat.le_succ _, by omega, hide ((((Kept.refl _).alloc _).alloc _).drew)⟩
    · exact ⟨w1.heap.size + 1, w1.heap.size, rfl, hide (lays_drew (lays_alloc (lays_new rfl) _)), hide (heights_zero (lays_drew (lays_new (by simp)))), Nat.le_succ _, Nat.le_refl _, by omega, hide ((((Kept.refl _).alloc _).alloc _).drew)⟩
  case rest =>
    obtain ⟨B, Bw, rfl, L0, HH0, hB, hBw, hne, HK1⟩ := hcut
    have e2 := cell_lays (unhide L0) 2
    simp only [List.getElem?_toArray, List.getElem?_cons_zero, List.getElem?_cons_succ] at e2
    clear d2 d2' d2'' hmk
    go_wp2
    go_loopw [32] (fun s32 wr => ∃ k : Nat, k ≤ m ∧ s32 = .int .i64 k ∧ Hid (wr.heap[Bw]? = some (.cells #[.slice (some ⟨b, o, none⟩) p.length cap, .slice oc m cc, .slice (some ⟨B, 0, none⟩) m m] 139)) ∧ Hid (HeightsAt wr B (List.replicate k (-1) ++ List.replicate (m - k) 0)) ∧ Hid (Kept w1 wr)) (fun s32 _ => m - (intOf s32).toNat)
    case atStart => exact ⟨0, Nat.zero_le _, rfl, L0, by simpa using HH0, HK1⟩
    case round =>
      obtain ⟨k, hkm, rfl, L0r, HHr, HKr⟩ := hrel
      have f0 := cell_lays (unhide L0r) 0
      have f1 := cell_lays (unhide L0r) 1
      have f2 := cell_lays (unhide L0r) 2
      simp only [List.getElem?_toArray, List.getElem?_cons_zero, List.getElem?_cons_succ] at f0 f1 f2
      by_cases hlt : k < m
      · have q := (unhide HHr).cell (k := k) (by simp; omega)
        have q' := (unhide HHr).frozen k
        have hset := (unhide HHr).set k (-1)
        rw [fill_step hlt] at hset
        have HSET := hide hset
        generalize (List.replicate k (-1 : Int) ++ List.replicate (m - k) 0).getD k 0 = z at q
        clear hset
        go_wp2
        go_roundw
        case rel => exact ⟨k + 1, by omega, by go_num, lays_other (unhide L0r) (fun e => hne e.symm) _, unhide HSET, (unhide HKr).setCell (p := ⟨B, k, none⟩) hB _⟩
        case measure => simp [intOf]; omega
      · have hke : k = m := by omega
        have hst : List.replicate k (-1 : Int) ++ List.replicate (m - k) 0 = start g.code := by
          have := unhide HL
          rw [hke, Nat.sub_self]
          simp [start, this]
        have hHs := unhide HHr
        rw [hst] at hHs
        have hu := unv_le (start g.code)
        rw [show (start g.code).length = g.code.length by simp [start]] at hu
        have hright : ∀ x, x ∈ g.code → opS p g x = 0 := fun x hx => opsS_all (unhide HO) x hx
        have hcm := come_any p g (some ⟨b, o, none⟩) p.length cap oc m cc B w1 (unhide HL) (g.code.length + 1) (start g.code) 0 0 wr ⟨(unhide HP).kept (unhide H1), (unhide HC).kept (unhide H1), (unhide HK).kept (unhide H1), hright, by have := unhide HL; omega, unhide HKr, hB, hHs, by simp [start]⟩ (by omega) (by omega) (by omega)
        have HCM := hide hcm
        have HRT := hide hright
        clear hcm hright hu hHs hst hke
        go_wp2_with fail
        refine (unhide HCM).mono ?_
        clear HCM
        rintro e w2 ⟨bb, H2, hc2, rfl, hH2, hk2⟩
        have hgt : hgtS p i = match heightsS p g.code with | some H => (H, 0) | none => ([], 1) := by
          unfold hgtS
          rw [if_pos (unhide HZ), Int.toNat_natCast, unhide HG]
        have hkw : Kept w w2 := (unhide H1).trans (KeptX.kept (unhide HKr) hB hk2)
        have g2 := cell_lays (hk2.lays (fun e => hne e.symm) (unhide L0r)) 2
        simp only [List.getElem?_toArray, List.getElem?_cons_zero, List.getElem?_cons_succ] at g2
        have HGT := hide hgt
        have HKW := hide hkw
        have HC2 := hide hc2
        have HH2 := hide hH2
        clear hgt hkw hc2 hH2 hk2 f0 f1 f2
        have hR : Right p g.code := ⟨g, rfl, unhide HRT⟩
        cases bb with
        | false =>
          have hn : heightsS p g.code = none := by
            cases hh : heightsS p g.code with
            | none => rfl
            | some H =>
              have := (way_heights hR).2 H hh
              unfold wayS at this
              rw [unhide HC2] at this
              cases this
          have HN := hide hn
          clear hn hR
          go_wp2
          go_ret2
          have hgt := unhide HGT
          rw [unhide HN] at hgt
          exact ⟨.slice none 0 0, by rw [hgt]; rfl, by rw [hgt]; exact IntsAt.nil _, unhide HKW⟩
        | true =>
          have hs : heightsS p g.code = some H2 := (way_heights hR).1 H2 (unhide HC2)
          have hlen : H2.length = m := by rw [(heightsS_ok hR hs).1.len]; exact (unhide HL).symm
          have HS := hide hs
          have HLN := hide hlen
          clear hs hlen hR
          go_wp2
          go_ret2
          have hgt := unhide HGT
          rw [unhide HS] at hgt
          refine ⟨.slice (some ⟨B, 0, none⟩) m m, by rw [hgt]; rfl, ?_, unhide HKW⟩
          rw [hgt]
          have hlen := unhide HLN
          refine ⟨_, m, by rw [hlen], by simp only; omega, fun k z hz => ⟨B, 0, rfl, ?_⟩⟩
          have hk := (List.getElem?_eq_some_iff.1 hz).1
          have := (unhide HH2).cell (k := k) hk
          rw [Nat.zero_add, this]
          simp [List.getD, hz]
theorem heights_any (p : List Fn) (v : Value) (f : Int) (w : World) (hp : ProgAt w v p) (hk : KindsAt w) :
    Calls Tryz.prog 57 #[v, .int .i64 f] w fun e w' => HgtPost p f w e w' := by
  by_cases hz : chkS p f = 0
  · obtain ⟨i, rfl, hi, hm, hr, hops⟩ := chkS_zero hz
    obtain ⟨oa, cap, rfl, hl, hcell⟩ := id hp
    obtain ⟨b, o, cv, rfl, c0, c1, c2, hc⟩ := hcell i _ (getD_of_lt p i Fn.zero hi)
    obtain ⟨oc, cc, rfl, _, _⟩ := id hc
    exact heights_try p _ i b o cap oc _ cc w hk hp hi rfl c2 hc rfl hm hz hops
  · exact heights_bad p v f w hp hk hz
open Go.RowKit
theorem IntsAt.wide {w : World} {v : Value} {l : List Int} (h : IntsAt w v l) : IntsW w v l := by
  obtain ⟨oa, cap, e, hn, hi⟩ := h
  exact ⟨oa, cap, e, by omega, hi⟩
def FramesAt (w : World) (v : Value) (l : List Fr) : Prop :=
  ∃ oa cap, v = .slice oa l.length cap ∧ (l.length ≤ 8796093022208 ∧ l.length ≤ cap) ∧ ∀ i f, l[i]? = some f → ∃ b o vl vs, oa = some ⟨b, o, none⟩ ∧
    w.cell? ⟨b, o + i * 4, none⟩ = some (.int .i64 f.fn) ∧ w.cell? ⟨b, o + i * 4 + 1, none⟩ = some (.int .i64 f.at_) ∧
    w.cell? ⟨b, o + i * 4 + 2, none⟩ = some vl ∧ w.cell? ⟨b, o + i * 4 + 3, none⟩ = some vs ∧ IntsW w vl f.locals ∧ IntsW w vs f.stack
def FibersAt (w : World) (v : Value) (l : List Fb) : Prop :=
  ∃ oa cap, v = .slice oa l.length cap ∧ l.length ≤ 8796093022208 ∧ ∀ i f, l[i]? = some f → ∃ b o vf, oa = some ⟨b, o, none⟩ ∧
    w.cell? ⟨b, o + i * 2, none⟩ = some vf ∧ w.cell? ⟨b, o + i * 2 + 1, none⟩ = some (.int .i64 f.caller) ∧ FramesAt w vf f.frames
def StAt (w : World) (v : Value) (s : St) : Prop :=
  ∃ vf vo, v = .agg #[vf, .int .i64 s.now, vo] ∧ FibersAt w vf s.fibers ∧ IntsW w vo s.out
theorem FramesAt.kept {w w' : World} (h : Kept w w') {v : Value} {l : List Fr} (hl : FramesAt w v l) : FramesAt w' v l := by
  obtain ⟨oa, cap, e, hn, hi⟩ := hl
  refine ⟨oa, cap, e, hn, fun i f hf => ?_⟩
  obtain ⟨b, o, vl, vs, e1, h1, h2, h3, h4, h5, h6⟩ := hi i f hf
  exact ⟨b, o, vl, vs, e1, h.cell h1, h.cell h2, h.cell h3, h.cell h4, h5.kept h, h6.kept h⟩
theorem FibersAt.kept {w w' : World} (h : Kept w w') {v : Value} {l : List Fb} (hl : FibersAt w v l) : FibersAt w' v l := by
  obtain ⟨oa, cap, e, hn, hi⟩ := hl
  refine ⟨oa, cap, e, hn, fun i f hf => ?_⟩
  obtain ⟨b, o, vf, e1, h1, h2, h3⟩ := hi i f hf
  exact ⟨b, o, vf, e1, h.cell h1, h.cell h2, h3.kept h⟩
theorem StAt.kept {w w' : World} (h : Kept w w') {v : Value} {s : St} (hs : StAt w v s) : StAt w' v s := by
  obtain ⟨vf, vo, e, h1, h2⟩ := hs
  exact ⟨vf, vo, e, h1.kept h, h2.kept h⟩
theorem FramesAt.nil (w : World) : FramesAt w (.slice none 0 0) [] := ⟨none, 0, rfl, by simp, fun i z h => by simp at h⟩
theorem FibersAt.nil (w : World) : FibersAt w (.slice none 0 0) [] := ⟨none, 0, rfl, by simp, fun i z h => by simp at h⟩
theorem box_st {w u : World} (hk : Kept w u) (c : Array Value) (t : TypeId) : Kept w (u.alloc (.cells c t)) ∧ (u.alloc (.cells c t)).heap[u.heap.size]? = some (.cells c t) := ⟨hk.alloc _, lays_new rfl⟩
open Go.RowKit Go.Maps
def OddT (t : TypeId) : Prop := t = 38 ∨ t = 51 ∨ t = 5
def StFar (D : Nat) (w : World) (v : Value) (s : St) : Prop := ∀ w', (∀ (b : Nat) (c : Array Value) (t : TypeId), b ≠ D → ¬ OddT t → w.heap[b]? = some (.cells c t) → w'.heap[b]? = some (.cells c t)) → StAt w' v s
theorem StFar.at {D : Nat} {w : World} {v : Value} {s : St} (h : StFar D w v s) : StAt w v s := h w fun _ _ _ _ _ h => h
theorem StFar.x {D : Nat} {w w' : World} {v : Value} {s : St} (h : StFar D w v s) (k : KeptX D w w') : StFar D w' v s := fun w2 h2 => h w2 fun b c t hb ht ho => h2 b c t hb ht (k.lays hb ho)
theorem StFar.odd {D : Nat} {w w' : World} {v : Value} {s : St} (h : StFar D w v s) (k : ∀ (b : Nat) (c : Array Value) (t : TypeId), b ≠ D → ¬ OddT t → w.heap[b]? = some (.cells c t) → w'.heap[b]? = some (.cells c t)) : StFar D w' v s := fun w2 h2 => h w2 fun b c t hb ht ho => h2 b c t hb ht (k b c t hb ht ho)
def DkAt (w : World) (D : Nat) (vp : Value) (s : St) : Prop := ∃ vf c vo, w.heap[D]? = some (.cells #[vp, vf, .int .i64 c, vo] 46) ∧ StFar D w (.agg #[vf, .int .i64 c, vo]) s
theorem DkAt.kept {w w' : World} {D : Nat} {vp : Value} {s : St} (h : DkAt w D vp s) (k : Kept w w') : DkAt w' D vp s := by
  obtain ⟨vf, c, vo, h1, h2⟩ := h
  exact ⟨vf, c, vo, lays_kept k h1, h2.x (.of k)⟩
theorem DkAt.odd {w w' : World} {D : Nat} {vp : Value} {s : St} (h : DkAt w D vp s) (k : ∀ (b : Nat) (c : Array Value) (t : TypeId), ¬ OddT t → w.heap[b]? = some (.cells c t) → w'.heap[b]? = some (.cells c t)) : DkAt w' D vp s := by
  obtain ⟨vf, c, vo, h1, h2⟩ := h
  exact ⟨vf, c, vo, k _ _ _ (by unfold OddT; decide) h1, h2.odd fun b c t _ ht hb => k b c t ht hb⟩
def GivesW (D : Nat) (vp : Value) (f : FuncId) (args : Array Value) (u : World) (s : St) (l : List (List UInt8)) : Prop :=
  Calls Tryz.prog f args u fun e w' => ∃ v, e = .returned v ∧ RowS u.heap.size w' v l ∧ DkAt w' D vp s ∧ KeptX D u w'
def LeavesW (D : Nat) (vp : Value) (f : FuncId) (args : Array Value) (u : World) (s : St) (z : Int) : Prop :=
  Calls Tryz.prog f args u fun e w' => e = leftD z ∧ DkAt w' D vp s ∧ KeptX D u w'
def TellD (l : List Int) : Prop := l.length ≤ 1000 ∧ ∀ z ∈ l, I64 z
theorem dOut (w : World) (D : Nat) (vp : Value) (s : St) (h : DkAt w D vp s) (hs : TellD s.out) (ht : TabW w) : GivesW D vp 102 #[.pointer (some ⟨D, 0, none⟩)] w s (numsD s.out) := by
  unfold GivesW
  have HD := hide h
  obtain ⟨vf, c, vo, h1, h2⟩ := h
  obtain ⟨vf', vo', e, _, hi⟩ := h2.at
  obtain ⟨rfl, rfl, rfl⟩ : vf = vf' ∧ c = s.now ∧ vo = vo' := by simpa using e
  obtain ⟨oo, co, rfl, _⟩ := id hi
  have HC := hide (numbers_row w _ s.out hi hs.1 hs.2 ht)
  have c3 := cell_lays h1 3
  simp only [List.getElem?_toArray, List.getElem?_cons_zero, List.getElem?_cons_succ] at c3
  generalize s.out.length = n at *
  clear h1 h2 e hi hs ht
  go_enter Tryz.func102, Tryz.ntmps102
  go_wp2_with fail
  refine (unhide HC).mono ?_
  rintro _ w2 ⟨g, rfl, hr, k2⟩
  have HR := hide hr
  have HK := hide k2
  clear hr k2 HC c3
  go_wp2_with fail
  go_ret
  exact ⟨_, rfl, unhide HR, (unhide HD).kept (unhide HK), .of (unhide HK)⟩
def NumsP (l : List Int) (er : Int) (u : World) (e : Ending) (w' : World) : Prop := ∃ oa n cap, e = .returned (.tuple #[.slice oa n cap, .int .i64 er]) ∧ IntsW w' (.slice oa n cap) l ∧ Kept u w'
theorem DkAt.cells {w : World} {D : Nat} {vp : Value} {s : St} (h : DkAt w D vp s) : ∃ of nf cf c oo no co, w.cell? ⟨D, 0, none⟩ = some vp ∧ w.cell? ⟨D, 1, none⟩ = some (.slice of nf cf) ∧ w.cell? ⟨D, 2, none⟩ = some (.int .i64 c) ∧ w.cell? ⟨D, 3, none⟩ = some (.slice oo no co) ∧ StFar D w (.agg #[.slice of nf cf, .int .i64 c, .slice oo no co]) s ∧ w.heap[D]? = some (.cells #[vp, .slice of nf cf, .int .i64 c, .slice oo no co] 46) ∧ nf = s.fibers.length ∧ no = s.out.length := by
  obtain ⟨vf, c, vo, h1, h2⟩ := h
  obtain ⟨vf', vo', e, hf, hi⟩ := h2.at
  obtain ⟨rfl, rfl, rfl⟩ : vf = vf' ∧ c = s.now ∧ vo = vo' := by simpa using e
  obtain ⟨oo, co, rfl, _⟩ := id hi
  obtain ⟨of, cf, rfl, _⟩ := id hf
  exact ⟨of, _, cf, s.now, oo, _, co, cell_lays h1 0, cell_lays h1 1, cell_lays h1 2, cell_lays h1 3, h2, h1, rfl, rfl⟩
theorem dLine (w : World) (D : Nat) (vp : Value) (s : St) (l : List Int) (h : DkAt w D vp s) (hs : TellD l) (ht : TabW w)
    (HL : Hid (∀ u v, Kept w u → StAt u v s → Calls Tryz.prog 139 #[vp, v] u (NumsP l 0 u))) : GivesW D vp 103 #[.pointer (some ⟨D, 0, none⟩)] w s (numsD l) := by
  unfold GivesW
  have HD := hide h
  obtain ⟨of, nf, cf, c, oo, no, co, c0, c1, c2, c3, hst, -, -, -⟩ := h.cells
  have HC := hide ((unhide HL) w.drew _ ((Kept.refl w).drew) (hst.x (.of ((Kept.refl w).drew))).at)
  have HT := hide ht
  have HS := hide hs
  clear hst h ht hs HL
  go_enter Tryz.func103, Tryz.ntmps103
  go_wp2_with fail
  refine wp_region_held_drew (S := fun y => Kept w y) (by kernel_rfl) ((Kept.refl w).drew) (fun hHeld => ?_)
  refine planY [0, 1, 2, 3, 4, 5, 6, 7] ?_
  repeat
    refine takeY (v := ?_) hHeld (fun u hSu => ?_) ?_
    rotate_left
    · (have y0 := hSu.cell c0; have y1 := hSu.cell c1; have y2 := hSu.cell c2; have y3 := hSu.cell c3; (try dsimp only at y0 y1 y2 y3); go_simp) <;> with_reducible rfl
    try simp only [Act.put, List.setIfInBounds_toArray, List.set_cons_zero, List.set_cons_succ]
  refine endY ?_
  refine take_one (i := 8) rfl (by kernel_rfl) (fun K hK => ?_)
  go_simp
  refine (unhide HC).mono ?_
  rintro _ w2 ⟨o2, n2, p2, rfl, h2, k2⟩
  have hS2 : Kept w w2 := hHeld.trans k2
  have HK := hide hS2
  have HN := hide (numbers_row w2 _ l h2 (unhide HS).1 (unhide HS).2 ((unhide HT).kept hS2))
  clear h2 k2 HC c0 c1 c2 c3
  refine hK.out _ _ hS2 (fun hHeld => ?_)
  clear hK K hS2
  try simp only [Act.put, List.setIfInBounds_toArray, List.set_cons_zero, List.set_cons_succ]
  refine planY [9, 10, 11, 12, 13] ?_
  repeat
    refine takeY (v := ?_) hHeld (fun u hSu => ?_) ?_
    rotate_left
    · go_simp <;> with_reducible rfl
    try simp only [Act.put, List.setIfInBounds_toArray, List.set_cons_zero, List.set_cons_succ]
  refine endY ?_
  refine wpAnyH_done (by kernel_rfl) ?_ _
  clear hHeld
  go_wp2_with fail
  refine (must_ok _).mono ?_
  rintro _ _ ⟨rfl, rfl⟩
  go_wp2_with fail
  refine (unhide HN).mono ?_
  rintro _ w3 ⟨g, rfl, hr, k3⟩
  have HR := hide (hr.low (unhide HK).size)
  have HK3 := hide ((unhide HK).trans k3)
  clear hr k3 HN
  go_wp2_with fail
  go_ret
  exact ⟨_, rfl, unhide HR, (unhide HD).kept (unhide HK3), .of (unhide HK3)⟩
theorem dHeights (w : World) (D : Nat) (vp : Value) (s : St) (n : Int) (l : List Int) (h : DkAt w D vp s) (hs : TellD l) (ht : TabW w)
    (HL : Hid (Calls Tryz.prog 57 #[vp, .int .i64 n] w (NumsP l 0 w))) : GivesW D vp 108 #[.pointer (some ⟨D, 0, none⟩), .int .i64 n] w s (numsD l) := by
  unfold GivesW
  have HD := hide h
  obtain ⟨of, nf, cf, c, oo, no, co, c0, c1, c2, c3, hst, -, -, -⟩ := h.cells
  have HT := hide ht
  have HS := hide hs
  clear hst h ht hs
  go_enter Tryz.func108, Tryz.ntmps108
  go_wp2_with fail
  refine (unhide HL).mono ?_
  rintro _ w2 ⟨o2, n2, p2, rfl, h2, k2⟩
  have HK := hide k2
  have HN := hide (numbers_row w2 _ l h2 (unhide HS).1 (unhide HS).2 ((unhide HT).kept k2))
  clear h2 k2 HL c0 c1 c2 c3
  go_wp2_with fail
  refine (must_ok _).mono ?_
  rintro _ _ ⟨rfl, rfl⟩
  go_wp2_with fail
  refine (unhide HN).mono ?_
  rintro _ w3 ⟨g, rfl, hr, k3⟩
  have HR := hide (hr.low (unhide HK).size)
  have HK3 := hide ((unhide HK).trans k3)
  clear hr k3 HN
  go_wp2_with fail
  go_ret
  exact ⟨_, rfl, unhide HR, (unhide HD).kept (unhide HK3), .of (unhide HK3)⟩
theorem dHeights_no (w : World) (D : Nat) (vp : Value) (s : St) (n er : Int) (l : List Int) (h : DkAt w D vp s) (he : er ≠ 0)
    (HL : Hid (Calls Tryz.prog 57 #[vp, .int .i64 n] w (NumsP l er w))) : LeavesW D vp 108 #[.pointer (some ⟨D, 0, none⟩), .int .i64 n] w s er := by
  unfold LeavesW
  have HD := hide h
  obtain ⟨of, nf, cf, c, oo, no, co, c0, c1, c2, c3, hst, -, -, -⟩ := h.cells
  clear hst h
  go_enter Tryz.func108, Tryz.ntmps108
  go_wp2_with fail
  refine (unhide HL).mono ?_
  rintro _ w2 ⟨o2, n2, p2, rfl, h2, k2⟩
  have HK := hide k2
  clear h2 k2 HL c0 c1 c2 c3
  go_wp2_with fail
  refine (must_no _ er he).mono ?_
  rintro _ _ ⟨rfl, rfl⟩
  dsimp only [leftD]
  refine ⟨rfl, rfl, (unhide HD).kept (unhide HK), .of (unhide HK)⟩
def StNew (N : Nat) (w : World) (v : Value) (s : St) : Prop := ∀ w', (∀ (b : Nat) (c : Array Value) (t : TypeId), N ≤ b → ¬ OddT t → w.heap[b]? = some (.cells c t) → w'.heap[b]? = some (.cells c t)) → StAt w' v s
def StP (s : St) (more : List Value) (u : World) (e : Ending) (w' : World) : Prop := ∃ of nf cf c oo no co, e = .returned (.tuple (#[.agg #[.slice of nf cf, .int .i64 c, .slice oo no co]] ++ more.toArray)) ∧ StNew u.heap.size w' (.agg #[.slice of nf cf, .int .i64 c, .slice oo no co]) s ∧ Kept u w'
theorem StNew.far {N D : Nat} {w w' : World} {v : Value} {s : St} (h : StNew N w v s) (hD : D < N) (k : ∀ (b : Nat) (o : Obj), N ≤ b → w.heap[b]? = some o → w'.heap[b]? = some o) : StFar D w' v s := fun w2 h2 => h w2 fun b c t hb ht ho => h2 b c t (by omega) ht (k b _ hb ho)
theorem DkAt.put {w : World} {D : Nat} {vp a b c : Value} (h : w.heap[D]? = some (.cells #[vp, a, b, c] 46)) {vf vo : Value} {z : Int} {s : St} (hs : StFar D w (.agg #[vf, .int .i64 z, vo]) s) :
    DkAt (((w.setCell ⟨D, 1, none⟩ vf).setCell ⟨D, 2, none⟩ (.int .i64 z)).setCell ⟨D, 3, none⟩ vo) D vp s ∧ KeptX D w (((w.setCell ⟨D, 1, none⟩ vf).setCell ⟨D, 2, none⟩ (.int .i64 z)).setCell ⟨D, 3, none⟩ vo) := by
  have hk : KeptX D w (((w.setCell ⟨D, 1, none⟩ vf).setCell ⟨D, 2, none⟩ (.int .i64 z)).setCell ⟨D, 3, none⟩ vo) := (((KeptX.refl D w).setCell (.inl rfl) _).setCell (.inl rfl) _).setCell (.inl rfl) _
  refine ⟨⟨vf, z, vo, ?_, hs.x hk⟩, hk⟩
  have := lays_set (lays_set (lays_set h 1 vf) 2 (.int .i64 z)) 3 vo
  simpa using this
theorem dAgain (w : World) (D : Nat) (vp : Value) (s s' : St) (h : DkAt w D vp s)
    (HB : Hid (∀ u, Kept w u → Calls Tryz.prog 29 #[vp] u (StP s' [.int .i64 0] u))) : GivesW D vp 15 #[.pointer (some ⟨D, 0, none⟩)] w s' [[111, 107]] := by
  unfold GivesW
  have HD := hide h
  obtain ⟨of, nf, cf, c, oo, no, co, c0, c1, c2, c3, hst, hl, -, -⟩ := h.cells
  have HL := hide hl
  have HC := hide ((unhide HB) w (Kept.refl w))
  have hDlt : D < w.heap.size := (Array.getElem?_eq_some_iff.1 hl).1
  clear hst h hl HB
  go_enter Tryz.func15, Tryz.ntmps15
  go_wp2_with fail
  refine (unhide HC).mono ?_
  rintro _ w2 ⟨of2, nf2, cf2, z2, oo2, no2, co2, rfl, hs2, k2⟩
  have HS2 := hide (hs2.far hDlt (fun _ _ _ h => h))
  have HK := hide k2
  clear c0 c1 c2 c3 HC hs2 k2
  go_wp2_with fail
  obtain ⟨k9, l9⟩ := box_st (Kept.refl w2) #[.slice of2 nf2 cf2, .int .i64 z2, .slice oo2 no2 co2] 44
  generalize w2.alloc (.cells #[.slice of2 nf2 cf2, .int .i64 z2, .slice oo2 no2 co2] 44) = w3 at *
  generalize w2.heap.size = B at *
  replace HK := hide ((unhide HK).trans k9)
  replace HS2 := hide ((unhide HS2).x (.of k9))
  have HL2 := hide (lays_kept (unhide HK) (unhide HL))
  have y0 := cell_lays l9 0
  have y1 := cell_lays l9 1
  have y2 := cell_lays l9 2
  simp only [List.getElem?_toArray, List.getElem?_cons_zero, List.getElem?_cons_succ] at y0 y1 y2
  clear k9 l9
  refine (must_ok _).mono ?_
  rintro _ w4 ⟨rfl, rfl⟩
  have x1 := cell_lays (unhide HL2) 1
  have x2 := cell_lays (unhide HL2) 2
  have x3 := cell_lays (unhide HL2) 3
  simp only [List.getElem?_toArray, List.getElem?_cons_zero, List.getElem?_cons_succ] at x1 x2 x3
  have f1 := frozen_lays (unhide HL2) 1
  have f2 := frozen_lays (unhide HL2) 2
  have f3 := frozen_lays (unhide HL2) 3
  obtain ⟨hd, hx⟩ := DkAt.put (unhide HL2) (unhide HS2)
  have HP := hide (And.intro hd hx)
  clear hd hx
  go_wp2_with fail
  go_ret
  have hz : (((w4.setCell ⟨D, 1, none⟩ (.slice of2 nf2 cf2)).setCell ⟨D, 2, none⟩ (.int .i64 z2)).setCell ⟨D, 3, none⟩ (.slice oo2 no2 co2)).heap.size = w4.heap.size := by simp
  refine ⟨_, rfl, ?_, (unhide HP).1.kept ((Kept.refl _).alloc _), ((KeptX.of (unhide HK)).trans (unhide HP).2).alloc _⟩
  have hr := RowS.one (((w4.setCell ⟨D, 1, none⟩ (.slice of2 nf2 cf2)).setCell ⟨D, 2, none⟩ (.int .i64 z2)).setCell ⟨D, 3, none⟩ (.slice oo2 no2 co2)) [111, 107]
  rw [hz] at hr
  exact hr.low (unhide HK).size
theorem take_twoD {P : Program} {md : Region.Mode} {Q : Exit → Act → World → Prop} {S : World → Prop} {L tl tl' : List Oper} {i k : Nat} {oi ok : Oper} {fuel : Nat} {listed : Array Bool} {a : Act} {w : World} (hd : L.drop i = oi :: tl) (hd' : L.drop k = ok :: tl')
    (hr : Region.ready md L.toArray listed = [i, k])
    (h : ∀ K' : Act → World → Prop, Shut (∀ a w, S w → (S w → wpAnyH P md L.toArray Q S fuel (listed.setIfInBounds i true) a w) → K' a w) → if Region.wanted oi (yielded L.toArray a.tmps) = true then Oper.wp P oi a w K' Q else K' (a.put oi.dst undef) w)
    (h' : ∀ K' : Act → World → Prop, Shut (∀ a w, S w → (S w → wpAnyH P md L.toArray Q S fuel (listed.setIfInBounds k true) a w) → K' a w) → if Region.wanted ok (yielded L.toArray a.tmps) = true then Oper.wp P ok a w K' Q else K' (a.put ok.dst undef) w) :
    wpAnyH P md L.toArray Q S (fuel + 1) listed a w :=
  wpAnyH_ready hr (by simp) (AllReadyH.cons (at_drop hd) h (AllReadyH.cons (at_drop hd') h' AllReadyH.nil))
theorem numbers_one (u : World) (B : Nat) (hB : u.heap.size = B) (z : Int) (hz : I64 z) (ht : TabW u) : Calls Tryz.prog 58 #[.slice (some ⟨B, 0, none⟩) 1 1] (u.alloc (.cells #[.int .i64 z] 3)) fun e w' => ∃ g, e = .returned (.slice (some ⟨g, 0, none⟩) 1 1) ∧ RowS u.heap.size w' (.slice (some ⟨g, 0, none⟩) 1 1) (numsD [z]) ∧ Kept u w' := by
  subst hB
  refine (numbers_row (u.alloc (.cells #[.int .i64 z] 3)) (.slice (some ⟨u.heap.size, 0, none⟩) 1 1) [z] ⟨_, _, rfl, by simp, fun i x hx => by
    have hi : i = 0 := by have := (List.getElem?_eq_some_iff.1 hx).1; simpa using this
    subst hi
    obtain rfl : z = x := by simpa using hx
    refine ⟨_, _, rfl, ?_⟩
    have h2 : (u.alloc (.cells #[.int .i64 z] 3)).heap[u.heap.size]? = some (.cells #[.int .i64 z] 3) := lays_new rfl
    rw [cell_lays h2]
    rfl⟩ (by simp) (fun x hx => by obtain rfl := List.mem_singleton.1 hx; exact hz) (ht.kept ((Kept.refl u).alloc _))).mono ?_
  rintro e w' ⟨g, he, hr, hk⟩
  exact ⟨g, he, hr.low (by simp), ((Kept.refl u).alloc _).trans hk⟩
abbrev box3 (w : World) (B : Nat) (a b c : Value) : World := ((w.setCell ⟨B, 0, none⟩ a).setCell ⟨B, 1, none⟩ b).setCell ⟨B, 2, none⟩ c
theorem box3_other (w : World) (B : Nat) (a b c : Value) {g : Nat} (hg : g ≠ B) : (box3 w B a b c).heap[g]? = w.heap[g]? := by
  unfold box3
  rw [Below.heap_setCell _ _ _ _ (by simpa using hg), Below.heap_setCell _ _ _ _ (by simpa using hg), Below.heap_setCell _ _ _ _ (by simpa using hg)]
theorem box3_kept {w0 w : World} {B : Nat} (h : Kept w0 w) (hB : w0.heap.size ≤ B) (a b c : Value) : Kept w0 (box3 w B a b c) := ((h.setCell (p := ⟨B, 0, none⟩) hB a).setCell (p := ⟨B, 1, none⟩) hB b).setCell (p := ⟨B, 2, none⟩) hB c
theorem dStep (w : World) (D : Nat) (vp : Value) (s s' : St) (n : Int) (k : Nat) (er : Int) (h : DkAt w D vp s) (hk : I64 (k : Int)) (he : I64 er) (ht : ∀ u, KeptX D w u → TabW u)
    (HR : Hid (∀ u v, Kept w u → StAt u v s → Calls Tryz.prog 30 #[vp, v, .int .i64 n] u (StP s' [.int .i64 (k : Int), .int .i64 er] u))) :
    Calls Tryz.prog 107 #[.pointer (some ⟨D, 0, none⟩), .int .i64 n] w fun e w' => (er = 3 → e = leftD 3 ∧ DkAt w' D vp s ∧ KeptX D w w') ∧ (er ≠ 3 → ∃ v, e = .returned v ∧ RowS w.heap.size w' v (numsD [(k : Int)] ++ if er = 0 then [] else faultD er) ∧ DkAt w' D vp s' ∧ KeptX D w w') := by
  have HD := hide h
  obtain ⟨of, nf, cf, c, oo, no, co, c0, c1, c2, c3, hst, hl, -, -⟩ := h.cells
  have HL := hide hl
  have hDlt : D < w.heap.size := (Array.getElem?_eq_some_iff.1 hl).1
  have HST := hide hst
  have HT := hide ht
  have HKI := hide hk
  have HEI := hide he
  clear hst h hl hk he ht
  go_enter Tryz.func107, Tryz.ntmps107
  go_wp2_with fail
  go_cut [5, 6, 7] (fun s5 s6 s7 wx => ∃ (B : Nat) (o5 : Option Addr) (n5 c5 : Nat) (z5 : Int) (q5 : Option Addr) (m5 d5 : Nat), s5 = .pointer (some ⟨B, 0, none⟩) ∧ s6 = .int .i64 (k : Int) ∧ s7 = .int .i64 er ∧ Hid (wx.heap[B]? = some (.cells #[.slice o5 n5 c5, .int .i64 z5, .slice q5 m5 d5] 44) ∧ StFar D wx (.agg #[.slice o5 n5 c5, .int .i64 z5, .slice q5 m5 d5]) s' ∧ Kept w wx))
  case first =>
    refine wp_region_held_drew (S := fun y => Kept w y) (by kernel_rfl) ((Kept.refl w).drew) (fun hHeld => ?_)
    refine planY [0, 1, 2, 3, 4, 5, 6, 7, 8] ?_
    repeat
      refine takeY (v := ?_) hHeld (fun u hSu => ?_) ?_
      rotate_left
      · (have y0 := hSu.cell c0; have y1 := hSu.cell c1; have y2 := hSu.cell c2; have y3 := hSu.cell c3; (try dsimp only at y0 y1 y2 y3); go_simp) <;> with_reducible rfl
      try simp only [Act.put, List.setIfInBounds_toArray, List.set_cons_zero, List.set_cons_succ]
    refine endY ?_
    clear c0 c1 c2 c3
    refine take_twoD (i := 9) (k := 14) rfl rfl (by kernel_rfl) (fun K hK => ?_) (fun K hK => ?_)
    · skip
      go_simp
      refine ((unhide HR) _ _ ((Kept.refl w).drew) ((unhide HST).x (.of ((Kept.refl w).drew))).at).mono ?_
      rintro _ w5 ⟨o5, n5, c5, z5, q5, m5, d5, rfl, hf, hk5'⟩
      have hk5 : Kept w w5 := hHeld.trans hk5'
      refine hK.out _ _ hk5 (fun hHeld => ?_)
      clear hK K
      try simp only [Act.put, List.setIfInBounds_toArray, List.set_cons_zero, List.set_cons_succ]
      refine planY [10, 11, 12, 13] ?_
      repeat
        refine takeY (v := ?_) hHeld (fun u hSu => ?_) ?_
        rotate_left
        · go_simp <;> with_reducible rfl
        try simp only [Act.put, List.setIfInBounds_toArray, List.set_cons_zero, List.set_cons_succ]
      refine endY ?_
      refine take_one (i := 14) rfl (by kernel_rfl) (fun K hK => ?_)
      go_simp
      refine hK.out _ _ (hHeld.alloc _) (fun hHeld => ?_)
      clear hK K
      try simp only [Act.put, List.setIfInBounds_toArray, List.set_cons_zero, List.set_cons_succ]
      have hZ5 : (w5.alloc (.cells #[.slice none 0 0, .int .i64 0, .slice none 0 0] 44)).heap[w5.heap.size]? = some (.cells #[.slice none 0 0, .int .i64 0, .slice none 0 0] 44) := lays_new rfl
      have hfar : StFar D (box3 (w5.alloc (.cells #[.slice none 0 0, .int .i64 0, .slice none 0 0] 44)) w5.heap.size (.slice o5 n5 c5) (.int .i64 z5) (.slice q5 m5 d5)) (.agg #[.slice o5 n5 c5, .int .i64 z5, .slice q5 m5 d5]) s' := hf.far hDlt (fun b o hb ho => by
        have hlt := (Array.getElem?_eq_some_iff.1 ho).1
        rw [box3_other _ _ _ _ _ (by omega)]
        exact lays_alloc ho _)
      have hkf : Kept w (box3 (w5.alloc (.cells #[.slice none 0 0, .int .i64 0, .slice none 0 0] 44)) w5.heap.size (.slice o5 n5 c5) (.int .i64 z5) (.slice q5 m5 d5)) := box3_kept (hk5.alloc _) hk5.size _ _ _
      generalize w5.alloc (.cells #[.slice none 0 0, .int .i64 0, .slice none 0 0] 44) = y5 at hZ5 hfar hkf hHeld ⊢
      generalize w5.heap.size = B at hZ5 hfar hkf ⊢
      have x0 := cell_lays hZ5 0
      have x1 := cell_lays hZ5 1
      have x2 := cell_lays hZ5 2
      simp only [List.getElem?_toArray, List.getElem?_cons_zero, List.getElem?_cons_succ] at x0 x1 x2
      have f0 := frozen_lays hZ5 0
      have f1 := frozen_lays hZ5 1
      have f2 := frozen_lays hZ5 2
      have l3 := lays_set (lays_set (lays_set hZ5 0 (.slice o5 n5 c5)) 1 (.int .i64 z5)) 2 (.slice q5 m5 d5)
      have HF := hide (And.intro l3 (And.intro hfar hkf))
      clear l3 hkf hfar
      refine take_one (i := 15) rfl (by kernel_rfl) (fun K hK => ?_)
      go_simp
      refine hK.out _ _ (unhide HF).2.2 (fun hHeld => ?_)
      clear hK K x0 x1 x2 f0 f1 f2
      try simp only [Act.put, List.setIfInBounds_toArray, List.set_cons_zero, List.set_cons_succ]
      refine planY [16, 17] ?_
      repeat
        refine takeY (v := ?_) hHeld (fun u hSu => ?_) ?_
        rotate_left
        · go_simp <;> with_reducible rfl
        try simp only [Act.put, List.setIfInBounds_toArray, List.set_cons_zero, List.set_cons_succ]
      refine endY ?_
      refine wpAnyH_done (by kernel_rfl) ?_ _
      clear hHeld
      go_wp2_with fail
      go_meet
      exact ⟨B, o5, n5, c5, z5, q5, m5, d5, rfl, rfl, rfl, HF⟩
    · skip
      go_simp
      refine hK.out _ _ (((Kept.refl w).alloc _).drew) (fun hHeld => ?_)
      clear hK K
      try simp only [Act.put, List.setIfInBounds_toArray, List.set_cons_zero, List.set_cons_succ]
      have hZ : (w.alloc (.cells #[.slice none 0 0, .int .i64 0, .slice none 0 0] 44)).drew.heap[w.heap.size]? = some (.cells #[.slice none 0 0, .int .i64 0, .slice none 0 0] 44) := (show (w.alloc (.cells #[.slice none 0 0, .int .i64 0, .slice none 0 0] 44)).heap[w.heap.size]? = _ from lays_new rfl)
      have hKa : Kept w (w.alloc (.cells #[.slice none 0 0, .int .i64 0, .slice none 0 0] 44)).drew := ((Kept.refl w).alloc _).drew
      generalize (w.alloc (.cells #[.slice none 0 0, .int .i64 0, .slice none 0 0] 44)).drew = ya at hZ hKa hHeld ⊢
      generalize hBB : w.heap.size = B at hZ ⊢
      have hB0 : w.heap.size ≤ B := by omega
      have hBD : B ≠ D := by omega
      clear hBB
      refine take_one (i := 9) rfl (by kernel_rfl) (fun K hK => ?_)
      go_simp
      refine ((unhide HR) _ _ hKa ((unhide HST).x (.of hKa)).at).mono ?_
      rintro _ w5 ⟨o5, n5, c5, z5, q5, m5, d5, rfl, hf, hk5'⟩
      have hk5 : Kept w w5 := hKa.trans hk5'
      refine hK.out _ _ hk5 (fun hHeld => ?_)
      clear hK K
      try simp only [Act.put, List.setIfInBounds_toArray, List.set_cons_zero, List.set_cons_succ]
      refine planY [10, 11, 12, 13] ?_
      repeat
        refine takeY (v := ?_) hHeld (fun u hSu => ?_) ?_
        rotate_left
        · go_simp <;> with_reducible rfl
        try simp only [Act.put, List.setIfInBounds_toArray, List.set_cons_zero, List.set_cons_succ]
      refine endY ?_
      have hZ5 := lays_kept hk5' hZ
      have hBl : B < ya.heap.size := (Array.getElem?_eq_some_iff.1 hZ).1
      have hfar : StFar D (box3 w5 B (.slice o5 n5 c5) (.int .i64 z5) (.slice q5 m5 d5)) (.agg #[.slice o5 n5 c5, .int .i64 z5, .slice q5 m5 d5]) s' := hf.far (Nat.lt_of_lt_of_le hDlt hKa.size) (fun b o hb ho => by
        rw [box3_other _ _ _ _ _ (by omega)]
        exact ho)
      have hkf : Kept w (box3 w5 B (.slice o5 n5 c5) (.int .i64 z5) (.slice q5 m5 d5)) := box3_kept hk5 hB0 _ _ _
      have x0 := cell_lays hZ5 0
      have x1 := cell_lays hZ5 1
      have x2 := cell_lays hZ5 2
      simp only [List.getElem?_toArray, List.getElem?_cons_zero, List.getElem?_cons_succ] at x0 x1 x2
      have f0 := frozen_lays hZ5 0
      have f1 := frozen_lays hZ5 1
      have f2 := frozen_lays hZ5 2
      have l3 := lays_set (lays_set (lays_set hZ5 0 (.slice o5 n5 c5)) 1 (.int .i64 z5)) 2 (.slice q5 m5 d5)
      have HF := hide (And.intro l3 (And.intro hfar hkf))
      clear l3 hkf hfar
      refine take_one (i := 15) rfl (by kernel_rfl) (fun K hK => ?_)
      go_simp
      refine hK.out _ _ (unhide HF).2.2 (fun hHeld => ?_)
      clear hK K x0 x1 x2 f0 f1 f2
      try simp only [Act.put, List.setIfInBounds_toArray, List.set_cons_zero, List.set_cons_succ]
      refine planY [16, 17] ?_
      repeat
        refine takeY (v := ?_) hHeld (fun u hSu => ?_) ?_
        rotate_left
        · go_simp <;> with_reducible rfl
        try simp only [Act.put, List.setIfInBounds_toArray, List.set_cons_zero, List.set_cons_succ]
      refine endY ?_
      refine wpAnyH_done (by kernel_rfl) ?_ _
      clear hHeld
      go_wp2_with fail
      go_meet
      exact ⟨B, o5, n5, c5, z5, q5, m5, d5, rfl, rfl, rfl, HF⟩
  case rest =>
    obtain ⟨B, o5, n5, c5, z5, q5, m5, d5, rfl, rfl, rfl, HF⟩ := hcut
    clear HR HST
    obtain ⟨hB, hfar, hkw⟩ := unhide HF
    have HFAR := hide hfar
    have HKW := hide hkw
    have HLW := hide (lays_kept hkw (unhide HL))
    have y0 := cell_lays hB 0
    have y1 := cell_lays hB 1
    have y2 := cell_lays hB 2
    simp only [List.getElem?_toArray, List.getElem?_cons_zero, List.getElem?_cons_succ] at y0 y1 y2
    clear hB hfar hkw HF HL
    by_cases h3 : er = 3
    · subst h3
      go_wp2_with fail
      exact ⟨rfl, rfl, (unhide HD).kept (unhide HKW), .of (unhide HKW)⟩
    · have h3b : (er == 3) = false := by simpa using h3
      have x1 := cell_lays (unhide HLW) 1
      have x2 := cell_lays (unhide HLW) 2
      have x3 := cell_lays (unhide HLW) 3
      simp only [List.getElem?_toArray, List.getElem?_cons_zero, List.getElem?_cons_succ] at x1 x2 x3
      have f1 := frozen_lays (unhide HLW) 1
      have f2 := frozen_lays (unhide HLW) 2
      have f3 := frozen_lays (unhide HLW) 3
      obtain ⟨hd, hx⟩ := DkAt.put (unhide HLW) (unhide HFAR)
      have HP := hide (And.intro hd hx)
      clear hd hx
      go_wp2_with fail
      have hz : (((wc.setCell ⟨D, 1, none⟩ (.slice o5 n5 c5)).setCell ⟨D, 2, none⟩ (.int .i64 z5)).setCell ⟨D, 3, none⟩ (.slice q5 m5 d5)).heap.size = wc.heap.size := by simp
      have hT : TabW (((wc.setCell ⟨D, 1, none⟩ (.slice o5 n5 c5)).setCell ⟨D, 2, none⟩ (.int .i64 z5)).setCell ⟨D, 3, none⟩ (.slice q5 m5 d5)) := (unhide HT) _ ((KeptX.of (unhide HKW)).trans (unhide HP).2)
      generalize (((wc.setCell ⟨D, 1, none⟩ (.slice o5 n5 c5)).setCell ⟨D, 2, none⟩ (.int .i64 z5)).setCell ⟨D, 3, none⟩ (.slice q5 m5 d5)) = wp at HP hz hT ⊢
      have HN := hide (numbers_one wp wc.heap.size hz (k : Int) (unhide HKI) hT)
      have HT2 := hide hT
      have HZ := hide hz
      clear x1 x2 x3 f1 f2 f3 hT hz y0 y1 y2
      refine (unhide HN).mono ?_
      rintro _ w6 ⟨g6, rfl, hr6, k6⟩
      have HR6 := hide hr6
      have HK6 := hide k6
      clear hr6 k6 HN
      by_cases h0 : er = 0
      · subst h0
        go_wp2_with fail
        go_ret
        refine ⟨_, rfl, ?_, (unhide HP).1.kept (unhide HK6), ((KeptX.of (unhide HKW)).trans (unhide HP).2).trans (.of (unhide HK6))⟩
        have := (unhide HR6).low (a := w.heap.size) (by rw [unhide HZ]; exact (unhide HKW).size)
        simpa using this
      · have h0b : (er == 0) = false := by simpa using h0
        have h0c : (er != 0) = true := by rw [bne_iff_ne]; exact h0
        have HFT := hide (fault_any w6 er (unhide HEI) ((unhide HT2).kept (unhide HK6)))
        go_wp2_with fail
        refine (unhide HFT).mono ?_
        rintro _ w7 ⟨g7, p7, rfl, hr7, k7⟩
        obtain ⟨v8, w8, hrun, hr8, hb8⟩ := RowS.app ((unhide HR6).kept k7) (hr7.low (unhide HK6).size) (Nat.le_trans (unhide HK6).size k7.size) (by simp [numsD]) (by simp [faultD])
        have hr8 := hr8 (by simp [numsD, faultD])
        have hk8 : Kept wp w8 := Below.trans ((unhide HK6).trans k7) hb8
        have hw8 : w.heap.size ≤ wp.heap.size := by rw [unhide HZ]; exact (unhide HKW).size
        have HE : Hid (RowS w.heap.size w8 v8 (numsD [(k : Int)] ++ faultD er) ∧ DkAt w8 D vp s' ∧ KeptX D w w8) := hide ⟨hr8.low hw8, (unhide HP).1.kept hk8, ((KeptX.of (unhide HKW)).trans (unhide HP).2).trans (.of hk8)⟩
        have HRU := hide hrun
        obtain ⟨_, g8, c8, rfl⟩ := id hr8
        clear hrun hr8 hb8 hk8 k7 hr7 HFT
        generalize (numsD [(k : Int)] ++ faultD er).length = ln at *
        go_wp2_with (at_builtin; refine unhide ?_)
        refine hide ?_
        refine wpList_appR _ rfl _ _ 38 rfl rfl rfl (unhide HRU) ?_
        clear HRU
        go_wp2_with fail
        go_ret
        exact ⟨_, rfl, unhide HE⟩
end Go.Proofs.YtokhibfenccijaaGreatDoor
