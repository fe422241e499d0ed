/- FlowF, FlowG, StateT, StateA, StateS, StateU, StateD0, ForgeB -/
import Derived.Test.YtjioipkfnekigaaGreatDoorPB11
import Derived.Test.YtjioipkfnekigaaGreatDoorPB10
import Derived.Deep.DeepCutAuto
import Derived.Deep.RegionWith
import Derived.JoinedCond
import Derived.Test.YtjioipkfnekigaaGreatDoorPB01
import Derived.Test.YtjioipkfnekigaaGreatDoorPB02
import Derived.Test.YtjioipkfnekigaaGreatDoorPB03
set_option maxRecDepth 100000
set_option maxHeartbeats 8000000
namespace Go.Proofs.YtjioipkfnekigaaGreatDoor
open Go.RowKit Go.Shelf
theorem come_any (p : List Fn) (g : Fn) (oa : Option Addr) (lp cp : Nat) (oc : Option Addr) (lc cc B : Nat) (w0 : World) (hlc : lc = g.code.length) : ∀ (n : Nat) (H : List Int) (at_ : Nat) (h : Int) (w : World),
    ComeAt w0 w p g (.slice oa lp cp) (.slice oc lc cc) B H → 0 ≤ h → h ≤ 8 → unv H < n →
    Calls Tryz.prog 62 #[.agg #[.slice oa lp cp, .slice oc lc cc, .slice (some ⟨B, 0, none⟩) lc lc], .int .i64 at_, .int .i64 h] w fun e w' => ComePost p g n H at_ h B w e w'
  | 0, H, at_, h, w, _, _, _, hu => by omega
  | n + 1, H, at_, h, w, hw, h0, h8, hu => by
    by_cases h1 : lc ≤ at_
    · exact come_beyond n p g oa oc lp cp lc cc B H at_ h w hw.hs hlc (by omega)
    · by_cases h2 : H.getD at_ 0 = -1
      · obtain ⟨x, hx⟩ : ∃ x, g.code[at_]? = some x := ⟨_, List.getElem?_eq_getElem (by omega)⟩
        obtain ⟨oa', cap', he, _, hcell⟩ := id hw.code
        obtain ⟨b', o', rfl, x0, x1⟩ := hcell at_ x hx
        obtain ⟨rfl, -, -⟩ := (by simpa using he : oc = some ⟨b', o', none⟩ ∧ lc = g.code.length ∧ cc = cap')
        exact come_new n p g oa b' o' lp cp lc cc B H at_ h x w0 w hw hlc (by omega) hx x0 x1 h2 h0 h8 hu (fun H' at' h' w' a b c d => come_any p g oa lp cp _ lc cc B w0 hlc n H' at' h' w' a b c d)
      · exact come_seen n p g oa oc lp cp lc cc B H at_ h w hw.hs hlc hw.len (by omega) h2
def IntsAt (w : World) (v : Value) (l : List Int) : Prop :=
  ∃ oa cap, v = .slice oa l.length cap ∧ l.length ≤ 8796093022208 ∧ ∀ i z, l[i]? = some z → ∃ b o, oa = some ⟨b, o, none⟩ ∧ w.cell? ⟨b, o + i, none⟩ = some (.int .i64 z)
theorem IntsAt.kept {w w' : World} (h : Kept w w') {v : Value} {l : List Int} (hl : IntsAt w v l) : IntsAt w' v l := by
  obtain ⟨oa, cap, e, hn, hi⟩ := hl
  refine ⟨oa, cap, e, hn, fun i z hz => ?_⟩
  obtain ⟨b, o, e1, h1⟩ := hi i z hz
  exact ⟨b, o, e1, h.cell h1⟩
theorem IntsAt.nil (w : World) : IntsAt w (.slice none 0 0) [] := ⟨none, 0, rfl, by simp, fun i z h => by simp at h⟩
def hgtS (p : List Fn) (f : Int) : List Int × Int :=
  if chkS p f = 0 then
    match heightsS p (p.getD f.toNat Fn.zero).code with
    | some H => (H, 0)
    | none => ([], 1)
  else ([], chkS p f)
def HgtPost (p : List Fn) (f : Int) (w : World) (e : Ending) (w' : World) : Prop :=
  ∃ v, e = .returned (.tuple #[v, .int .i64 (hgtS p f).2]) ∧ IntsAt w' v (hgtS p f).1 ∧ Kept w w'
theorem heights_bad (p : List Fn) (v : Value) (f : Int) (w : World) (hp : ProgAt w v p) (hk : KindsAt w) (hz : chkS p f ≠ 0) :
    Calls Tryz.prog 40 #[v, .int .i64 f] w fun e w' => HgtPost p f w e w' := by
  obtain ⟨oa, cap, rfl, _, _⟩ := id hp
  have hz' : (chkS p f != 0) = true := by rw [bne_iff_ne]; exact hz
  have hr : hgtS p f = ([], chkS p f) := by unfold hgtS; rw [if_neg hz]
  have HR := hide hr
  have HP := hide hp
  have HK := hide hk
  clear hp hk hz hr
  go_enter Tryz.func40, Tryz.ntmps40
  go_wp2_with fail
  refine (check_any p _ f _ (unhide HP) (unhide HK)).mono ?_
  rintro e w1 ⟨rfl, hk1⟩
  have H1 := hide hk1
  clear hk1
  generalize hc : chkS p f = r at *
  have HC := hide hc
  clear hc
  go_wp2
  go_ret2
  exact ⟨.slice none 0 0, by rw [unhide HR]; rfl, by rw [unhide HR]; exact IntsAt.nil _, unhide H1⟩
theorem infoInt : (Tryz.prog.info? 3).map (fun i => (i.zero, i.size, i.bytes)) = some (some (.int .i64 0), 1, 8) := by kernel_rfl
theorem made_ints (m : Nat) : madeCells #[.int .i64 0] m = ((List.replicate m (0 : Int)).map (fun z => Value.int .i64 z)).toArray := by
  apply Array.ext
  · simp [madeCells]
  · intro i h1 h2
    simp [madeCells, Nat.mod_one]
theorem make_ints (m : Nat) (hm : m ≤ 1000000) (u : World) : (Instr.makeSlice 36 (.int .i64 m) (.int .i64 m)).run Tryz.prog u =
    .ok (.slice (some ⟨u.heap.size, 0, none⟩) m m) (u.alloc (.cells ((List.replicate m (0 : Int)).map (fun z => Value.int .i64 z)).toArray 3)) := by
  obtain ⟨i0, hi, hz0, hz1, hz2⟩ := info_parts infoInt
  have h := run_make (P := Tryz.prog) u 36 3 i0 (.int .i64 0) Tryz.underlying36 hi hz0 .i64 .i64 (m : Int) (m : Int) (by omega) (Int.le_refl _) (by rw [hz2]; omega) (by omega)
  rw [Int.toNat_natCast] at h
  rw [← made_ints]
  simpa [hz1, Value.cells] using h
theorem fill_step {k m : Nat} (h : k < m) : (List.replicate k (-1 : Int) ++ List.replicate (m - k) 0).set k (-1) = List.replicate (k + 1) (-1) ++ List.replicate (m - (k + 1)) 0 := by
  obtain ⟨d, rfl⟩ : ∃ d, m = k + 1 + d := ⟨m - (k + 1), by omega⟩
  rw [List.set_append_right _ _ (by simp)]
  have e1 : k + 1 + d - k = d + 1 := by omega
  have e2 : k + 1 + d - (k + 1) = d := by omega
  rw [e1, e2, List.replicate_succ]
  simp [List.replicate_succ', List.append_assoc]
theorem heights_zero {w : World} {B m : Nat} (h : w.heap[B]? = some (.cells (Array.replicate m (.int .i64 0)) 3)) : HeightsAt w B (List.replicate m 0) := by
  unfold HeightsAt
  rw [h]
  simp
theorem heights_try (p : List Fn) (g : Fn) (i b o cap : Nat) (oc : Option Addr) (m cc : Nat) (w : World) (hk : KindsAt w) (hp : ProgAt w (.slice (some ⟨b, o, none⟩) p.length cap) p) (hi : i < p.length) (hg : p.getD i Fn.zero = g)
    (c2 : w.cell? ⟨b, o + i * 3 + 2, none⟩ = some (.slice oc m cc)) (hc : CodeAt w (.slice oc m cc) g.code) (hml : m = g.code.length) (hm : m ≤ 24) (hz : chkS p i = 0) (hops : opsS p g g.code = 0) :
    Calls Tryz.prog 40 #[.slice (some ⟨b, o, none⟩) p.length cap, .int .i64 i] w fun e w' => HgtPost p i w e w' := by
  have HK := hide hk
  have HP := hide hp
  have HG := hide hg
  have HC := hide hc
  have HL := hide hml
  have HZ := hide hz
  have HO := hide hops
  have C2 := hide c2
  clear hk hp hg hc hml hz hops c2
  go_enter Tryz.func40, Tryz.ntmps40
  go_wp2_with fail
  refine (check_is p _ i 0 _ (unhide HP) (unhide HK) (unhide HZ)).mono ?_
  rintro e w1 ⟨rfl, hk1⟩
  have d2 := hk1.cell (unhide C2)
  have H1 := hide hk1
  clear hk1
  have d2' : ∀ o1, (w1.alloc o1).cell? ⟨b, o + i * 3 + 2, none⟩ = some (.slice oc m cc) := fun o1 => ((Kept.refl w1).alloc o1).cell d2
  have d2'' : ∀ o1 o2, ((w1.alloc o1).alloc o2).cell? ⟨b, o + i * 3 + 2, none⟩ = some (.slice oc m cc) := fun o1 o2 => (((Kept.refl w1).alloc o1).alloc o2).cell d2
  have hmk := make_ints m (by omega)
  go_wp2_with fail
  go_cut [7] (fun s7 wx => ∃ B Bw, s7 = .pointer (some ⟨Bw, 0, none⟩) ∧ Hid (wx.heap[Bw]? = some (.cells #[.slice (some ⟨b, o, none⟩) p.length cap, .slice oc m cc, .slice (some ⟨B, 0, none⟩) m m] 109)) ∧ Hid (HeightsAt wx B (List.replicate m 0)) ∧ w1.heap.size ≤ B ∧ w1.heap.size ≤ Bw ∧ B ≠ Bw ∧ Hid (Kept w1 wx))
  case first =>
    go_region
    all_goals go_wp2_with fail
    all_goals go_meet
    · exact ⟨w1.heap.size, w1.heap.size + 1, rfl, hide (lays_drew (lays_new (by simp))), hide (heights_zero (lays_drew (lays_alloc (lays_new rfl) _))), Nat.le_refl _, Nat.le_succ _, by omega, hide ((((Kept.refl _).alloc _).alloc _).drew)⟩
    · exact ⟨w1.heap.size + 1, w1.heap.size, rfl, hide (lays_drew (lays_alloc (lays_new rfl) _)), hide (heights_zero (lays_drew (lays_new (by simp)))), Nat.le_succ _, Nat.le_refl _, by omega, hide ((((Kept.refl _).alloc _).alloc _).drew)⟩
  case rest =>
    obtain ⟨B, Bw, rfl, L0, HH0, hB, hBw, hne, HK1⟩ := hcut
    have e2 := cell_lays (unhide L0) 2
    simp only [List.getElem?_toArray, List.getElem?_cons_zero, List.getElem?_cons_succ] at e2
    clear d2 d2' d2'' hmk
    go_wp2
    go_loopw [32] (fun s32 wr => ∃ k : Nat, k ≤ m ∧ s32 = .int .i64 k ∧ Hid (wr.heap[Bw]? = some (.cells #[.slice (some ⟨b, o, none⟩) p.length cap, .slice oc m cc, .slice (some ⟨B, 0, none⟩) m m] 109)) ∧ Hid (HeightsAt wr B (List.replicate k (-1) ++ List.replicate (m - k) 0)) ∧ Hid (Kept w1 wr)) (fun s32 _ => m - (intOf s32).toNat)
    case atStart => exact ⟨0, Nat.zero_le _, rfl, L0, by simpa using HH0, HK1⟩
    case round =>
      obtain ⟨k, hkm, rfl, L0r, HHr, HKr⟩ := hrel
      have f0 := cell_lays (unhide L0r) 0
      have f1 := cell_lays (unhide L0r) 1
      have f2 := cell_lays (unhide L0r) 2
      simp only [List.getElem?_toArray, List.getElem?_cons_zero, List.getElem?_cons_succ] at f0 f1 f2
      by_cases hlt : k < m
      · have q := (unhide HHr).cell (k := k) (by simp; omega)
        have q' := (unhide HHr).frozen k
        have hset := (unhide HHr).set k (-1)
        rw [fill_step hlt] at hset
        have HSET := hide hset
        generalize (List.replicate k (-1 : Int) ++ List.replicate (m - k) 0).getD k 0 = z at q
        clear hset
        go_wp2
        go_roundw
        case rel => exact ⟨k + 1, by omega, by go_num, lays_other (unhide L0r) (fun e => hne e.symm) _, unhide HSET, (unhide HKr).setCell (p := ⟨B, k, none⟩) hB _⟩
        case measure => simp [intOf]; omega
      · have hke : k = m := by omega
        have hst : List.replicate k (-1 : Int) ++ List.replicate (m - k) 0 = start g.code := by
          have := unhide HL
          rw [hke, Nat.sub_self]
          simp [start, this]
        have hHs := unhide HHr
        rw [hst] at hHs
        have hu := unv_le (start g.code)
        rw [show (start g.code).length = g.code.length by simp [start]] at hu
        have hright : ∀ x, x ∈ g.code → opS p g x = 0 := fun x hx => opsS_all (unhide HO) x hx
        have hcm := come_any p g (some ⟨b, o, none⟩) p.length cap oc m cc B w1 (unhide HL) (g.code.length + 1) (start g.code) 0 0 wr ⟨(unhide HP).kept (unhide H1), (unhide HC).kept (unhide H1), (unhide HK).kept (unhide H1), hright, by have := unhide HL; omega, unhide HKr, hB, hHs, by simp [start]⟩ (by omega) (by omega) (by omega)
        have HCM := hide hcm
        have HRT := hide hright
        clear hcm hright hu hHs hst hke
        go_wp2_with fail
        refine (unhide HCM).mono ?_
        clear HCM
        rintro e w2 ⟨bb, H2, hc2, rfl, hH2, hk2⟩
        have hgt : hgtS p i = match heightsS p g.code with | some H => (H, 0) | none => ([], 1) := by
          unfold hgtS
          rw [if_pos (unhide HZ), Int.toNat_natCast, unhide HG]
        have hkw : Kept w w2 := (unhide H1).trans (KeptX.kept (unhide HKr) hB hk2)
        have g2 := cell_lays (hk2.lays (fun e => hne e.symm) (unhide L0r)) 2
        simp only [List.getElem?_toArray, List.getElem?_cons_zero, List.getElem?_cons_succ] at g2
        have HGT := hide hgt
        have HKW := hide hkw
        have HC2 := hide hc2
        have HH2 := hide hH2
        clear hgt hkw hc2 hH2 hk2 f0 f1 f2
        have hR : Right p g.code := ⟨g, rfl, unhide HRT⟩
        cases bb with
        | false =>
          have hn : heightsS p g.code = none := by
            cases hh : heightsS p g.code with
            | none => rfl
            | some H =>
              have := (way_heights hR).2 H hh
              unfold wayS at this
              rw [unhide HC2] at this
              cases this
          have HN := hide hn
          clear hn hR
          go_wp2
          go_ret2
          have hgt := unhide HGT
          rw [unhide HN] at hgt
          exact ⟨.slice none 0 0, by rw [hgt]; rfl, by rw [hgt]; exact IntsAt.nil _, unhide HKW⟩
        | true =>
          have hs : heightsS p g.code = some H2 := (way_heights hR).1 H2 (unhide HC2)
          have hlen : H2.length = m := by rw [(heightsS_ok hR hs).1.len]; exact (unhide HL).symm
          have HS := hide hs
          have HLN := hide hlen
          clear hs hlen hR
          go_wp2
          go_ret2
          have hgt := unhide HGT
          rw [unhide HS] at hgt
          refine ⟨.slice (some ⟨B, 0, none⟩) m m, by rw [hgt]; rfl, ?_, unhide HKW⟩
          rw [hgt]
          have hlen := unhide HLN
          refine ⟨_, m, by rw [hlen], by simp only; omega, fun k z hz => ⟨B, 0, rfl, ?_⟩⟩
          have hk := (List.getElem?_eq_some_iff.1 hz).1
          have := (unhide HH2).cell (k := k) hk
          rw [Nat.zero_add, this]
          simp [List.getD, hz]
theorem heights_any (p : List Fn) (v : Value) (f : Int) (w : World) (hp : ProgAt w v p) (hk : KindsAt w) :
    Calls Tryz.prog 40 #[v, .int .i64 f] w fun e w' => HgtPost p f w e w' := by
  by_cases hz : chkS p f = 0
  · obtain ⟨i, rfl, hi, hm, hr, hops⟩ := chkS_zero hz
    obtain ⟨oa, cap, rfl, hl, hcell⟩ := id hp
    obtain ⟨b, o, cv, rfl, c0, c1, c2, hc⟩ := hcell i _ (getD_of_lt p i Fn.zero hi)
    obtain ⟨oc, cc, rfl, _, _⟩ := id hc
    exact heights_try p _ i b o cap oc _ cc w hk hp hi rfl c2 hc rfl hm hz hops
  · exact heights_bad p v f w hp hk hz
structure Fr where
  fn : Int
  at_ : Int
  locals : List Int
  stack : List Int
structure Fb where
  frames : List Fr
  caller : Int
structure St where
  fibers : List Fb
  now : Int
  out : List Int
def Fr.zero : Fr := ⟨0, 0, [], []⟩
def Fb.zero : Fb := ⟨[], 0⟩
def St.zero : St := ⟨[], 0, []⟩
open Go.RowKit
theorem IntsAt.wide {w : World} {v : Value} {l : List Int} (h : IntsAt w v l) : IntsW w v l := by
  obtain ⟨oa, cap, e, hn, hi⟩ := h
  exact ⟨oa, cap, e, by omega, hi⟩
def FramesAt (w : World) (v : Value) (l : List Fr) : Prop :=
  ∃ oa cap, v = .slice oa l.length cap ∧ (l.length ≤ 8796093022208 ∧ l.length ≤ cap) ∧ ∀ i f, l[i]? = some f → ∃ b o vl vs, oa = some ⟨b, o, none⟩ ∧
    w.cell? ⟨b, o + i * 4, none⟩ = some (.int .i64 f.fn) ∧ w.cell? ⟨b, o + i * 4 + 1, none⟩ = some (.int .i64 f.at_) ∧
    w.cell? ⟨b, o + i * 4 + 2, none⟩ = some vl ∧ w.cell? ⟨b, o + i * 4 + 3, none⟩ = some vs ∧ IntsW w vl f.locals ∧ IntsW w vs f.stack
def FibersAt (w : World) (v : Value) (l : List Fb) : Prop :=
  ∃ oa cap, v = .slice oa l.length cap ∧ l.length ≤ 8796093022208 ∧ ∀ i f, l[i]? = some f → ∃ b o vf, oa = some ⟨b, o, none⟩ ∧
    w.cell? ⟨b, o + i * 2, none⟩ = some vf ∧ w.cell? ⟨b, o + i * 2 + 1, none⟩ = some (.int .i64 f.caller) ∧ FramesAt w vf f.frames
def StAt (w : World) (v : Value) (s : St) : Prop :=
  ∃ vf vo, v = .agg #[vf, .int .i64 s.now, vo] ∧ FibersAt w vf s.fibers ∧ IntsW w vo s.out
theorem FramesAt.kept {w w' : World} (h : Kept w w') {v : Value} {l : List Fr} (hl : FramesAt w v l) : FramesAt w' v l := by
  obtain ⟨oa, cap, e, hn, hi⟩ := hl
  refine ⟨oa, cap, e, hn, fun i f hf => ?_⟩
  obtain ⟨b, o, vl, vs, e1, h1, h2, h3, h4, h5, h6⟩ := hi i f hf
  exact ⟨b, o, vl, vs, e1, h.cell h1, h.cell h2, h.cell h3, h.cell h4, h5.kept h, h6.kept h⟩
theorem FibersAt.kept {w w' : World} (h : Kept w w') {v : Value} {l : List Fb} (hl : FibersAt w v l) : FibersAt w' v l := by
  obtain ⟨oa, cap, e, hn, hi⟩ := hl
  refine ⟨oa, cap, e, hn, fun i f hf => ?_⟩
  obtain ⟨b, o, vf, e1, h1, h2, h3⟩ := hi i f hf
  exact ⟨b, o, vf, e1, h.cell h1, h.cell h2, h3.kept h⟩
theorem StAt.kept {w w' : World} (h : Kept w w') {v : Value} {s : St} (hs : StAt w v s) : StAt w' v s := by
  obtain ⟨vf, vo, e, h1, h2⟩ := hs
  exact ⟨vf, vo, e, h1.kept h, h2.kept h⟩
theorem FramesAt.nil (w : World) : FramesAt w (.slice none 0 0) [] := ⟨none, 0, rfl, by simp, fun i z h => by simp at h⟩
theorem FibersAt.nil (w : World) : FibersAt w (.slice none 0 0) [] := ⟨none, 0, rfl, by simp, fun i z h => by simp at h⟩
def hgt (p : List Fn) (k : Nat) : List Int := (heightsS p (codeOf p k)).getD []
def hAt (p : List Fn) (x : Fr) : Int := (hgt p x.fn.toNat).getD x.at_.toNat 0
def frameB (p : List Fn) (x : Fr) : Bool :=
  ixB x.fn p.length && (decide ((x.locals.length : Int) = (p.getD x.fn.toNat Fn.zero).locals) && (ixB x.at_ (codeOf p x.fn.toNat).length && decide (0 ≤ hAt p x)))
def Marks (n : Nat) (B : List Bool) (l : List Int) : Prop := B.length = n ∧ ∀ i : Nat, i < n → B.getD i false = decide ((i : Int) ∈ l)
theorem Marks.set {n : Nat} {B : List Bool} {l : List Int} (h : Marks n B l) {z : Int} (h0 : 0 ≤ z) (_hz : z < n) : Marks n (B.set z.toNat true) (l ++ [z]) := by
  refine ⟨by simp [h.1], fun i hi => ?_⟩
  have := h.2 i hi
  by_cases e : z.toNat = i
  · subst e
    simp [List.getD, h.1, hi]
    right; omega
  · have hne : ¬ ((i : Int) = z) := by omega
    simp [List.getD, e, hne] at this ⊢
    rw [this]
def FrV (w : World) (v : Value) (x : Fr) : Prop := ∃ vl vs, v = .agg #[.int .i64 x.fn, .int .i64 x.at_, vl, vs] ∧ IntsW w vl x.locals ∧ IntsW w vs x.stack
def FbV (w : World) (v : Value) (b : Fb) : Prop := ∃ vf, v = .agg #[vf, .int .i64 b.caller] ∧ FramesAt w vf b.frames
theorem FrV.kept {w w' : World} (h : Kept w w') {v : Value} {x : Fr} (hx : FrV w v x) : FrV w' v x := by
  obtain ⟨vl, vs, e, h1, h2⟩ := hx; exact ⟨vl, vs, e, h1.kept h, h2.kept h⟩
theorem FbV.kept {w w' : World} (h : Kept w w') {v : Value} {x : Fb} (hx : FbV w v x) : FbV w' v x := by
  obtain ⟨vl, e, h1⟩ := hx; exact ⟨vl, e, h1.kept h⟩
structure InFrame (p : List Fn) (x : Fr) : Prop where
  fn0 : 0 ≤ x.fn
  fn1 : x.fn < p.length
  at0 : 0 ≤ x.at_
  at1 : x.at_ < (codeOf p x.fn.toNat).length
theorem InFrame.of {p : List Fn} {x : Fr} (h : frameB p x = true) : InFrame p x := by
  simp only [frameB, Bool.and_eq_true, ixB_iff, decide_eq_true_eq] at h
  exact ⟨h.1.1, h.1.2, h.2.2.1.1, h.2.2.1.2⟩
open Go.RowKit Go.Maps
theorem take_oneF {P : Program} {md : Region.Mode} {Q : Exit → Act → World → Prop} {S : World → Prop} {L tl : List Oper} {i : Nat} {oi : Oper} {fuel : Nat} {listed : Array Bool} {a : Act} {w : World} (hd : L.drop i = oi :: tl)
    (hr : Region.ready md L.toArray listed = [i])
    (h : ∀ K' : Act → World → Prop, Shut (∀ a w, S w → (S w → wpAnyH P md L.toArray Q S fuel (listed.setIfInBounds i true) a w) → K' a w) → if Region.wanted oi (yielded L.toArray a.tmps) = true then Oper.wp P oi a w K' Q else K' (a.put oi.dst undef) w) :
    wpAnyH P md L.toArray Q S (fuel + 1) listed a w :=
  wpAnyH_ready hr (by simp) (AllReadyH.cons (at_drop hd) h AllReadyH.nil)
theorem flatOps_set : ∀ (c : List (Int × Int)) (i : Nat) (k v0 v : Int), c[i]? = some (k, v0) → flatOps (c.set i (k, v)) = (flatOps c).set (i * 2 + 1) (.int .i64 v)
  | [], i, _, _, _, h => by simp at h
  | x :: c, 0, k, v0, v, h => by
    obtain rfl : x = (k, v0) := by simpa using h
    simp [flatOps]
  | x :: c, i + 1, k, v0, v, h => by
    have := flatOps_set c i k v0 v (by simpa using h)
    have e : (i + 1) * 2 + 1 = (i * 2 + 1) + 2 := by omega
    rw [e]
    simp only [flatOps, List.set_cons_succ, List.flatMap_cons] at this ⊢
    rw [this]
    rfl
theorem SmAt.turn {w0 w : World} {B : Nat} {e c : List (Int × Int)} (h : SmAt w0 w B e c) {i : Nat} {k v0 : Int} (hi : c[i]? = some (k, v0)) :
    ∃ g cap, w.cell? ⟨B, 1, none⟩ = some (.slice (some ⟨g, 0, none⟩) c.length cap) ∧ w.cell? ⟨g, i * 2 + 1, none⟩ = some (.int .i64 v0) ∧ w.frozen? ⟨g, i * 2 + 1, none⟩ = false ∧ g ≠ B ∧ ∀ v, SmAt w0 (w.setCell ⟨g, i * 2 + 1, none⟩ (.int .i64 v)) B e (c.set i (k, v)) ∧ SmK B w (w.setCell ⟨g, i * 2 + 1, none⟩ (.int .i64 v)) := by
  obtain ⟨lv, cv, hB, hlow, hnd, hrow, hoff, hk⟩ := h
  have hil : i < c.length := (List.getElem?_eq_some_iff.1 hi).1
  rcases hrow.2 with ⟨_, h0⟩ | ⟨g, cap, cur, rfl, hb, hg, hnc, hcm, hcs, ht⟩
  · omega
  · have hgB : g ≠ B := fun e => hoff (by rw [e]; rfl)
    have hcell : w.cell? ⟨g, i * 2 + 1, none⟩ = some (.int .i64 v0) := by
      rw [cell_lays hg]
      have h2 := (flatOps_at c i _ hi).2
      rw [← ht, List.getElem?_take_of_lt (by omega)] at h2
      simpa using h2
    refine ⟨g, cap, cell_lays hB 1, hcell, frozen_lays hg _, hgB, fun v => ⟨⟨lv, _, ?_, hlow, hnd, ?_, hoff, hk.setCell hb _⟩, ?_⟩⟩
    · exact lays_other hB (Ne.symm hgB) _
    · rw [flatOps_set c i k v0 v hi, List.length_set]
      exact (hrow.stored _ _).1
    · refine ⟨by simp [World.setCell], fun b cv hb hn hc ho => ⟨Below.heap_setCell _ _ _ _ (fun e => ?_), cv, (cell_lays (lays_other hB (Ne.symm hgB) _) 1).trans ((cell_lays hB 1).symm.trans hc), ho⟩⟩
      rw [cell_lays hB 1] at hc
      cases hc
      exact ho (by rw [e]; rfl)
theorem SmAt.drew {w0 w : World} {B : Nat} {e c : List (Int × Int)} (h : SmAt w0 w B e c) : SmAt w0 w.drew B e c := by
  obtain ⟨lv, cv, hB, hlow, hnd, hrow, hoff, hk⟩ := h
  exact ⟨lv, cv, hB, hlow, hnd, hrow, hoff, hk.drew⟩
def PartC (w0 : World) (B n : Nat) : Prop := ∀ (o : Int) (e c : List (Int × Int)) (w : World), e.length ≤ n → 1 ≤ o → onlyS e o = true → (∀ x ∈ e, kindOk x) → (∀ x ∈ e, 2 ≤ x.1 → x.2 = 0) → c.length + 2 * e.length ≤ 60 → SmAt w0 w B e c →
  Calls Tryz.prog 55 #[.pointer (some ⟨B, 0, none⟩)] w fun en w' => en = .returned (.tuple #[]) ∧ SmAt w0 w' B (valS [] n e).2 (c ++ (layS n e c.length).1) ∧ SmK B w w'
theorem lay_lenV (vals : List Int) : ∀ (n : Nat) (e : List (Int × Int)) (o : Int) (h : Nat), e.length ≤ n → 1 ≤ o → onlyS e o = true → (∀ x ∈ e, kindOk x) → (layS n e h).1.length ≤ 2 * (e.length - (valS vals n e).2.length)
  | n, [], o, _, _, ho, h, _ => by simp [onlyS] at h; omega
  | 0, x :: r, o, _, hl, _, _, _ => by simp at hl
  | n + 1, x :: r, o, h, hl, ho, ho1, hk => by
    have hx := hk x (by simp)
    have hr : ∀ y ∈ r, kindOk y := fun y hy => hk y (by simp [hy])
    have hl' : r.length ≤ n := by simpa using hl
    simp only [onlyS] at ho1
    rw [if_neg (by omega)] at ho1
    unfold kindOk at hx
    unfold layS valS
    by_cases h0 : x.1 = 0
    · simp [h0]
    · simp only [h0, if_false]
      by_cases h1 : x.1 = 1
      · simp [h1]
      · simp only [h1, if_false]
        obtain ⟨_, _, a3⟩ := lay_hg n r h 0 vals
        by_cases h7 : x.1 = 7
        · simp only [h7, if_true]
          have hp : partsS x.1 = 3 := by rw [h7]; rfl
          rw [hp] at ho1
          obtain ⟨j1, p1, q1, e1, o1⟩ := val_rest vals n r (o - 1 + 3) hl' (by omega) ho1 hr
          have k1 : ∀ y ∈ (valS vals n r).2, kindOk y := by rw [e1]; exact fun y hy => hr y (List.mem_of_mem_drop hy)
          have w1 : (valS vals n r).2.length = r.length - j1 := by rw [e1]; simp
          obtain ⟨j2, p2, q2, e2, o2⟩ := val_rest vals n _ (o - 1 + 3 - 1) (by omega) (by omega) o1 k1
          have k2 : ∀ y ∈ (valS vals n (valS vals n r).2).2, kindOk y := by rw [e2]; exact fun y hy => k1 y (List.mem_of_mem_drop hy)
          have w2 : (valS vals n (valS vals n r).2).2.length = (valS vals n r).2.length - j2 := by rw [e2]; simp
          obtain ⟨j3, p3, q3, e3, o3⟩ := val_rest vals n _ (o - 1 + 3 - 1 - 1) (by omega) (by omega) o2 k2
          have w3 : (valS vals n (valS vals n (valS vals n r).2).2).2.length = (valS vals n (valS vals n r).2).2.length - j3 := by rw [e3]; simp
          rw [a3]
          obtain ⟨_, _, b3⟩ := lay_hg n (valS vals n r).2 (h + (layS n r h).1.length + 1) 0 vals
          rw [b3]
          have sa := lay_lenV vals n r (o - 1 + 3) h hl' (by omega) ho1 hr
          have sb := lay_lenV vals n _ (o - 1 + 3 - 1) (h + (layS n r h).1.length + 1) (by omega) (by omega) o1 k1
          have sd := lay_lenV vals n _ (o - 1 + 3 - 1 - 1) (h + (layS n r h).1.length + 1 + (layS n (valS vals n r).2 (h + (layS n r h).1.length + 1)).1.length + 1) (by omega) (by omega) o2 k2
          simp only [List.length_append, List.length_cons]
          generalize layS n r h = A at *
          generalize layS n (valS vals n r).2 (h + A.1.length + 1) = B at *
          generalize layS n (valS vals n (valS vals n r).2).2 (h + A.1.length + 1 + B.1.length + 1) = D at *
          omega
        · simp only [h7, if_false]
          have hp : partsS x.1 = 2 := by unfold partsS; rw [if_neg (by omega), if_pos (by omega)]
          rw [hp] at ho1
          obtain ⟨j1, p1, q1, e1, o1⟩ := val_rest vals n r (o - 1 + 2) hl' (by omega) ho1 hr
          have k1 : ∀ y ∈ (valS vals n r).2, kindOk y := by rw [e1]; exact fun y hy => hr y (List.mem_of_mem_drop hy)
          have w1 : (valS vals n r).2.length = r.length - j1 := by rw [e1]; simp
          obtain ⟨j2, p2, q2, e2, o2⟩ := val_rest vals n _ (o - 1 + 2 - 1) (by omega) (by omega) o1 k1
          have w2 : (valS vals n (valS vals n r).2).2.length = (valS vals n r).2.length - j2 := by rw [e2]; simp
          rw [a3]
          have sa := lay_lenV vals n r (o - 1 + 2) h hl' (by omega) ho1 hr
          have sb := lay_lenV vals n _ (o - 1 + 2 - 1) (h + (layS n r h).1.length) (by omega) (by omega) o1 k1
          simp only [List.length_append, List.length_cons, List.length_nil]
          generalize layS n r h = A at *
          generalize layS n (valS vals n r).2 (h + A.1.length) = B at *
          omega
theorem lay_len (n : Nat) (e : List (Int × Int)) (o : Int) (h : Nat) (hl : e.length ≤ n) (ho : 1 ≤ o) (h1 : onlyS e o = true) (hk : ∀ x ∈ e, kindOk x) : (layS n e h).1.length ≤ 2 * (e.length - (valS [] n e).2.length) := lay_lenV [] n e o h hl ho h1 hk
theorem choice_any (w0 : World) (B n : Nat) (HP : Hid (PartC w0 B n)) (o : Int) (r c : List (Int × Int)) (w : World) (hl : r.length ≤ n) (ho : 3 ≤ o) (ho1 : onlyS r o = true) (hr : ∀ x ∈ r, kindOk x) (hz : ∀ x ∈ r, 2 ≤ x.1 → x.2 = 0) (hc : c.length + 2 * r.length + 2 ≤ 60) (h : SmAt w0 w B r c) :
    Calls Tryz.prog 73 #[.pointer (some ⟨B, 0, none⟩)] w fun en w' => en = .returned (.tuple #[]) ∧ SmAt w0 w' B (valS [] n (valS [] n (valS [] n r).2).2).2
      (c ++ ((layS n r c.length).1 ++ ((10, ((c.length + (layS n r c.length).1.length + 1 + (layS n (valS [] n r).2 (c.length + (layS n r c.length).1.length + 1)).1.length + 1 : Nat) : Int)) :: ((layS n (valS [] n r).2 (c.length + (layS n r c.length).1.length + 1)).1 ++ ((9, ((c.length + (layS n r c.length).1.length + 1 + (layS n (valS [] n r).2 (c.length + (layS n r c.length).1.length + 1)).1.length + 1 + (layS n (valS [] n (valS [] n r).2).2 (c.length + (layS n r c.length).1.length + 1 + (layS n (valS [] n r).2 (c.length + (layS n r c.length).1.length + 1)).1.length + 1)).1.length : Nat) : Int)) :: (layS n (valS [] n (valS [] n r).2).2 (c.length + (layS n r c.length).1.length + 1 + (layS n (valS [] n r).2 (c.length + (layS n r c.length).1.length + 1)).1.length + 1)).1))))) ∧ SmK B w w' := by
  obtain ⟨j1, p1, q1, e1, o1⟩ := val_rest [] n r o hl (by omega) ho1 hr
  have k1 : ∀ y ∈ (valS [] n r).2, kindOk y := by rw [e1]; exact fun y hy => hr y (List.mem_of_mem_drop hy)
  have x1 : ∀ y ∈ (valS [] n r).2, 2 ≤ y.1 → y.2 = 0 := by rw [e1]; exact fun y hy => hz y (List.mem_of_mem_drop hy)
  have l1 : (valS [] n r).2.length ≤ n := by rw [e1]; simp; omega
  obtain ⟨j2, p2, q2, e2, o2⟩ := val_rest [] n _ (o - 1) l1 (by omega) o1 k1
  have k2 : ∀ y ∈ (valS [] n (valS [] n r).2).2, kindOk y := by rw [e2]; exact fun y hy => k1 y (List.mem_of_mem_drop hy)
  have x2 : ∀ y ∈ (valS [] n (valS [] n r).2).2, 2 ≤ y.1 → y.2 = 0 := by rw [e2]; exact fun y hy => x1 y (List.mem_of_mem_drop hy)
  have l2 : (valS [] n (valS [] n r).2).2.length ≤ n := by rw [e2]; simp; omega
  have w1 : (valS [] n r).2.length = r.length - j1 := by rw [e1]; simp
  have w2 : (valS [] n (valS [] n r).2).2.length = (valS [] n r).2.length - j2 := by rw [e2]; simp
  have m1 := lay_len n r o c.length hl (by omega) ho1 hr
  have m2 := lay_len n (valS [] n r).2 (o - 1) (c.length + (layS n r c.length).1.length + 1) l1 (by omega) o1 k1
  have H1 := hide ((unhide HP) o r c w hl (by omega) ho1 hr hz (by omega) h)
  have HP2 : Hid (∀ cc u, cc.length = c.length + (layS n r c.length).1.length + 1 → SmAt w0 u B (valS [] n r).2 cc → _) := hide (fun cc u hcc hu => (unhide HP) (o - 1) (valS [] n r).2 cc u l1 (by omega) o1 k1 x1 (by omega) hu)
  have HP3 : Hid (∀ cc u, cc.length = c.length + (layS n r c.length).1.length + 1 + (layS n (valS [] n r).2 (c.length + (layS n r c.length).1.length + 1)).1.length + 1 → SmAt w0 u B (valS [] n (valS [] n r).2).2 cc → _) := hide (fun cc u hcc hu => (unhide HP) (o - 1 - 1) (valS [] n (valS [] n r).2).2 cc u l2 (by omega) o2 k2 x2 (by omega) hu)
  generalize hA : (layS n r c.length).1 = A at *
  generalize hB : (layS n (valS [] n r).2 (c.length + A.length + 1)).1 = D at *
  generalize valS [] n r = V1 at *
  generalize valS [] n V1.2 = V2 at *
  generalize hC : (layS n V2.2 (c.length + A.length + 1 + D.length + 1)).1 = E at *
  generalize hZ : c.length + A.length = Z at *
  generalize hJ : Z + 1 + D.length = J at *
  generalize hT : J + 1 = T at *
  have HZ := hide (And.intro hZ (And.intro hJ hT))
  have HL := hide (And.intro hB hC)
  have hcap : T ≤ 60 := by omega
  clear h hz x1 x2 e1 e2 o1 o2 k1 k2 hZ hJ hT hB hC hA m1 m2
  go_enter Tryz.func73, Tryz.ntmps73
  go_wp2_with fail
  refine (unhide H1).mono ?_
  rintro _ u1 ⟨rfl, s1, t1⟩
  have HT1 := hide t1
  clear t1
  have hl1 : (c ++ A).length = Z := by rw [List.length_append]; exact (unhide HZ).1
  have H2 := hide (smPut_any w0 u1 B V1.2 (c ++ A) 10 0 s1 (by have := unhide HZ; omega))
  rw [hl1] at H2
  clear s1 H1
  go_wp2_with fail
  refine (unhide H2).mono ?_
  rintro _ u2 ⟨rfl, s2, t2⟩
  have HT2 := hide ((unhide HT1).trans t2)
  clear t2 HT1
  have hl2 : (c ++ A ++ [((10 : Int), (0 : Int))]).length = Z + 1 := by rw [List.length_append, hl1]; rfl
  have H3 := hide ((unhide HP2) _ u2 hl2 s2)
  rw [hl2, (unhide HL).1] at H3
  clear s2 H2 HP2
  go_wp2_with fail
  refine (unhide H3).mono ?_
  rintro _ u3 ⟨rfl, s3, t3⟩
  have HT3 := hide ((unhide HT2).trans t3)
  clear t3 HT2
  have hl3 : (c ++ A ++ [((10 : Int), (0 : Int))] ++ D).length = J := by rw [List.length_append, hl2]; exact (unhide HZ).2.1
  have H4 := hide (smPut_any w0 u3 B V2.2 _ 9 0 s3 (by have := unhide HZ; omega))
  rw [hl3] at H4
  clear s3 H3
  go_wp2_with fail
  refine (unhide H4).mono ?_
  rintro _ u4 ⟨rfl, s4, t4⟩
  have HT4 := hide ((unhide HT3).trans t4)
  clear t4 HT3
  clear H4
  have hl4 : (c ++ A ++ [((10 : Int), (0 : Int))] ++ D ++ [((9 : Int), (0 : Int))]).length = T := by rw [List.length_append, hl3]; exact (unhide HZ).2.2
  have hat : (c ++ A ++ [((10 : Int), (0 : Int))] ++ D ++ [((9 : Int), (0 : Int))])[Z]? = some (10, 0) := by
    rw [List.append_assoc _ D, List.append_assoc (c ++ A), List.getElem?_append_right (by omega), hl1]
    simp
  have hcs : ∀ v, (c ++ A ++ [((10 : Int), (0 : Int))] ++ D ++ [((9 : Int), (0 : Int))]).set Z (10, v) = c ++ A ++ [(10, v)] ++ D ++ [(9, 0)] := fun v => by
    rw [List.append_assoc _ D, List.append_assoc (c ++ A), List.set_append_right _ _ (by omega), hl1, Nat.sub_self]
    simp
  obtain ⟨g, cap, z1, z2, z3, hgB, hset⟩ := s4.turn hat
  have HT9 := hide ((unhide HT4).trans (hset (T : Int)).2.drew)
  clear HT4
  have hset' := (hset (T : Int)).1.drew
  rw [hcs] at hset'
  rw [hl4] at z1
  have HS := hide hset'
  have hZT : (Z : Int) < (T : Int) := by have := unhide HZ; omega
  have hZ0 : (0 : Int) ≤ (Z : Int) := by omega
  have hl3' : (c ++ A ++ [((10 : Int), (T : Int))] ++ D).length = J := by simpa using hl3
  have hl5 : (c ++ A ++ [((10 : Int), (T : Int))] ++ D ++ [((9 : Int), (0 : Int))]).length = T := by simpa using hl4
  clear s4 hat hset hset' hcs
  go_wp2_with fail
  refine wp_region_held_drew (S := fun y => y.cell? ⟨B, 1, none⟩ = some (.slice (some ⟨g, 0, none⟩) T cap)) (by kernel_rfl) z1 (fun hHeld => ?_)
  refine planY [0, 1, 2, 3, 4, 5, 6, 7, 8, 9, 10, 11] ?_
  repeat
    refine takeY (v := ?_) hHeld (fun u hSu => ?_) ?_
    rotate_left
    · ((try dsimp only at hSu); go_simp) <;> with_reducible rfl
    try simp only [Act.put, List.setIfInBounds_toArray, List.set_cons_zero, List.set_cons_succ]
  refine endY ?_
  refine take_oneF (i := 12) rfl (by kernel_rfl) (fun K hK => ?_)
  go_simp
  refine hK.out _ _ ?_ (fun hHeld => ?_)
  · show World.cell? _ _ = _
    go_simp
  refine wpAnyH_done (by kernel_rfl) ?_ _
  have H5 := hide ((unhide HP3) _ _ hl5 (unhide HS))
  rw [hl5, (unhide HL).2] at H5
  clear HS HP3 z1 z2 z3 hHeld
  go_wp2_with fail
  refine (unhide H5).mono ?_
  rintro _ u5 ⟨rfl, s5, t5⟩
  have HT5 := hide ((unhide HT9).trans t5)
  clear t5 HT9
  clear H5
  have hl6 : (c ++ A ++ [((10 : Int), (T : Int))] ++ D ++ [((9 : Int), (0 : Int))] ++ E).length = T + E.length := by rw [List.length_append, hl5]
  have hat : (c ++ A ++ [((10 : Int), (T : Int))] ++ D ++ [((9 : Int), (0 : Int))] ++ E)[J]? = some (9, 0) := by
    rw [List.append_assoc _ _ E, List.getElem?_append_right (by omega), hl3']
    simp
  have hcs : ∀ v, (c ++ A ++ [((10 : Int), (T : Int))] ++ D ++ [((9 : Int), (0 : Int))] ++ E).set J (9, v) = c ++ A ++ [(10, (T : Int))] ++ D ++ [(9, v)] ++ E := fun v => by
    rw [List.append_assoc _ _ E, List.set_append_right _ _ (by omega), hl3', Nat.sub_self]
    simp
  obtain ⟨g, cap, z1, z2, z3, hgB, hset⟩ := s5.turn hat
  have HT6 := hide ((unhide HT5).trans (hset ((T + E.length : Nat) : Int)).2.drew)
  clear HT5
  have hset' := (hset ((T + E.length : Nat) : Int)).1.drew
  rw [hcs] at hset'
  rw [hl6] at z1
  have HS := hide hset'
  generalize hX : T + E.length = X at *
  have hZT : (J : Int) < (X : Int) := by have := unhide HZ; omega
  have hZ0 : (0 : Int) ≤ (J : Int) := by omega
  clear s5 hat hset hset' hcs
  go_wp2_with fail
  refine wp_region_held_drew (S := fun y => y.cell? ⟨B, 1, none⟩ = some (.slice (some ⟨g, 0, none⟩) X cap)) (by kernel_rfl) z1 (fun hHeld => ?_)
  refine planY [0, 1, 2, 3, 4, 5, 6, 7, 8, 9, 10, 11] ?_
  repeat
    refine takeY (v := ?_) hHeld (fun u hSu => ?_) ?_
    rotate_left
    · ((try dsimp only at hSu); go_simp) <;> with_reducible rfl
    try simp only [Act.put, List.setIfInBounds_toArray, List.set_cons_zero, List.set_cons_succ]
  refine endY ?_
  refine take_oneF (i := 12) rfl (by kernel_rfl) (fun K hK => ?_)
  go_simp
  refine hK.out _ _ ?_ (fun hHeld => ?_)
  · show World.cell? _ _ = _
    go_simp
  refine wpAnyH_done (by kernel_rfl) ?_ _
  go_wp2_with fail
  first | go_end0 | refine bodyPost_ret (results_none rfl _ _ _) rfl ?_
  refine ⟨rfl, ?_, unhide HT6⟩
  have h9 := unhide HS
  have e9 := unhide HZ
  have ex : (T : Int) + (E.length : Int) = (X : Int) := by omega
  simpa [ex] using h9
end Go.Proofs.YtjioipkfnekigaaGreatDoor
