/- FlowI -/
import Derived.Test.YtkepbeeioalmbabDoorTM14
import Derived.Deep.LoopGhost
import Derived.Deep.RegionWith
import Derived.Deep.CutRange
set_option maxRecDepth 100000
set_option maxHeartbeats 8000000
namespace Go.Proofs.YtkepbeeioalmbabDoor
open Go.RowKit
theorem eff_right {p : List Fn} {g : Fn} {x : Int × Int} (hx : opS p g x = 0) : ∃ ta lb, effS p x.1 x.2 = (ta, lb, 0) ∧ 0 ≤ ta ∧ ta ≤ 4 ∧ 0 ≤ lb ∧ lb ≤ 1 := by
  by_cases h11 : x.1 = 11
  · obtain ⟨_, _, h3, h4⟩ := effS_call hx h11
    refine ⟨_, _, h4, h3, ?_, by decide, by decide⟩
    obtain ⟨_, _, hm⟩ := opS_kind hx
    rw [h11] at hm
    have := (mayB4 (show mayB p g 4 x.2 = true from hm)).2.2
    rw [roomB_iff] at this
    omega
  · obtain ⟨ta, lb, h1, h2, h3, h4, h5⟩ := effS_plain hx h11
    exact ⟨ta, lb, h1, h2, by omega, h4, h5⟩
theorem wrap_small {z ta lb : Int} (h0 : 0 ≤ z) (h1 : z ≤ 12) (t0 : 0 ≤ ta) (t4 : ta ≤ 4) (l0 : 0 ≤ lb) (l1 : lb ≤ 1) : IntKind.i64.wrap (IntKind.i64.wrap (z - ta) + lb) = z - ta + lb := by
  rw [IntKind.wrap_i64, IntKind.wrap_i64]
  omega
theorem reach_le {p : List Fn} {c : List (Int × Int)} (hr : Right p c) {k : Nat} {h : Int} (r : Reach p c k h) : 0 ≤ h ∧ h ≤ 8 := by
  refine r (fun _ h => 0 ≤ h ∧ h ≤ 8) ⟨by omega, by omega⟩ ?_
  rintro k h x m j _ hx hm _
  exact beh_nonneg hr (List.mem_of_getElem? hx) hm
theorem start_sound (p : List Fn) {c : List (Int × Int)} (h : 0 < c.length) : Sound p c ((start c).set 0 0) := by
  intro k hk
  rw [(start_inv h).2 k hk]
  split
  · rename_i e; subst e; exact .inr ⟨by omega, Reach.zero p c⟩
  · exact .inl rfl
theorem one_new (w : World) (v : Value) : ∀ j u, [v][j]? = some u → (w.alloc (.cells #[v] 3)).cell? ((⟨w.heap.size, 0, none⟩ : Addr).add j) = some u := by
  intro j u hj
  cases j with
  | zero => simp at hj; subst hj; exact cell_lays (lays_new rfl) 0
  | succ j => simp at hj
theorem one_int (z : Int) : ∀ u, u ∈ [Value.int .i64 z] → u.oneCell' = true := by
  intro u hu
  simp only [List.mem_cons, List.not_mem_nil, or_false] at hu
  subst hu
  rfl
theorem ownsRow_slice {w : World} {base : Nat} {e : TypeId} {size : Nat} {v : Value} {n : Nat} {xs : List Value} (hn : 0 < n) (h : w.ownsRow base e size v n xs) : ∃ g cap, v = .slice (some ⟨g, 0, none⟩) n cap := by
  rcases h.2 with ⟨_, h0⟩ | ⟨g, cap, cur, hv, _⟩
  · omega
  · exact ⟨g, cap, hv⟩
theorem grown_kept {w w' : World} {o : Obj} {row : Option Nat} (h : (w.alloc o).grownBy w' row) (hr : ∀ k, row = some k → w.heap.size ≤ k) : Kept w w' :=
  Below.grown ((Kept.refl w).alloc o) h (by simp) hr
theorem drop_one (l : List Nat) (j : Nat) (h : j < l.length) : l.drop j = l.getD j 0 :: l.drop (j + 1) := by
  rw [List.drop_eq_getElem_cons h]
  simp [List.getD, h]
theorem getD_mem (l : List Nat) (j : Nat) (h : j < l.length) : l.getD j 0 ∈ l := by
  simp [List.getD, h]
theorem grown_nil {w w' : World} {o : Obj} (h : (w.alloc o).grownBy w' (Value.ownBlock (.slice none 0 0))) : Kept w w' := grown_kept h (fun k e => by cases e)
theorem base_le {a b : World} (h : Kept a b) (o : Obj) : a.heap.size ≤ (b.alloc o).heap.size := by
  have := h.size
  simp
  omega
theorem grown_own {w a w' : World} {o : Obj} {g n c : Nat} (k : Kept w a) (hg : w.heap.size ≤ g) (h : (a.alloc o).grownBy w' (Value.ownBlock (.slice (some ⟨g, 0, none⟩) n c))) : Kept w w' :=
  Below.grown (k.alloc o) h (base_le k o) (fun q e => by cases e; exact hg)
theorem row_cells {w : World} {base g n cap : Nat} {e : TypeId} {xs : List Value} (h : w.ownsRow base e 1 (.slice (some ⟨g, 0, none⟩) n cap) n xs) : base ≤ g ∧ ∀ t u, xs[t]? = some u → w.cell? ⟨g, t, none⟩ = some u := by
  obtain ⟨hl, h0 | ⟨g', cap', cur, hv, hb, hh, _, _, _, ht⟩⟩ := h
  · cases h0.1
  · simp only [Value.slice.injEq, Option.some.injEq, Addr.mk.injEq] at hv
    obtain ⟨⟨rfl, _⟩, _⟩ := hv
    refine ⟨hb, fun t u hu => ?_⟩
    rw [cell_lays hh]
    rw [← ht, List.getElem?_take] at hu
    split at hu
    · simpa using hu
    · cases hu
def RefPost (p : List Fn) (c : List (Int × Int)) (w : World) (e : Ending) (w' : World) : Prop :=
  ∃ v, e = .returned (.tuple #[v, .bool (heightsS p c).isSome]) ∧ IntsAt w' v ((heightsS p c).getD []) ∧ Kept w w'
theorem refHeights_any (p : List Fn) (g : Fn) (i b o cap : Nat) (oc : Option Addr) (m cc : Nat) (w : World) (hp : ProgAt w (.slice (some ⟨b, o, none⟩) p.length cap) p) (hi : i < p.length)
    (c2 : w.cell? ⟨b, o + i * 3 + 2, none⟩ = some (.slice oc m cc)) (hc : CodeAt w (.slice oc m cc) g.code) (hml : m = g.code.length) (hm : m ≤ 24) (hright : ∀ x, x ∈ g.code → opS p g x = 0) :
    Calls Tryd.prog 29 #[.slice (some ⟨b, o, none⟩) p.length cap, .int .i64 i] w fun e w' => RefPost p g.code w e w' := by
  have hmk := make_ints m (by omega)
  have HP := hide hp
  have HC := hide hc
  have HL := hide hml
  have HR := hide hright
  have C2 := hide c2
  clear hp hc hml hright
  go_enter Tryd.func29, Tryd.ntmps29
  go_wp2
  go_loopw [8] (fun s8 wr => ∃ k : Nat, k ≤ m ∧ s8 = .int .i64 k ∧ Hid (HeightsAt wr w.heap.size (List.replicate k (-1) ++ List.replicate (m - k) 0)) ∧ Hid (Kept w wr)) (fun s8 _ => m - (intOf s8).toNat)
  case atStart => exact ⟨0, Nat.zero_le _, rfl, heights_zero (by simpa using lays_new rfl), (Kept.refl _).alloc _⟩
  case round =>
    obtain ⟨k, hkm, rfl, HHr, HKr⟩ := hrel
    by_cases hlt : k < m
    · have q := (unhide HHr).cell (k := k) (by simp; omega)
      have q' := (unhide HHr).frozen k
      have hset := (unhide HHr).set k (-1)
      rw [fill_step hlt] at hset
      have HSET := hide hset
      generalize (List.replicate k (-1 : Int) ++ List.replicate (m - k) 0).getD k 0 = z at q
      clear hset
      go_wp2
      exact ⟨⟨k + 1, by omega, by go_num, HSET, hide ((unhide HKr).setCell (p := ⟨w.heap.size, k, none⟩) (Nat.le_refl _) _)⟩, by simp [intOf]; omega⟩
    · have hke : k = m := by omega
      have hst : List.replicate k (-1 : Int) ++ List.replicate (m - k) 0 = start g.code := by
        have := unhide HL
        rw [hke, Nat.sub_self]
        simp [start, this]
      have hHs := unhide HHr
      rw [hst] at hHs
      clear hst hke
      by_cases hm0 : m = 0
      · have gm : ((m : Int) == 0) = true := beq_iff_eq.2 (by omega)
        have hn : heightsS p g.code = none := by
          unfold heightsS
          rw [if_pos (by have := unhide HL; omega)]
        have HN := hide hn
        clear hn hHs
        go_wp2
        go_ret2
        exact ⟨.slice none 0 0, by rw [unhide HN]; rfl, by rw [unhide HN]; exact IntsAt.nil _, unhide HKr⟩
      · have gm : ((m : Int) == 0) = false := beq_eq_false_iff_ne.2 (by omega)
        have q := hHs.cell (k := 0) (by simp [start]; have := unhide HL; omega)
        have q' := hHs.frozen 0
        have hset := hHs.set 0 0
        have HSET := hide hset
        generalize (start g.code).getD 0 0 = z at q
        clear hHs hset
        have KS : Hid (Kept w (wr.setCell ⟨w.heap.size, 0, none⟩ (.int .i64 0))) := (unhide HKr).setCell (p := ⟨w.heap.size, 0, none⟩) (Nat.le_refl _) _
        go_wp2
        go_loopg [9] (m + 1) (fun gk s9 wr => ∃ (r : Nat) (Hr : List Int), r ≤ m + 1 ∧ gk = m + 1 - r ∧ s9 = .int .i64 r ∧ Hid (roundsS p g.code r ((start g.code).set 0 0) = some Hr) ∧ Hid (Inv g.code Hr ∧ Sound p g.code Hr) ∧ Hid (HeightsAt wr w.heap.size Hr) ∧ Hid (Kept w wr))
        case atStart => exact ⟨0, _, Nat.zero_le _, rfl, rfl, rfl, ⟨(start_inv (by have := unhide HL; omega)).1, start_sound p (by have := unhide HL; omega)⟩, HSET, KS⟩
        case round =>
          obtain ⟨r, Hr, hrm, hgk, rfl, HRS, HIN, HHr2, HKr2⟩ := hrel
          by_cases hltr : r ≤ m
          · go_wp2
            go_loopg [10] m (fun gk2 s10 wr => ∃ (kk : Nat) (Hk : List Int), kk ≤ m ∧ gk2 = m - kk ∧ s10 = .int .i64 kk ∧ Hid (roundS p g.code kk Hr = some Hk) ∧ Hid (Inv g.code Hk ∧ Sound p g.code Hk) ∧ Hid (HeightsAt wr w.heap.size Hk) ∧ Hid (Kept w wr))
            case atStart => exact ⟨0, Hr, Nat.zero_le _, rfl, rfl, rfl, HIN, HHr2, HKr2⟩
            case round =>
              obtain ⟨kk, Hk, hkk, hgk2, rfl, HRK, HIK, HHk, HKk⟩ := hrel
              by_cases hltk : kk < m
              · have hkc : kk < g.code.length := by rw [← unhide HL]; exact hltk
                have qz := (unhide HHk).cell (k := kk) (by rw [(unhide HIK).1.1]; exact hkc)
                have hxk := getD_of_lt g.code kk (0, 0) hkc
                have hstep : stepS p g.code Hk kk = if Hk.getD kk 0 < 0 then some Hk else match beh p (g.code.getD kk (0, 0)) (Hk.getD kk 0) with | none => none | some m => pushS g.code.length (nexts (g.code.getD kk (0, 0)) kk) m Hk := rfl
                have hrnd : roundS p g.code (kk + 1) Hr = stepS p g.code Hk kk := by simp only [roundS, unhide HRK, Option.bind_some]
                have hzz := (unhide HIK).2 kk hkc
                generalize g.code.getD kk (0, 0) = x at hxk hstep
                generalize Hk.getD kk 0 = z at qz hstep hzz
                have HST := hide hstep
                have HRN := hide hrnd
                have HXK := hide hxk
                have hfail : Hid (stepS p g.code Hk kk = none → heightsS p g.code = none) := fun h => heights_fail (by have := unhide HL; omega) (by have := unhide HL; omega) hkc (unhide HRS) (unhide HRK) h
                clear hstep hrnd hxk
                by_cases hneg : z < 0
                · have hs1 : roundS p g.code (kk + 1) Hr = some Hk := by rw [unhide HRN, unhide HST, if_pos hneg]
                  have HS1 := hide hs1
                  clear hs1
                  go_wp2
                  go_roundg (m - (kk + 1))
                  case measure => omega
                  case rel => exact ⟨kk + 1, Hk, by omega, rfl, by go_num, HS1, HIK, HHk, HKk⟩
                · have hst2 := unhide HST
                  rw [if_neg hneg] at hst2
                  have HST2 := hide hst2
                  have hmem := List.mem_of_getElem? (unhide HXK)
                  have hop := (unhide HR) x hmem
                  have hef : ∃ ta lb, effS p x.1 x.2 = (ta, lb, 0) ∧ 0 ≤ ta ∧ ta ≤ 4 ∧ 0 ≤ lb ∧ lb ≤ 1 := eff_right hop
                  obtain ⟨ta, lb, he, t0, t4, l0, l1⟩ := hef
                  have HZ8 : Hid (z ≤ 8) := by
                    refine hide ?_
                    rcases hzz with a | ⟨_, a⟩
                    · omega
                    · exact (reach_le ⟨g, rfl, unhide HR⟩ a).2
                  have hbh : beh p x z = if ta ≤ z ∧ ¬ (x.1 = 12 ∧ 1 < z) ∧ z - ta + lb ≤ 8 then some (z - ta + lb) else none := by
                    unfold beh; rw [he]; simp
                  obtain ⟨oc', cc', he', _, hcd⟩ := (unhide HC).kept (unhide HKk)
                  obtain ⟨b', o', e3, x0, x1⟩ := hcd kk x (unhide HXK)
                  simp only [Value.slice.injEq] at he'
                  obtain ⟨rfl, -, -⟩ := he'
                  subst e3
                  have HBH := hide hbh
                  have HE := hide he
                  have HOP := hide hop
                  clear hst2 hmem hop he hbh hcd
                  go_wp2_with fail
                  generalize hWx : wr.alloc (.cells #[.int .i64 x.1, .int .i64 x.2] 38) = Wx
                  have KX : Hid (Kept wr Wx) := by rw [← hWx]; exact hide ((Kept.refl _).alloc _)
                  have LX : Hid (Wx.heap[wr.heap.size]? = some (.cells #[.int .i64 x.1, .int .i64 x.2] 38)) := by rw [← hWx]; exact hide (lays_new rfl)
                  clear hWx
                  have HTK : Hid (∀ u, Kept Wx u → Calls Tryd.prog 41 #[.slice (some ⟨b, o, none⟩) p.length cap, .agg #[.int .i64 x.1, .int .i64 x.2]] u fun e u' => e = .returned (.int .i64 ta) ∧ u' = u.alloc (.cells #[.int .i64 x.1, .int .i64 x.2] 38)) :=
                    fun u hu => takes_right p g _ x ta lb u ((unhide HP).kept (((unhide HKk).trans (unhide KX)).trans hu)) (unhide HOP) (unhide HE)
                  have HLV : Hid (∀ u, Calls Tryd.prog 42 #[.agg #[.int .i64 x.1, .int .i64 x.2]] u fun e u' => e = .returned (.int .i64 lb) ∧ u' = u.alloc (.cells #[.int .i64 x.1, .int .i64 x.2] 38)) :=
                    fun u => leaves_right p g x ta lb u (unhide HOP) (unhide HE)
                  have v0 := cell_lays (unhide LX) 0
                  have v1 := cell_lays (unhide LX) 1
                  simp only [List.getElem?_toArray, List.getElem?_cons_zero, List.getElem?_cons_succ] at v0 v1
                  have vz := (unhide KX).cell qz
                  have QZ := hide qz
                  have vz' : ∀ o1, (Wx.alloc o1).cell? ⟨w.heap.size, kk, none⟩ = some (.int .i64 z) := fun o1 => ((Kept.refl Wx).alloc o1).cell vz
                  clear qz x0 x1
                  go_cut [65] from 43 to 154 (fun s65 wx => s65 = .bool (decide (z < ta)) ∧ Hid (Kept Wx wx))
                  case first =>
                    go_region_with (go_at_call 41; refine ((unhide HTK) _ ?_).mono ?_; (repeat (first | exact Kept.refl _ | refine Kept.drew ?_ | refine Kept.alloc ?_ _)); rintro e w' ⟨rfl, rfl⟩)
                    all_goals go_wp2_with fail
                    all_goals go_meet
                    all_goals exact ⟨rfl, hide (((Kept.refl Wx).alloc _).drew)⟩
                  case rest =>
                    obtain ⟨rfl, KC1⟩ := hcut
                    obtain ⟨wa, hwa⟩ : ∃ wa : World, wa = wc := ⟨_, rfl⟩
                    subst hwa
                    clear vz' v0 v1 vz
                    have LXa := hide (lays_kept (unhide KC1) (unhide LX))
                    have v0 := cell_lays (unhide LXa) 0
                    have v1 := cell_lays (unhide LXa) 1
                    simp only [List.getElem?_toArray, List.getElem?_cons_zero, List.getElem?_cons_succ] at v0 v1
                    have vz := ((unhide KX).trans (unhide KC1)).cell (unhide QZ)
                    have KA : Hid (Kept w wa) := ((unhide HKk).trans (unhide KX)).trans (unhide KC1)
                    have HHa : Hid (HeightsAt wa w.heap.size Hk) := (unhide HHk).kept ((unhide KX).trans (unhide KC1))
                    by_cases hta : z < ta
                    · have gta : decide (z < ta) = true := by simpa using hta
                      have hnone : heightsS p g.code = none := by
                        refine (unhide hfail) ?_
                        rw [unhide HST2, unhide HBH, if_neg (by omega)]
                      have HNO := hide hnone
                      rw [gta]
                      clear hnone gta
                      go_wp2
                      go_ret2
                      exact ⟨.slice none 0 0, by rw [unhide HNO]; rfl, by rw [unhide HNO]; exact IntsAt.nil _, unhide KA⟩
                    · have gta : decide (z < ta) = false := by simpa using hta
                      rw [gta]
                      clear gta
                      have v0' : ∀ o1, (wa.alloc o1).cell? ⟨wr.heap.size, 0, none⟩ = some (.int .i64 x.1) := fun o1 => ((Kept.refl wa).alloc o1).cell v0
                      have v1' : ∀ o1, (wa.alloc o1).cell? ⟨wr.heap.size, 1, none⟩ = some (.int .i64 x.2) := fun o1 => ((Kept.refl wa).alloc o1).cell v1
                      have vz' : ∀ o1, (wa.alloc o1).cell? ⟨w.heap.size, kk, none⟩ = some (.int .i64 z) := fun o1 => ((Kept.refl wa).alloc o1).cell vz
                      have vz'' : ∀ o1 o2, ((wa.alloc o1).alloc o2).cell? ⟨w.heap.size, kk, none⟩ = some (.int .i64 z) := fun o1 o2 => (((Kept.refl wa).alloc o1).alloc o2).cell vz
                      have g8 := wrap_small (z := z) (ta := ta) (lb := lb) (by omega) (by have := unhide HZ8; omega) t0 t4 l0 l1
                      go_wp2_with fail
                      go_cut [12] from 43 to 154 (fun s12 wx => s12 = .int .i64 (z - ta + lb) ∧ Hid (Kept wa wx))
                      case first =>
                        go_region_with (first | (go_at_call 41; refine ((unhide HTK) _ (Kept.trans (unhide KC1) ?_)).mono ?_; (repeat (first | exact Kept.refl _ | refine Kept.drew ?_ | refine Kept.alloc ?_ _)); rintro e w' ⟨rfl, rfl⟩) | (go_at_call 42; refine ((unhide HLV) _).mono ?_; rintro e w' ⟨rfl, rfl⟩))
                        all_goals go_wp2_with fail
                        all_goals go_meet
                        all_goals exact ⟨rfl, hide ((((Kept.refl wa).alloc _).alloc _).drew)⟩
                      case rest =>
                        obtain ⟨rfl, KC2⟩ := hcut
                        obtain ⟨wb, hwb⟩ : ∃ wb : World, wb = wc := ⟨_, rfl⟩
                        subst hwb
                        clear v0' v1' vz' vz'' v0 v1 vz g8
                        have LXb := hide (lays_kept (unhide KC2) (unhide LXa))
                        have v0 := cell_lays (unhide LXb) 0
                        have v1 := cell_lays (unhide LXb) 1
                        simp only [List.getElem?_toArray, List.getElem?_cons_zero, List.getElem?_cons_succ] at v0 v1
                        have KB : Hid (Kept w wb) := (unhide KA).trans (unhide KC2)
                        have HHb : Hid (HeightsAt wb w.heap.size Hk) := (unhide HHa).kept (unhide KC2)
                        have H12 : Hid (x.1 = 12 → ta = 1 ∧ lb = 0) := by
                          refine hide ?_
                          intro h12
                          have : effS p x.1 x.2 = (1, 0, 0) := by rw [h12]; rfl
                          rw [unhide HE] at this
                          simp at this
                          omega
                        go_upto_region 21 with (fail)
                        go_cut [87] from 43 to 154 (fun s87 wx => s87 = .bool (beh p x z).isNone ∧ wx = wb)
                        case first =>
                          by_cases h8 : 8 < z - ta + lb
                          · have g8 : decide (8 < z - ta + lb) = true := by simpa using h8
                            have hbn : (beh p x z).isNone = true := by rw [unhide HBH, if_neg (by omega)]; rfl
                            have HBN := hide hbn
                            clear hbn
                            go_wp2
                            go_meet
                            exact ⟨by rw [unhide HBN], rfl⟩
                          · have g8 : decide (8 < z - ta + lb) = false := by simpa using h8
                            by_cases h12 : x.1 = 12
                            · have g12 : (x.1 == 12) = true := beq_iff_eq.2 h12
                              have hl := (unhide H12) h12
                              by_cases hn0 : z - ta + lb = 0
                              · have gn : (z - ta + lb != 0) = false := by rw [hn0]; rfl
                                have hbn : (beh p x z).isNone = false := by rw [unhide HBH, if_pos (by omega)]; rfl
                                have HBN := hide hbn
                                clear hbn h12 hn0 hl
                                go_wp2
                                go_meet
                                exact ⟨by rw [unhide HBN], rfl⟩
                              · have gn : (z - ta + lb != 0) = true := by rw [bne_iff_ne]; exact hn0
                                have hbn : (beh p x z).isNone = true := by rw [unhide HBH, if_neg (by omega)]; rfl
                                have HBN := hide hbn
                                clear hbn h12 hn0 hl
                                go_wp2
                                go_meet
                                exact ⟨by rw [unhide HBN], rfl⟩
                            · have g12 : (x.1 == 12) = false := beq_eq_false_iff_ne.2 h12
                              have hbn : (beh p x z).isNone = false := by rw [unhide HBH, if_pos (by omega)]; rfl
                              have HBN := hide hbn
                              clear hbn h12
                              go_wp2
                              go_meet
                              exact ⟨by rw [unhide HBN], rfl⟩
                        case rest =>
                          obtain ⟨rfl, rfl⟩ := hcut
                          cases hbb : beh p x z with
                          | none =>
                            have hnone : heightsS p g.code = none := by
                              refine (unhide hfail) ?_
                              rw [unhide HST2, hbb]
                            have HNO := hide hnone
                            clear hnone hbb
                            go_wp2
                            go_ret2
                            exact ⟨.slice none 0 0, by rw [unhide HNO]; rfl, by rw [unhide HNO]; exact IntsAt.nil _, unhide KB⟩
                          | some n =>
                            have hnn : n = z - ta + lb := by
                              have h := unhide HBH
                              rw [hbb] at h
                              split at h
                              · exact Option.some.inj h
                              · cases h
                            have HNN := hide hnn
                            have HBB := hide hbb
                            clear hnn hbb
                            obtain ⟨i0, hi0, hz0, hz1, hz2⟩ := info_parts infoInt
                            have hnil := World.ownsRow_nil wc wc.heap.size 3 1
                            have HNIL := hide hnil
                            clear hnil
                            have hjp : x.1 = 9 ∨ x.1 = 10 → 0 ≤ x.2 := by
                              intro hjz
                              obtain ⟨_, _, hm⟩ := opS_kind (unhide HOP)
                              have ho : opd x.1.toNat = 3 := by rcases hjz with hjz | hjz <;> rw [hjz] <;> rfl
                              rw [ho] at hm
                              exact (ixB_iff.1 (show ixB x.2 g.code.length = true from hm)).1
                            by_cases h9 : x.1 = 9
                            · have g9 : (x.1 == 9) = true := beq_iff_eq.2 h9
                              have g9' : (x.1 != 9) = false := by rw [h9]; rfl
                              have H9 := hide h9
                              clear h9
                              go_wp2_with (at_builtin; refine wpList_append_own _ rfl _ _ 46 rfl wc.heap.size 3 i0 (.int .i64 0) 1 8 Tryd.underlying46 hi0 hz0 hz1 hz2 rfl (by decide) _ _ _ rfl ((unhide HNIL).alloc _) ⟨wc.heap.size, 0, none⟩ 1 1 [.int .i64 x.2] rfl rfl (one_new _ _) (one_int _) (by decide) (by decide) (by simp) ?_; intro v' wn hown' hgrow _; obtain ⟨gq, cq, hv'⟩ := ownsRow_slice (by decide) hown'; subst hv'; have KN_wn := hide (grown_nil hgrow); have u0 := (unhide KN_wn).cell v0; have u1 := (unhide KN_wn).cell v1; have HO_wn := hide hown'; clear hown' hgrow)
                              have KN := KN_wn
                              obtain ⟨hgq, hrow⟩ := row_cells (unhide HO_wn)
                              have KW0 : Hid (Kept w wn) := (unhide KB).trans (unhide KN)
                              have HH0 : Hid (HeightsAt wn w.heap.size Hk) := (unhide HHb).kept (unhide KN)
                              have hwlt : w.heap.size < wc.heap.size := (unhide HHb).lt
                              have hL : nexts x kk = [x.2.toNat] := by unfold nexts; rw [if_neg (by rw [unhide H9]; decide), if_pos (unhide H9)]
                              have hcs : ∀ t, t < 1 → wn.cell? ⟨gq, t, none⟩ = some (.int .i64 ((([x.2.toNat] : List Nat).getD t 0 : Nat) : Int)) := by
                                intro t ht
                                obtain rfl : t = 0 := by omega
                                rw [hrow 0 (.int .i64 x.2) rfl]
                                have := hjp (.inl (unhide H9))
                                simp; omega
                              have hle : ∀ t, t ∈ ([x.2.toNat] : List Nat) → t ≤ m := by
                                intro t ht
                                rw [← hL] at ht
                                have := nexts_le ⟨g, rfl, unhide HR⟩ (unhide HXK) ht
                                rw [unhide HL]
                                exact this
                              have hn0 := beh_nonneg ⟨g, rfl, unhide HR⟩ (List.mem_of_getElem? (unhide HXK)) (unhide HBB)
                              have HLL := hide hL
                              have HCS := hide hcs
                              have HLE := hide hle
                              have HN0 := hide hn0
                              clear hrow hL hcs hle hn0 u0 u1 v0 v1
                              go_loopg [14] 1 (fun gk3 s14 wr => ∃ (j : Nat) (Hj : List Int), j ≤ 1 ∧ gk3 = 1 - j ∧ s14 = .int .i64 j ∧ Hid (pushS g.code.length (([x.2.toNat] : List Nat).drop j) n Hj = pushS g.code.length (nexts x kk) n Hk) ∧ Hid (Inv g.code Hj) ∧ Hid (HeightsAt wr w.heap.size Hj) ∧ Hid (KeptX w.heap.size wn wr))
                              case atStart => exact ⟨0, Hk, Nat.zero_le _, rfl, rfl, by rw [unhide HLL]; exact hide rfl, hide (unhide HIK).1, HH0, hide (KeptX.refl _ _)⟩
                              case round =>
                                obtain ⟨j, Hj, hjc, hg3, rfl, HPU, HIJ, HHj, HKj⟩ := hrel
                                have KWj : Hid (Kept w wr) := KeptX.kept (unhide KW0) (Nat.le_refl _) (unhide HKj)
                                by_cases hltj : j < 1
                                · have d0 := (unhide HKj).cell (p := ⟨gq, j, none⟩) (by simp; omega) ((unhide HCS) j hltj)
                                  have hdr : ([x.2.toNat] : List Nat).drop j = ([x.2.toNat] : List Nat).getD j 0 :: ([x.2.toNat] : List Nat).drop (j + 1) := drop_one _ j hltj
                                  have hmem : ([x.2.toNat] : List Nat).getD j 0 ∈ ([x.2.toNat] : List Nat) := getD_mem _ j hltj
                                  have hpu := unhide HPU
                                  rw [hdr] at hpu
                                  generalize ([x.2.toNat] : List Nat).getD j 0 = nj at *
                                  have hnj := (unhide HLE) nj hmem
                                  have hpush : pushS g.code.length (nj :: ([x.2.toNat] : List Nat).drop (j + 1)) n Hj = if nj = g.code.length ∨ (0 ≤ Hj.getD nj 0 ∧ Hj.getD nj 0 ≠ n) then none else pushS g.code.length (([x.2.toNat] : List Nat).drop (j + 1)) n (Hj.set nj n) := rfl
                                  rw [hpush] at hpu
                                  have HPU2 := hide hpu
                                  clear hpush hpu hdr hmem
                                  by_cases hnl : nj = m
                                  · have gnl : ((nj : Int) == (m : Int)) = true := beq_iff_eq.2 (by omega)
                                    have hnone : heightsS p g.code = none := by
                                      refine (unhide hfail) ?_
                                      rw [unhide HST2, unhide HBB]
                                      simp only
                                      rw [← unhide HPU2, if_pos (.inl (by rw [hnl]; exact unhide HL))]
                                    have HNO := hide hnone
                                    have HNL := hide hnl
                                    clear hnone hnl
                                    go_wp2
                                    go_ret2
                                    exact ⟨.slice none 0 0, by rw [unhide HNO]; rfl, by rw [unhide HNO]; exact IntsAt.nil _, unhide KWj⟩
                                  · have gnl : ((nj : Int) == (m : Int)) = false := beq_eq_false_iff_ne.2 (by omega)
                                    have hnlt : nj < m := by omega
                                    have hnlc : nj < g.code.length := by rw [← unhide HL]; exact hnlt
                                    have d1 := (unhide HHj).cell (k := nj) (by rw [(unhide HIJ).1]; exact hnlc)
                                    have d2 := (unhide HHj).frozen nj
                                    have HHS := hide ((unhide HHj).set nj n)
                                    have HKS := hide ((unhide HKj).setCell (p := ⟨w.heap.size, nj, none⟩) (.inl rfl) (.int .i64 n))
                                    have HIN2 : Hid (Inv g.code (Hj.set nj n)) := by
                                      refine hide ⟨by rw [List.length_set]; exact (unhide HIJ).1, fun t ht => ?_⟩
                                      rw [getD_set (by rw [(unhide HIJ).1]; exact hnlc)]
                                      split
                                      · exact .inr (unhide HN0).1
                                      · exact (unhide HIJ).2 t ht
                                    rw [unhide HNN] at HHS HKS HIN2
                                    have hzj := (unhide HIJ).2 nj hnlc
                                    generalize hgz : Hj.getD nj 0 = zj at *
                                    have HGZ := hide hgz
                                    clear hgz
                                    by_cases h0z : 0 ≤ zj
                                    · have g0z : decide (0 ≤ zj) = true := by simpa using h0z
                                      by_cases hzn : zj = z - ta + lb
                                      · have gzn : (zj != z - ta + lb) = false := by rw [hzn]; simp
                                        have hpn : pushS g.code.length (([x.2.toNat] : List Nat).drop (j + 1)) n (Hj.set nj n) = pushS g.code.length (nexts x kk) n Hk := by
                                          have h := unhide HPU2
                                          rw [if_neg (by rw [unhide HNN]; have := unhide HL; omega)] at h
                                          exact h
                                        rw [unhide HNN] at hpn
                                        have HPN := hide hpn
                                        have HZN := hide hzn
                                        clear hpn hzn
                                        go_wp2
                                        go_roundg (1 - (j + 1))
                                        case measure => omega
                                        case rel => exact ⟨j + 1, Hj.set nj (z - ta + lb), by omega, rfl, by go_num, by rw [unhide HNN]; exact HPN, HIN2, HHS, HKS⟩
                                      · have gzn : (zj != z - ta + lb) = true := by rw [bne_iff_ne]; exact hzn
                                        have hnone : heightsS p g.code = none := by
                                          refine (unhide hfail) ?_
                                          rw [unhide HST2, unhide HBB]
                                          simp only
                                          rw [← unhide HPU2, if_pos (.inr ⟨h0z, by rw [unhide HNN]; exact hzn⟩)]
                                        have HNO := hide hnone
                                        have HZN := hide hzn
                                        clear hnone hzn
                                        go_wp2
                                        go_ret2
                                        exact ⟨.slice none 0 0, by rw [unhide HNO]; rfl, by rw [unhide HNO]; exact IntsAt.nil _, unhide KWj⟩
                                    · have g0z : decide (0 ≤ zj) = false := by simpa using h0z
                                      have hpn : pushS g.code.length (([x.2.toNat] : List Nat).drop (j + 1)) n (Hj.set nj n) = pushS g.code.length (nexts x kk) n Hk := by
                                        have h := unhide HPU2
                                        rw [if_neg (by have := unhide HL; omega)] at h
                                        exact h
                                      rw [unhide HNN] at hpn
                                      have HPN := hide hpn
                                      clear hpn
                                      go_wp2
                                      go_roundg (1 - (j + 1))
                                      case measure => omega
                                      case rel => exact ⟨j + 1, Hj.set nj (z - ta + lb), by omega, rfl, by go_num, by rw [unhide HNN]; exact HPN, HIN2, HHS, HKS⟩
                                · have hje : j = 1 := by omega
                                  have hfin : stepS p g.code Hk kk = some Hj := by
                                    rw [unhide HST2, unhide HBB]
                                    simp only
                                    rw [← unhide HPU, hje]
                                    rfl
                                  obtain ⟨_, hi2, _, hs2⟩ := step_ok ⟨g, rfl, unhide HR⟩ hkc (unhide HIK).1 hfin
                                  have hsn := hs2 (unhide HIK).2
                                  have hrk : roundS p g.code (kk + 1) Hr = some Hj := by rw [unhide HRN]; exact hfin
                                  have HRK2 := hide hrk
                                  have HI2 := hide (And.intro hi2 hsn)
                                  clear hje hfin hi2 hs2 hsn hrk
                                  go_wp2
                                  go_roundg (m - (kk + 1))
                                  case measure => omega
                                  case rel => exact ⟨kk + 1, Hj, by omega, rfl, by go_num, HRK2, HI2, HHj, KWj⟩
                            · have g9 : (x.1 == 9) = false := beq_eq_false_iff_ne.2 h9
                              have g9' : (x.1 != 9) = true := by rw [bne_iff_ne]; exact h9
                              have H9 := hide h9
                              clear h9
                              by_cases h10 : x.1 = 10
                              · have g10 : (x.1 == 10) = true := beq_iff_eq.2 h10
                                have g12 : (x.1 != 12) = true := by rw [h10]; rfl
                                have H10 := hide h10
                                clear h10
                                go_wp2_with (first | (at_builtin; refine wpList_append_own _ rfl _ _ 46 rfl wc.heap.size 3 i0 (.int .i64 0) 1 8 Tryd.underlying46 hi0 hz0 hz1 hz2 rfl (by decide) _ _ _ rfl ((unhide HNIL).alloc _) ⟨wc.heap.size, 0, none⟩ 1 1 [.int .i64 x.2] rfl rfl (one_new _ _) (one_int _) (by decide) (by decide) (by simp) ?_; intro v' wn hown' hgrow _; obtain ⟨gq, cq, hv'⟩ := ownsRow_slice (by decide) hown'; subst hv'; have KN_wn := hide (grown_nil hgrow); have u0 := (unhide KN_wn).cell v0; have u1 := (unhide KN_wn).cell v1; have HO_wn := hide hown'; clear hown' hgrow HNIL) | (at_builtin; refine wpList_append_own _ rfl _ _ 46 rfl wc.heap.size 3 i0 (.int .i64 0) 1 8 Tryd.underlying46 hi0 hz0 hz1 hz2 rfl (by decide) _ _ _ rfl ((unhide HO_wn).alloc _) ⟨wn.heap.size, 0, none⟩ 1 1 [.int .i64 ((kk : Int) + 1)] rfl rfl (one_new _ _) (one_int _) (by decide) (by decide) (base_le (unhide KN_wn) _) ?_; intro v'' wm hown'' hgrow' _; obtain ⟨gq2, cq2, hv2⟩ := ownsRow_slice (by decide) hown''; subst hv2; have KN_wm := hide (grown_own (unhide KN_wn) (row_cells (unhide HO_wn)).1 hgrow'); have HO_wm := hide hown''; clear hown'' hgrow'))
                                have KN := KN_wm
                                obtain ⟨hgq, hrow⟩ := row_cells (unhide HO_wm)
                                have KW0 : Hid (Kept w wm) := (unhide KB).trans (unhide KN)
                                have HH0 : Hid (HeightsAt wm w.heap.size Hk) := (unhide HHb).kept (unhide KN)
                                have hwlt : w.heap.size < wc.heap.size := (unhide HHb).lt
                                have hL : nexts x kk = [x.2.toNat, kk + 1] := by unfold nexts; rw [if_neg (by rw [unhide H10]; decide), if_neg (unhide H9), if_pos (unhide H10)]
                                have hcs : ∀ t, t < 2 → wm.cell? ⟨gq2, t, none⟩ = some (.int .i64 ((([x.2.toNat, kk + 1] : List Nat).getD t 0 : Nat) : Int)) := by
                                  intro t ht
                                  have hx2 := hjp (.inr (unhide H10))
                                  have ht2 : t = 0 ∨ t = 1 := by omega
                                  rcases ht2 with rfl | rfl
                                  · rw [hrow 0 (.int .i64 x.2) rfl]; simp; omega
                                  · rw [hrow 1 (.int .i64 ((kk : Int) + 1)) rfl]; simp
                                have hle : ∀ t, t ∈ ([x.2.toNat, kk + 1] : List Nat) → t ≤ m := by
                                  intro t ht
                                  rw [← hL] at ht
                                  have := nexts_le ⟨g, rfl, unhide HR⟩ (unhide HXK) ht
                                  rw [unhide HL]
                                  exact this
                                have hn0 := beh_nonneg ⟨g, rfl, unhide HR⟩ (List.mem_of_getElem? (unhide HXK)) (unhide HBB)
                                have HLL := hide hL
                                have HCS := hide hcs
                                have HLE := hide hle
                                have HN0 := hide hn0
                                clear hrow hL hcs hle hn0 u0 u1 v0 v1
                                go_loopg [14] 2 (fun gk3 s14 wr => ∃ (j : Nat) (Hj : List Int), j ≤ 2 ∧ gk3 = 2 - j ∧ s14 = .int .i64 j ∧ Hid (pushS g.code.length (([x.2.toNat, kk + 1] : List Nat).drop j) n Hj = pushS g.code.length (nexts x kk) n Hk) ∧ Hid (Inv g.code Hj) ∧ Hid (HeightsAt wr w.heap.size Hj) ∧ Hid (KeptX w.heap.size wm wr))
                                case atStart => exact ⟨0, Hk, Nat.zero_le _, rfl, rfl, by rw [unhide HLL]; exact hide rfl, hide (unhide HIK).1, HH0, hide (KeptX.refl _ _)⟩
                                case round =>
                                  obtain ⟨j, Hj, hjc, hg3, rfl, HPU, HIJ, HHj, HKj⟩ := hrel
                                  have KWj : Hid (Kept w wr) := KeptX.kept (unhide KW0) (Nat.le_refl _) (unhide HKj)
                                  by_cases hltj : j < 2
                                  · have d0 := (unhide HKj).cell (p := ⟨gq2, j, none⟩) (by simp; omega) ((unhide HCS) j hltj)
                                    have hdr : ([x.2.toNat, kk + 1] : List Nat).drop j = ([x.2.toNat, kk + 1] : List Nat).getD j 0 :: ([x.2.toNat, kk + 1] : List Nat).drop (j + 1) := drop_one _ j hltj
                                    have hmem : ([x.2.toNat, kk + 1] : List Nat).getD j 0 ∈ ([x.2.toNat, kk + 1] : List Nat) := getD_mem _ j hltj
                                    have hpu := unhide HPU
                                    rw [hdr] at hpu
                                    generalize ([x.2.toNat, kk + 1] : List Nat).getD j 0 = nj at *
                                    have hnj := (unhide HLE) nj hmem
                                    have hpush : pushS g.code.length (nj :: ([x.2.toNat, kk + 1] : List Nat).drop (j + 1)) n Hj = if nj = g.code.length ∨ (0 ≤ Hj.getD nj 0 ∧ Hj.getD nj 0 ≠ n) then none else pushS g.code.length (([x.2.toNat, kk + 1] : List Nat).drop (j + 1)) n (Hj.set nj n) := rfl
                                    rw [hpush] at hpu
                                    have HPU2 := hide hpu
                                    clear hpush hpu hdr hmem
                                    by_cases hnl : nj = m
                                    · have gnl : ((nj : Int) == (m : Int)) = true := beq_iff_eq.2 (by omega)
                                      have hnone : heightsS p g.code = none := by
                                        refine (unhide hfail) ?_
                                        rw [unhide HST2, unhide HBB]
                                        simp only
                                        rw [← unhide HPU2, if_pos (.inl (by rw [hnl]; exact unhide HL))]
                                      have HNO := hide hnone
                                      have HNL := hide hnl
                                      clear hnone hnl
                                      go_wp2
                                      go_ret2
                                      exact ⟨.slice none 0 0, by rw [unhide HNO]; rfl, by rw [unhide HNO]; exact IntsAt.nil _, unhide KWj⟩
                                    · have gnl : ((nj : Int) == (m : Int)) = false := beq_eq_false_iff_ne.2 (by omega)
                                      have hnlt : nj < m := by omega
                                      have hnlc : nj < g.code.length := by rw [← unhide HL]; exact hnlt
                                      have d1 := (unhide HHj).cell (k := nj) (by rw [(unhide HIJ).1]; exact hnlc)
                                      have d2 := (unhide HHj).frozen nj
                                      have HHS := hide ((unhide HHj).set nj n)
                                      have HKS := hide ((unhide HKj).setCell (p := ⟨w.heap.size, nj, none⟩) (.inl rfl) (.int .i64 n))
                                      have HIN2 : Hid (Inv g.code (Hj.set nj n)) := by
                                        refine hide ⟨by rw [List.length_set]; exact (unhide HIJ).1, fun t ht => ?_⟩
                                        rw [getD_set (by rw [(unhide HIJ).1]; exact hnlc)]
                                        split
                                        · exact .inr (unhide HN0).1
                                        · exact (unhide HIJ).2 t ht
                                      rw [unhide HNN] at HHS HKS HIN2
                                      have hzj := (unhide HIJ).2 nj hnlc
                                      generalize hgz : Hj.getD nj 0 = zj at *
                                      have HGZ := hide hgz
                                      clear hgz
                                      by_cases h0z : 0 ≤ zj
                                      · have g0z : decide (0 ≤ zj) = true := by simpa using h0z
                                        by_cases hzn : zj = z - ta + lb
                                        · have gzn : (zj != z - ta + lb) = false := by rw [hzn]; simp
                                          have hpn : pushS g.code.length (([x.2.toNat, kk + 1] : List Nat).drop (j + 1)) n (Hj.set nj n) = pushS g.code.length (nexts x kk) n Hk := by
                                            have h := unhide HPU2
                                            rw [if_neg (by rw [unhide HNN]; have := unhide HL; omega)] at h
                                            exact h
                                          rw [unhide HNN] at hpn
                                          have HPN := hide hpn
                                          have HZN := hide hzn
                                          clear hpn hzn
                                          go_wp2
                                          go_roundg (2 - (j + 1))
                                          case measure => omega
                                          case rel => exact ⟨j + 1, Hj.set nj (z - ta + lb), by omega, rfl, by go_num, by rw [unhide HNN]; exact HPN, HIN2, HHS, HKS⟩
                                        · have gzn : (zj != z - ta + lb) = true := by rw [bne_iff_ne]; exact hzn
                                          have hnone : heightsS p g.code = none := by
                                            refine (unhide hfail) ?_
                                            rw [unhide HST2, unhide HBB]
                                            simp only
                                            rw [← unhide HPU2, if_pos (.inr ⟨h0z, by rw [unhide HNN]; exact hzn⟩)]
                                          have HNO := hide hnone
                                          have HZN := hide hzn
                                          clear hnone hzn
                                          go_wp2
                                          go_ret2
                                          exact ⟨.slice none 0 0, by rw [unhide HNO]; rfl, by rw [unhide HNO]; exact IntsAt.nil _, unhide KWj⟩
                                      · have g0z : decide (0 ≤ zj) = false := by simpa using h0z
                                        have hpn : pushS g.code.length (([x.2.toNat, kk + 1] : List Nat).drop (j + 1)) n (Hj.set nj n) = pushS g.code.length (nexts x kk) n Hk := by
                                          have h := unhide HPU2
                                          rw [if_neg (by have := unhide HL; omega)] at h
                                          exact h
                                        rw [unhide HNN] at hpn
                                        have HPN := hide hpn
                                        clear hpn
                                        go_wp2
                                        go_roundg (2 - (j + 1))
                                        case measure => omega
                                        case rel => exact ⟨j + 1, Hj.set nj (z - ta + lb), by omega, rfl, by go_num, by rw [unhide HNN]; exact HPN, HIN2, HHS, HKS⟩
                                  · have hje : j = 2 := by omega
                                    have hfin : stepS p g.code Hk kk = some Hj := by
                                      rw [unhide HST2, unhide HBB]
                                      simp only
                                      rw [← unhide HPU, hje]
                                      rfl
                                    obtain ⟨_, hi2, _, hs2⟩ := step_ok ⟨g, rfl, unhide HR⟩ hkc (unhide HIK).1 hfin
                                    have hsn := hs2 (unhide HIK).2
                                    have hrk : roundS p g.code (kk + 1) Hr = some Hj := by rw [unhide HRN]; exact hfin
                                    have HRK2 := hide hrk
                                    have HI2 := hide (And.intro hi2 hsn)
                                    clear hje hfin hi2 hs2 hsn hrk
                                    go_wp2
                                    go_roundg (m - (kk + 1))
                                    case measure => omega
                                    case rel => exact ⟨kk + 1, Hj, by omega, rfl, by go_num, HRK2, HI2, HHj, KWj⟩
                              · have g10 : (x.1 == 10) = false := beq_eq_false_iff_ne.2 h10
                                have H10 := hide h10
                                clear h10
                                by_cases h12 : x.1 = 12
                                · have g12 : (x.1 != 12) = false := by rw [h12]; rfl
                                  have H12k := hide h12
                                  clear h12
                                  have hfin : stepS p g.code Hk kk = some Hk := by
                                    rw [unhide HST2, unhide HBB]
                                    simp only
                                    have : nexts x kk = [] := by unfold nexts; rw [if_pos (unhide H12k)]
                                    rw [this]
                                    rfl
                                  have hrk : roundS p g.code (kk + 1) Hr = some Hk := by rw [unhide HRN]; exact hfin
                                  have HRK2 := hide hrk
                                  clear hfin hrk
                                  go_wp2
                                  go_loopg [14] 0 (fun gk3 s14 wr => s14 = .int .i64 0 ∧ Hid (HeightsAt wr w.heap.size Hk) ∧ Hid (Kept w wr))
                                  case atStart => exact ⟨rfl, HHb, KB⟩
                                  case round =>
                                    obtain ⟨rfl, HHj, KWj⟩ := hrel
                                    go_wp2
                                    go_roundg (m - (kk + 1))
                                    case measure => omega
                                    case rel => exact ⟨kk + 1, Hk, by omega, rfl, by go_num, HRK2, HIK, HHj, KWj⟩
                                · have g12 : (x.1 != 12) = true := by rw [bne_iff_ne]; exact h12
                                  have H12k := hide h12
                                  clear h12
                                  go_wp2_with (at_builtin; refine wpList_append_own _ rfl _ _ 46 rfl wc.heap.size 3 i0 (.int .i64 0) 1 8 Tryd.underlying46 hi0 hz0 hz1 hz2 rfl (by decide) _ _ _ rfl ((unhide HNIL).alloc _) ⟨wc.heap.size, 0, none⟩ 1 1 [.int .i64 ((kk : Int) + 1)] rfl rfl (one_new _ _) (one_int _) (by decide) (by decide) (by simp) ?_; intro v' wn hown' hgrow _; obtain ⟨gq, cq, hv'⟩ := ownsRow_slice (by decide) hown'; subst hv'; have KN_wn := hide (grown_nil hgrow); have u0 := (unhide KN_wn).cell v0; have u1 := (unhide KN_wn).cell v1; have HO_wn := hide hown'; clear hown' hgrow)
                                  have KN := KN_wn
                                  obtain ⟨hgq, hrow⟩ := row_cells (unhide HO_wn)
                                  have KW0 : Hid (Kept w wn) := (unhide KB).trans (unhide KN)
                                  have HH0 : Hid (HeightsAt wn w.heap.size Hk) := (unhide HHb).kept (unhide KN)
                                  have hwlt : w.heap.size < wc.heap.size := (unhide HHb).lt
                                  have hL : nexts x kk = [kk + 1] := by unfold nexts; rw [if_neg (unhide H12k), if_neg (unhide H9), if_neg (unhide H10)]
                                  have hcs : ∀ t, t < 1 → wn.cell? ⟨gq, t, none⟩ = some (.int .i64 ((([kk + 1] : List Nat).getD t 0 : Nat) : Int)) := by
                                    intro t ht
                                    obtain rfl : t = 0 := by omega
                                    rw [hrow 0 (.int .i64 ((kk : Int) + 1)) rfl]
                                    simp
                                  have hle : ∀ t, t ∈ ([kk + 1] : List Nat) → t ≤ m := by
                                    intro t ht
                                    rw [← hL] at ht
                                    have := nexts_le ⟨g, rfl, unhide HR⟩ (unhide HXK) ht
                                    rw [unhide HL]
                                    exact this
                                  have hn0 := beh_nonneg ⟨g, rfl, unhide HR⟩ (List.mem_of_getElem? (unhide HXK)) (unhide HBB)
                                  have HLL := hide hL
                                  have HCS := hide hcs
                                  have HLE := hide hle
                                  have HN0 := hide hn0
                                  clear hrow hL hcs hle hn0 u0 u1 v0 v1
                                  go_loopg [14] 1 (fun gk3 s14 wr => ∃ (j : Nat) (Hj : List Int), j ≤ 1 ∧ gk3 = 1 - j ∧ s14 = .int .i64 j ∧ Hid (pushS g.code.length (([kk + 1] : List Nat).drop j) n Hj = pushS g.code.length (nexts x kk) n Hk) ∧ Hid (Inv g.code Hj) ∧ Hid (HeightsAt wr w.heap.size Hj) ∧ Hid (KeptX w.heap.size wn wr))
                                  case atStart => exact ⟨0, Hk, Nat.zero_le _, rfl, rfl, by rw [unhide HLL]; exact hide rfl, hide (unhide HIK).1, HH0, hide (KeptX.refl _ _)⟩
                                  case round =>
                                    obtain ⟨j, Hj, hjc, hg3, rfl, HPU, HIJ, HHj, HKj⟩ := hrel
                                    have KWj : Hid (Kept w wr) := KeptX.kept (unhide KW0) (Nat.le_refl _) (unhide HKj)
                                    by_cases hltj : j < 1
                                    · have d0 := (unhide HKj).cell (p := ⟨gq, j, none⟩) (by simp; omega) ((unhide HCS) j hltj)
                                      have hdr : ([kk + 1] : List Nat).drop j = ([kk + 1] : List Nat).getD j 0 :: ([kk + 1] : List Nat).drop (j + 1) := drop_one _ j hltj
                                      have hmem : ([kk + 1] : List Nat).getD j 0 ∈ ([kk + 1] : List Nat) := getD_mem _ j hltj
                                      have hpu := unhide HPU
                                      rw [hdr] at hpu
                                      generalize ([kk + 1] : List Nat).getD j 0 = nj at *
                                      have hnj := (unhide HLE) nj hmem
                                      have hpush : pushS g.code.length (nj :: ([kk + 1] : List Nat).drop (j + 1)) n Hj = if nj = g.code.length ∨ (0 ≤ Hj.getD nj 0 ∧ Hj.getD nj 0 ≠ n) then none else pushS g.code.length (([kk + 1] : List Nat).drop (j + 1)) n (Hj.set nj n) := rfl
                                      rw [hpush] at hpu
                                      have HPU2 := hide hpu
                                      clear hpush hpu hdr hmem
                                      by_cases hnl : nj = m
                                      · have gnl : ((nj : Int) == (m : Int)) = true := beq_iff_eq.2 (by omega)
                                        have hnone : heightsS p g.code = none := by
                                          refine (unhide hfail) ?_
                                          rw [unhide HST2, unhide HBB]
                                          simp only
                                          rw [← unhide HPU2, if_pos (.inl (by rw [hnl]; exact unhide HL))]
                                        have HNO := hide hnone
                                        have HNL := hide hnl
                                        clear hnone hnl
                                        go_wp2
                                        go_ret2
                                        exact ⟨.slice none 0 0, by rw [unhide HNO]; rfl, by rw [unhide HNO]; exact IntsAt.nil _, unhide KWj⟩
                                      · have gnl : ((nj : Int) == (m : Int)) = false := beq_eq_false_iff_ne.2 (by omega)
                                        have hnlt : nj < m := by omega
                                        have hnlc : nj < g.code.length := by rw [← unhide HL]; exact hnlt
                                        have d1 := (unhide HHj).cell (k := nj) (by rw [(unhide HIJ).1]; exact hnlc)
                                        have d2 := (unhide HHj).frozen nj
                                        have HHS := hide ((unhide HHj).set nj n)
                                        have HKS := hide ((unhide HKj).setCell (p := ⟨w.heap.size, nj, none⟩) (.inl rfl) (.int .i64 n))
                                        have HIN2 : Hid (Inv g.code (Hj.set nj n)) := by
                                          refine hide ⟨by rw [List.length_set]; exact (unhide HIJ).1, fun t ht => ?_⟩
                                          rw [getD_set (by rw [(unhide HIJ).1]; exact hnlc)]
                                          split
                                          · exact .inr (unhide HN0).1
                                          · exact (unhide HIJ).2 t ht
                                        rw [unhide HNN] at HHS HKS HIN2
                                        have hzj := (unhide HIJ).2 nj hnlc
                                        generalize hgz : Hj.getD nj 0 = zj at *
                                        have HGZ := hide hgz
                                        clear hgz
                                        by_cases h0z : 0 ≤ zj
                                        · have g0z : decide (0 ≤ zj) = true := by simpa using h0z
                                          by_cases hzn : zj = z - ta + lb
                                          · have gzn : (zj != z - ta + lb) = false := by rw [hzn]; simp
                                            have hpn : pushS g.code.length (([kk + 1] : List Nat).drop (j + 1)) n (Hj.set nj n) = pushS g.code.length (nexts x kk) n Hk := by
                                              have h := unhide HPU2
                                              rw [if_neg (by rw [unhide HNN]; have := unhide HL; omega)] at h
                                              exact h
                                            rw [unhide HNN] at hpn
                                            have HPN := hide hpn
                                            have HZN := hide hzn
                                            clear hpn hzn
                                            go_wp2
                                            go_roundg (1 - (j + 1))
                                            case measure => omega
                                            case rel => exact ⟨j + 1, Hj.set nj (z - ta + lb), by omega, rfl, by go_num, by rw [unhide HNN]; exact HPN, HIN2, HHS, HKS⟩
                                          · have gzn : (zj != z - ta + lb) = true := by rw [bne_iff_ne]; exact hzn
                                            have hnone : heightsS p g.code = none := by
                                              refine (unhide hfail) ?_
                                              rw [unhide HST2, unhide HBB]
                                              simp only
                                              rw [← unhide HPU2, if_pos (.inr ⟨h0z, by rw [unhide HNN]; exact hzn⟩)]
                                            have HNO := hide hnone
                                            have HZN := hide hzn
                                            clear hnone hzn
                                            go_wp2
                                            go_ret2
                                            exact ⟨.slice none 0 0, by rw [unhide HNO]; rfl, by rw [unhide HNO]; exact IntsAt.nil _, unhide KWj⟩
                                        · have g0z : decide (0 ≤ zj) = false := by simpa using h0z
                                          have hpn : pushS g.code.length (([kk + 1] : List Nat).drop (j + 1)) n (Hj.set nj n) = pushS g.code.length (nexts x kk) n Hk := by
                                            have h := unhide HPU2
                                            rw [if_neg (by have := unhide HL; omega)] at h
                                            exact h
                                          rw [unhide HNN] at hpn
                                          have HPN := hide hpn
                                          clear hpn
                                          go_wp2
                                          go_roundg (1 - (j + 1))
                                          case measure => omega
                                          case rel => exact ⟨j + 1, Hj.set nj (z - ta + lb), by omega, rfl, by go_num, by rw [unhide HNN]; exact HPN, HIN2, HHS, HKS⟩
                                    · have hje : j = 1 := by omega
                                      have hfin : stepS p g.code Hk kk = some Hj := by
                                        rw [unhide HST2, unhide HBB]
                                        simp only
                                        rw [← unhide HPU, hje]
                                        rfl
                                      obtain ⟨_, hi2, _, hs2⟩ := step_ok ⟨g, rfl, unhide HR⟩ hkc (unhide HIK).1 hfin
                                      have hsn := hs2 (unhide HIK).2
                                      have hrk : roundS p g.code (kk + 1) Hr = some Hj := by rw [unhide HRN]; exact hfin
                                      have HRK2 := hide hrk
                                      have HI2 := hide (And.intro hi2 hsn)
                                      clear hje hfin hi2 hs2 hsn hrk
                                      go_wp2
                                      go_roundg (m - (kk + 1))
                                      case measure => omega
                                      case rel => exact ⟨kk + 1, Hj, by omega, rfl, by go_num, HRK2, HI2, HHj, KWj⟩
              · have hke2 : kk = m := by omega
                have hnx : roundsS p g.code (r + 1) ((start g.code).set 0 0) = some Hk := by
                  simp only [roundsS, unhide HRS, Option.bind_some]
                  have := unhide HRK
                  rw [hke2, unhide HL] at this
                  exact this
                have HNX := hide hnx
                clear hke2 hnx
                go_wp2
                go_roundg (m + 1 - (r + 1))
                case measure => omega
                case rel => exact ⟨r + 1, Hk, by omega, rfl, by go_num, HNX, HIK, HHk, HKk⟩
          · have hre : r = m + 1 := by omega
            have hres : heightsS p g.code = some Hr := by
              unfold heightsS
              have := unhide HL
              rw [if_neg (by omega), ← this, ← hre]
              exact unhide HRS
            have hR : Right p g.code := ⟨g, rfl, unhide HR⟩
            have hlen : Hr.length = m := by rw [(heightsS_ok hR hres).1.len]; exact (unhide HL).symm
            have HRES := hide hres
            have HLN := hide hlen
            clear hre hres hR hlen
            go_wp2
            go_ret2
            have hlen := unhide HLN
            refine ⟨.slice (some ⟨w.heap.size, 0, none⟩) m m, by rw [unhide HRES]; rfl, ?_, unhide HKr2⟩
            rw [unhide HRES]
            refine ⟨_, m, by simp only [Option.getD_some]; rw [hlen], by simp only [Option.getD_some]; omega, fun k z hz => ⟨w.heap.size, 0, rfl, ?_⟩⟩
            simp only [Option.getD_some] at hz
            have hk := (List.getElem?_eq_some_iff.1 hz).1
            have := (unhide HHr2).cell (k := k) hk
            rw [Nat.zero_add, this]
            simp [List.getD, hz]
end Go.Proofs.YtkepbeeioalmbabDoor
