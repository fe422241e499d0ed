/- DeskA, DeskD, OpA, OpE -/
import Derived.Test.YtokhibfenccijaaGreatDoorKB05
import Derived.Test.YtokhibfenccijaaGreatDoorKB01
import Derived.Maps.OwnSet
import Derived.Test.YtokhibfenccijaaGreatDoorChecked
import Derived.Laws.EntriesVeiled
set_option maxRecDepth 100000
set_option maxHeartbeats 8000000
namespace Go.Proofs.YtokhibfenccijaaGreatDoor
open Go.RowKit Go.Maps
def RowS (b : Nat) (w : World) (v : Value) (l : List (List UInt8)) : Prop := w.ownsRow b 9 1 v l.length (l.map strV) ∧ ∃ g cap, v = .slice (some ⟨g, 0, none⟩) l.length cap
theorem RowS.kept {b : Nat} {w w' : World} {v : Value} {l : List (List UInt8)} (h : RowS b w v l) (k : Kept w w') : RowS b w' v l := ⟨row_same' h.1 k, h.2⟩
theorem RowS.one (w : World) (x : List UInt8) : RowS w.heap.size (w.alloc (.cells #[.string ⟨x.toArray⟩] 9)) (.slice (some ⟨w.heap.size, 0, none⟩) 1 1) [x] :=
  ⟨⟨rfl, .inr ⟨w.heap.size, 1, _, rfl, Nat.le_refl _, lays_new rfl, Nat.le_refl _, by unfold maxLen; omega, rfl, rfl⟩⟩, _, _, rfl⟩
theorem RowS.low {a b : Nat} {w : World} {v : Value} {l : List (List UInt8)} (h : RowS b w v l) (hb : a ≤ b) : RowS a w v l := by
  obtain ⟨⟨h1, h2⟩, h3⟩ := h
  refine ⟨⟨h1, ?_⟩, h3⟩
  rcases h2 with h | ⟨g, cap, cur, e, hg, r⟩
  · exact .inl h
  · exact .inr ⟨g, cap, cur, e, Nat.le_trans hb hg, r⟩
theorem RowS.cells {b : Nat} {w : World} {v : Value} {l : List (List UInt8)} (h : RowS b w v l) : ∃ g cap, v = .slice (some ⟨g, 0, none⟩) l.length cap ∧ (0 < l.length → g < w.heap.size ∧ l.length ≤ cap) ∧ ∀ (j : Nat) x, l[j]? = some x → w.cell? ⟨g, j, none⟩ = some (strV x) := by
  obtain ⟨⟨h1, h2⟩, g, cap, rfl⟩ := h
  refine ⟨g, cap, rfl, ?_, ?_⟩ <;> rcases h2 with ⟨h, h0⟩ | ⟨g', cap', cur, e, hg, hh, hc, hm, hs, ht⟩
  · cases h
  · simp only [Value.slice.injEq, Option.some.injEq, Addr.mk.injEq, and_true, true_and] at e
    obtain ⟨rfl, rfl⟩ := e
    exact fun _ => ⟨(Array.getElem?_eq_some_iff.1 hh).1, hc⟩
  · cases h
  · simp only [Value.slice.injEq, Option.some.injEq, Addr.mk.injEq, and_true, true_and] at e
    obtain ⟨rfl, rfl⟩ := e
    intro j x hx
    have hj : (l.map strV)[j]? = some (strV x) := by rw [List.getElem?_map, hx]; rfl
    rw [← ht, List.getElem?_take] at hj
    split at hj
    · rw [cell_lays hh]; simpa using hj
    · cases hj
theorem RowS.app {b : Nat} {w : World} {v u : Value} {xs ys : List (List UInt8)} (h : RowS b w v xs) (hy : RowS b w u ys) (hb : b ≤ w.heap.size) (hx : xs.length ≤ 100000) (hl : ys.length ≤ 100000) :
    ∃ v' w', (Builtin.append_ #[38, 38] 38 #[v, u]).run Tryz.prog w = .ok v' w' ∧ (0 < xs.length + ys.length → RowS b w' v' (xs ++ ys)) ∧ Below b w w' := by
  obtain ⟨i0, hi0, hz0, hz1, hz2⟩ := info_parts strInfo
  obtain ⟨g, cap, rfl, _, hc⟩ := hy.cells
  obtain ⟨v', w', hrun, hown, hgrow, _, _⟩ := run_append_own_at (P := Tryz.prog) (w := w) b 38 38 9 i0 _ 1 16 Tryz.underlying38 hi0 hz0 hz1 hz2 rfl (by decide) v xs.length (xs.map strV) h.1 ⟨g, 0, none⟩ ys.length cap (ys.map strV) (by simp) (fun j u hj => by
      have : ((⟨g, 0, none⟩ : Addr).add j) = ⟨g, j, none⟩ := by unfold Addr.add; split <;> simp_all
      rw [this]
      rw [List.getElem?_map, Option.map_eq_some_iff] at hj
      obtain ⟨x, hx, rfl⟩ := hj
      exact hc j x hx) (fun u hu => by
      obtain ⟨x, _, rfl⟩ := List.mem_map.1 hu
      rfl) (by unfold maxLen; omega) (by omega) hb
  have hown' : w'.ownsRow b 9 1 v' (xs ++ ys).length ((xs ++ ys).map strV) := by simpa using hown
  refine ⟨v', w', hrun, fun h0 => ⟨hown', ?_⟩, Below.grown (a := w) (w := w) ⟨rfl, rfl, rfl, Nat.le_refl _, fun _ _ => rfl⟩ hgrow hb (fun g hg => (World.ownsRow.lt h.1 g hg).1)⟩
  obtain ⟨_, ⟨_, h9⟩ | ⟨g, cap, cur, rfl, _⟩⟩ := hown'
  · rw [List.length_append] at h9; omega
  · exact ⟨g, cap, rfl⟩
theorem numbers_row (w : World) (vl : Value) (l : List Int) (h : IntsW w vl l) (hl : l.length ≤ 1000) (hz : ∀ z ∈ l, I64 z) (ht : TabW w) :
    Calls Tryz.prog 58 #[vl] w fun e w' => ∃ g, e = .returned (.slice (some ⟨g, 0, none⟩) l.length l.length) ∧ RowS w.heap.size w' (.slice (some ⟨g, 0, none⟩) l.length l.length) (numsD l) ∧ Kept w w' := by
  refine (numbers_any w vl l h hl hz ht).mono ?_
  rintro e w' ⟨g, he, ⟨cur, h2, hs, hc⟩, hge, hk⟩
  have hln : (numsD l).length = l.length := by simp [numsD]
  refine ⟨g, he, ⟨⟨by simp, .inr ⟨g, l.length, cur, by rw [hln], hge, h2, by rw [hln]; exact Nat.le_refl _, by unfold maxLen; omega, by simpa using hs, ?_⟩⟩, g, l.length, by rw [hln]⟩, hk⟩
  have hs' : cur.size = l.length := by simpa using hs
  apply List.ext_getElem?
  intro j
  rw [List.getElem?_take]
  by_cases hj : j < l.length
  · obtain ⟨x, hx⟩ : ∃ x, (numsD l)[j]? = some x := ⟨_, List.getElem?_eq_getElem (by omega)⟩
    rw [if_pos (by omega), List.getElem?_map, hx]
    have := hc j x hx
    simpa using this
  · rw [if_neg (by omega), List.getElem?_eq_none (by simp; omega)]
def leftD (e : Int) : Ending := .panicked [{ v := .iface 22 (.int .i64 e), recovered := false }]
theorem must_ok (w : World) : Calls Tryz.prog 37 #[.int .i64 0] w fun e w' => e = .returned (.tuple #[]) ∧ w' = w := by
  go_enter Tryz.func37, Tryz.ntmps37
  go_wp2_with fail
  go_end0
  exact ⟨rfl, rfl⟩
theorem must_no (w : World) (z : Int) (hz : z ≠ 0) : Calls Tryz.prog 37 #[.int .i64 z] w fun e w' => e = leftD z ∧ w' = w := by
  have h1 : (z == 0) = false := by simpa using hz
  have h2 : (z != 0) = true := by rw [bne_iff_ne]; exact hz
  go_enter Tryz.func37, Tryz.ntmps37
  go_wp2_with fail
  exact ⟨rfl, rfl, rfl⟩
theorem fault_any (w : World) (z : Int) (hz : I64 z) (ht : TabW w) : Calls Tryz.prog 41 #[.int .i64 z] w fun e w' => ∃ g cap, e = .returned (.slice (some ⟨g, 0, none⟩) 2 cap) ∧ RowS w.heap.size w' (.slice (some ⟨g, 0, none⟩) 2 cap) (faultD z) ∧ Kept w w' := by
  have HC := hide (numbers_row ((w.alloc (.cells #[.string ⟨#[101, 114, 114, 111, 114]⟩] 9)).alloc (.cells #[.int .i64 z] 3)) (.slice (some ⟨w.heap.size + 1, 0, none⟩) 1 1) [z] ⟨_, _, rfl, by simp, fun i x hx => by
    have hi : i = 0 := by have := (List.getElem?_eq_some_iff.1 hx).1; simpa using this
    subst hi
    obtain rfl : z = x := by simpa using hx
    refine ⟨_, _, rfl, ?_⟩
    have h2 : ((w.alloc (.cells #[.string ⟨#[101, 114, 114, 111, 114]⟩] 9)).alloc (.cells #[.int .i64 z] 3)).heap[w.heap.size + 1]? = some (.cells #[.int .i64 z] 3) := lays_new (by simp)
    rw [cell_lays h2]
    rfl⟩ (by simp) (fun x hx => by obtain rfl := List.mem_singleton.1 hx; exact hz) (ht.kept (((Kept.refl w).alloc _).alloc _)))
  have H1 := hide (RowS.one w [101, 114, 114, 111, 114])
  have HK := hide (((Kept.refl w).alloc (.cells #[.string ⟨#[101, 114, 114, 111, 114]⟩] 9)).alloc (.cells #[.int .i64 z] 3))
  have HK1 := hide ((Kept.refl (w.alloc (.cells #[.string ⟨#[101, 114, 114, 111, 114]⟩] 9))).alloc (.cells #[.int .i64 z] 3))
  clear hz ht
  go_enter Tryz.func41, Tryz.ntmps41
  go_wp2_with fail
  refine (unhide HC).mono ?_
  rintro _ w2 ⟨g, rfl, hr, k2⟩
  have hk := (unhide HK).trans k2
  obtain ⟨v3, w3, hrun, hr3, hb3⟩ := RowS.app (((unhide H1).kept (unhide HK1)).kept k2) (hr.low (unhide HK).size) hk.size (by simp) (by simp [numsD])
  have hk3 : Kept w w3 := Below.trans hk hb3
  have hr3 := hr3 (by simp [numsD])
  obtain ⟨_, g3, c3, rfl⟩ := id hr3
  have HR := hide hrun
  have HR3 := hide hr3
  have HK3 := hide hk3
  clear hrun hr hr3 hk3 hb3 hk k2 HC H1 HK HK1
  simp only [List.length_cons, List.length_nil, Nat.zero_add] at HR ⊢
  go_wp2_with (at_builtin; refine unhide ?_)
  refine hide ?_
  refine wpList_appR _ rfl _ _ 38 rfl rfl rfl (unhide HR) ?_
  clear HR
  go_wp2_with fail
  go_ret
  exact ⟨_, _, rfl, unhide HR3, unhide HK3⟩
def rdF (v : Value) : Option (DataW Value × List MemPlace) := some (.held v, [])
abbrev mvD (f : FuncId) (D : Nat) : Value := .func (Fn.func f) #[.pointer (some ⟨D, 0, none⟩)] #[]
def aloneM (D : Nat) : DataW Value := (((((DataW.map []).put (.string [111, 117, 116]) (.held (mvD 102 D))).put (.string [108, 105, 110, 101]) (.held (mvD 103 D))).put (.string [107, 105, 110, 100, 115]) (.held (mvD 104 D))).put (.string [116, 114, 105, 109]) (.held (mvD 105 D))).put (.string [97, 103, 97, 105, 110]) (.held (mvD 15 D))
def withM (D : Nat) : DataW Value := ((DataW.map []).put (.string [115, 116, 101, 112]) (.held (mvD 107 D))).put (.string [104, 101, 105, 103, 104, 116, 115]) (.held (mvD 108 D))
theorem lawStr : Keyed Tryz.prog 9 := string_keyed Tryz.underlying9
theorem make_alone (u : World) : (Instr.makeMap 119 none).run Tryz.prog u = .ok (.map (some u.heap.size)) (u.alloc (.map #[] 0)) := by
  simp [Instr.makeMap, Result.andThen]
theorem make_with (u : World) : (Instr.makeMap 125 none).run Tryz.prog u = .ok (.map (some u.heap.size)) (u.alloc (.map #[] 0)) := by
  simp [Instr.makeMap, Result.andThen]
theorem tab_put {t e : TypeId} (ht : Tryz.prog.underlying t = some (.map 9 e)) {w0 w : World} {n : Nat} {M : DataW Value} (h : w.ownsMap Tryz.prog 9 rdF w0.heap.size n M) (hk : Kept w0 w) (hn : n ≤ 10) (k : List UInt8) (hkl : k.length ≤ 100) (v : Value) :
    ∃ w', (Instr.mapUpdate t (.map (some w0.heap.size)) (.string ⟨k.toArray⟩) v).run Tryz.prog w = .ok () w' ∧ w'.ownsMap Tryz.prog 9 rdF w0.heap.size (n + 1) (M.put (.string k) (.held v)) ∧ Kept w0 w' := by
  obtain ⟨w', h1, h2, h3⟩ := h.update (key := .string ⟨k.toArray⟩) (val := v) (kl := .string k) (d := .held v) (ps := []) lawStr ht (by unfold maxLen; omega) (by
    have := Go.WideMaps.keyOf_string_mk Tryz.underlying9 (s := ⟨k.toArray⟩) (by simp [ByteArray.size, maxLen]; omega)
    simpa using this) rfl
  exact ⟨w', h1, h2, Below.grown hk h3 hk.size (fun g e => by cases e; exact Nat.le_refl _)⟩
theorem dAlone (w : World) (D : Nat) : Calls Tryz.prog 70 #[.pointer (some ⟨D, 0, none⟩)] w fun e w' => e = .returned (.map (some w.heap.size)) ∧ w'.ownsMap Tryz.prog 9 rdF w.heap.size 5 (aloneM D) ∧ Kept w w' := by
  have hmk := make_alone w
  have hu := Tryz.underlying119
  obtain ⟨w1, r1, o1, k1⟩ := tab_put hu (World.ownsMap_made w _ _ _) ((Kept.refl w).alloc _) (by omega) [111, 117, 116] (by decide) (mvD 102 D)
  obtain ⟨w2, r2, o2, k2⟩ := tab_put hu o1 k1 (by omega) [108, 105, 110, 101] (by decide) (mvD 103 D)
  obtain ⟨w3, r3, o3, k3⟩ := tab_put hu o2 k2 (by omega) [107, 105, 110, 100, 115] (by decide) (mvD 104 D)
  obtain ⟨w4, r4, o4, k4⟩ := tab_put hu o3 k3 (by omega) [116, 114, 105, 109] (by decide) (mvD 105 D)
  obtain ⟨w5, r5, o5, k5⟩ := tab_put hu o4 k4 (by omega) [97, 103, 97, 105, 110] (by decide) (mvD 15 D)
  have HP := hide (And.intro o5 k5)
  clear o1 o2 o3 o4 o5 k1 k2 k3 k4 k5 hu
  dsimp only [mvD] at r1 r2 r3 r4 r5
  go_enter Tryz.func70, Tryz.ntmps70
  go_wp2_with fail
  go_ret
  exact ⟨rfl, unhide HP⟩
theorem dWith (w : World) (D : Nat) : Calls Tryz.prog 72 #[.pointer (some ⟨D, 0, none⟩)] w fun e w' => e = .returned (.map (some w.heap.size)) ∧ w'.ownsMap Tryz.prog 9 rdF w.heap.size 2 (withM D) ∧ Kept w w' := by
  have hmk := make_with w
  have hu := Tryz.underlying125
  obtain ⟨w1, r1, o1, k1⟩ := tab_put hu (World.ownsMap_made w _ _ _) ((Kept.refl w).alloc _) (by omega) [115, 116, 101, 112] (by decide) (mvD 107 D)
  obtain ⟨w2, r2, o2, k2⟩ := tab_put hu o1 k1 (by omega) [104, 101, 105, 103, 104, 116, 115] (by decide) (mvD 108 D)
  have HP := hide (And.intro o2 k2)
  clear o1 o2 k1 k2 hu
  dsimp only [mvD] at r1 r2
  go_enter Tryz.func72, Tryz.ntmps72
  go_wp2_with fail
  go_ret
  exact ⟨rfl, unhide HP⟩
open Go.RowKit
theorem isIndex_any (i n : Int) (w : World) :
    Calls Tryz.prog 82 #[.int .i64 i, .int .i64 n] w fun e w' => e = .returned (.bool (ixB i n)) ∧ w = w' := by
  by_cases h1 : 0 ≤ i
  · by_cases h2 : i < n
    · rw [ixB_true h1 h2]
      go_enter Tryz.func82, Tryz.ntmps82
      go_wp2
      go_ret
      exact ⟨rfl, rfl⟩
    · rw [ixB_false (by omega)]
      go_enter Tryz.func82, Tryz.ntmps82
      go_wp2
      go_ret
      exact ⟨rfl, rfl⟩
  · rw [ixB_false (by omega)]
    go_enter Tryz.func82, Tryz.ntmps82
    go_wp2
    go_ret
    exact ⟨rfl, rfl⟩
theorem hasRoom_any (a l : Int) (c : Value) (w : World) :
    Calls Tryz.prog 83 #[.agg #[.int .i64 a, .int .i64 l, c]] w fun e w' => e = .returned (.bool (roomB a l)) ∧ w' = w.alloc (.cells #[.int .i64 a, .int .i64 l, c] 69) := by
  by_cases h1 : 0 ≤ a
  · by_cases h2 : a ≤ l
    · by_cases h3 : l ≤ 4
      · rw [show roomB a l = true from by rw [roomB_iff]; exact ⟨h1, h2, h3⟩]
        go_enter Tryz.func83, Tryz.ntmps83
        go_wp2
        go_ret
        exact ⟨rfl, rfl⟩
      · rw [show roomB a l = false from by rw [← Bool.not_eq_true, roomB_iff]; omega]
        go_enter Tryz.func83, Tryz.ntmps83
        go_wp2
        go_ret
        exact ⟨rfl, rfl⟩
    · rw [show roomB a l = false from by rw [← Bool.not_eq_true, roomB_iff]; omega]
      go_enter Tryz.func83, Tryz.ntmps83
      go_wp2
      go_ret
      exact ⟨rfl, rfl⟩
  · rw [show roomB a l = false from by rw [← Bool.not_eq_true, roomB_iff]; omega]
    go_enter Tryz.func83, Tryz.ntmps83
    go_wp2
    go_ret
    exact ⟨rfl, rfl⟩
theorem may0_any (a : Int) (w : World) :
    Calls Tryz.prog 114 #[.int .i64 a] w fun e w' => e = .returned (.bool (a == 0)) ∧ w' = w := by
  go_enter Tryz.func114, Tryz.ntmps114
  go_wp2
  go_ret
  exact ⟨rfl, rfl⟩
theorem may1_any (a : Int) (w : World) :
    Calls Tryz.prog 115 #[.int .i64 a] w fun e w' => e = .returned (.bool (inB a 0 999)) ∧ w' = w := by
  by_cases h1 : 0 ≤ a
  · by_cases h2 : a ≤ 999
    · rw [inB_true h1 h2]
      go_enter Tryz.func115, Tryz.ntmps115
      go_wp2
      go_ret
      exact ⟨rfl, rfl⟩
    · rw [inB_false (by omega)]
      go_enter Tryz.func115, Tryz.ntmps115
      go_wp2
      go_ret
      exact ⟨rfl, rfl⟩
  · rw [inB_false (by omega)]
    go_enter Tryz.func115, Tryz.ntmps115
    go_wp2
    go_ret
    exact ⟨rfl, rfl⟩
theorem may2_any (a l : Int) (B : Nat) (w : World) (h : w.cell? ⟨B, 1, none⟩ = some (.int .i64 l)) :
    Calls Tryz.prog 116 #[.int .i64 a, .pointer (some ⟨B, 0, none⟩)] w fun e w' => e = .returned (.bool (ixB a l)) ∧ w' = w := by
  go_enter Tryz.func116, Tryz.ntmps116
  go_wp2_with (go_at_call 82; refine (isIndex_any _ _ _).mono ?_; rintro e w' ⟨rfl, rfl⟩)
  go_ret
  exact ⟨rfl, rfl⟩
theorem may3_any (a : Int) (B : Nat) (oa : Option Addr) (n cap : Nat) (w : World) (h : w.cell? ⟨B, 2, none⟩ = some (.slice oa n cap)) :
    Calls Tryz.prog 117 #[.int .i64 a, .pointer (some ⟨B, 0, none⟩)] w fun e w' => e = .returned (.bool (ixB a n)) ∧ w' = w := by
  go_enter Tryz.func117, Tryz.ntmps117
  go_wp2_with (go_at_call 82; refine (isIndex_any _ _ _).mono ?_; rintro e w' ⟨rfl, rfl⟩)
  go_ret
  exact ⟨rfl, rfl⟩
theorem may4_no (a : Int) (B : Nat) (oa : Option Addr) (n cap : Nat) (w : World) (h : w.cell? ⟨B, 0, none⟩ = some (.slice oa n cap)) (ha : ixB a n = false) :
    Calls Tryz.prog 118 #[.int .i64 a, .pointer (some ⟨B, 0, none⟩)] w fun e w' => e = .returned (.bool false) ∧ w' = w := by
  go_enter Tryz.func118, Tryz.ntmps118
  go_wp2_with (go_at_call 82; refine (isIndex_any _ _ _).mono ?_; rintro e w' ⟨rfl, rfl⟩)
  go_ret
  exact ⟨rfl, rfl⟩
theorem may4_yes (i B b o n cap : Nat) (ar lo : Int) (cv : Value) (w : World) (h : w.cell? ⟨B, 0, none⟩ = some (.slice (some ⟨b, o, none⟩) n cap)) (hi : i < n)
    (c0 : w.cell? ⟨b, o + i * 3, none⟩ = some (.int .i64 ar)) (c1 : w.cell? ⟨b, o + i * 3 + 1, none⟩ = some (.int .i64 lo)) (c2 : w.cell? ⟨b, o + i * 3 + 2, none⟩ = some cv) :
    Calls Tryz.prog 118 #[.int .i64 i, .pointer (some ⟨B, 0, none⟩)] w fun e w' => e = .returned (.bool (roomB ar lo)) ∧ Kept w w' := by
  have ha : ixB i n = true := ixB_true (by omega) (by omega)
  go_enter Tryz.func118, Tryz.ntmps118
  go_wp2_with (first | (go_at_call 82; refine (isIndex_any _ _ _).mono ?_; rintro e w' ⟨rfl, rfl⟩) | (go_at_call 83; refine (hasRoom_any _ _ _ _).mono ?_; rintro e w' ⟨rfl, rfl⟩))
  go_ret
  exact ⟨rfl, (Kept.refl _).alloc _⟩
theorem may4_any (p : List Fn) (v : Value) (a : Int) (B : Nat) (w : World) (h : w.cell? ⟨B, 0, none⟩ = some v) (hp : ProgAt w v p) :
    Calls Tryz.prog 118 #[.int .i64 a, .pointer (some ⟨B, 0, none⟩)] w fun e w' => e = .returned (.bool (ixB a p.length && roomB (p.getD a.toNat Fn.zero).args (p.getD a.toNat Fn.zero).locals)) ∧ Kept w w' := by
  obtain ⟨oa, cap, rfl, hl, hi⟩ := hp
  by_cases ha : 0 ≤ a ∧ a < p.length
  · obtain ⟨i, rfl⟩ := Int.eq_ofNat_of_zero_le ha.1
    obtain ⟨b, o, cv, rfl, c0, c1, c2, _⟩ := hi i _ (getD_of_lt p i Fn.zero (by omega))
    rw [Int.toNat_natCast, ixB_true ha.1 ha.2, Bool.true_and]
    exact may4_yes i B b o p.length cap _ _ cv w h (by omega) c0 c1 c2
  · rw [ixB_false ha, Bool.false_and]
    exact (may4_no a B oa p.length cap w h (ixB_false ha)).mono fun e w' ⟨h1, h2⟩ => ⟨h1, h2 ▸ Kept.refl _⟩
def mayV (Bp Bf : Nat) : Value := .agg #[.func (.func 114) #[] #[], .func (.func 115) #[] #[], .func (.func 116) #[] #[.pointer (some ⟨Bf, 0, none⟩)], .func (.func 117) #[] #[.pointer (some ⟨Bf, 0, none⟩)], .func (.func 118) #[] #[.pointer (some ⟨Bp, 0, none⟩)]]
theorem bounds_any (oa : Option Addr) (n cap : Nat) (ar lo : Int) (oc : Option Addr) (m cc : Nat) (w : World) :
    Calls Tryz.prog 84 #[.slice oa n cap, .agg #[.int .i64 ar, .int .i64 lo, .slice oc m cc]] w fun e w' => ∃ Bp Bf, e = .returned (mayV Bp Bf) ∧ w'.cell? ⟨Bp, 0, none⟩ = some (.slice oa n cap) ∧ w'.cell? ⟨Bf, 1, none⟩ = some (.int .i64 lo) ∧ w'.cell? ⟨Bf, 2, none⟩ = some (.slice oc m cc) ∧ Kept w w' := by
  go_enter Tryz.func84, Tryz.ntmps84
  go_wp2
  refine bodyPost_ret (v := mayV w.heap.size (w.heap.size + 1)) (by simp [results, Tryz.results84, go_sem, mayV]) rfl ⟨w.heap.size, w.heap.size + 1, rfl, ?_, ?_, ?_, ?_⟩
  · exact cell_lays (lays_alloc (lays_alloc (lays_new rfl) _) _) 0
  · exact cell_lays (lays_alloc (lays_new (by simp)) _) 1
  · exact cell_lays (lays_alloc (lays_new (by simp)) _) 2
  · exact (((Kept.refl _).alloc _).alloc _).alloc _
end Go.Proofs.YtokhibfenccijaaGreatDoor
