/- TextA, TextB, TextU, TextV, TextCc, TextC, ProgS, FlowS, OpM -/
import Derived.Test.YtjioipkfnekigaaGreatDoorTB01
import Derived.Test.YtjioipkfnekigaaGreatDoorShelf
import Derived.Lib.LaidTab
import Derived.Maps.AppendAt
import Derived.Lib.Builder
import Derived.Laws.Externs
import Derived.Lib.UnsafeStr
set_option maxRecDepth 100000
set_option maxHeartbeats 8000000
namespace Go.Proofs.YtjioipkfnekigaaGreatDoor
open Go.RowKit Go.Maps
def TabW (w : World) : Prop := Lib.TabIs Tryz.prog w "internal/strconv.uint64pow10" .u64 Lib.pow10Tab
theorem TabW.kept {w w' : World} (h : TabW w) (k : Kept w w') : TabW w' := by
  have hg : Tryz.prog.globalNamed "internal/strconv.uint64pow10" = some 4 := by kernel_rfl
  unfold TabW Lib.TabIs World.var? at h ⊢
  rw [hg] at h ⊢
  simp only [Option.bind_some] at h ⊢
  have hlt : 4 < w.heap.size := by
    cases hq : w.heap[4]? with
    | none => rw [hq] at h; cases h
    | some o => exact (Array.getElem?_eq_some_iff.1 hq).1
  rw [k.block _ hlt]
  exact h
theorem grow_kept (w : World) (k : Nat) (os : Array Obj) : Kept w (Sort.grow (w.drewN k) os) :=
  ⟨rfl, rfl, rfl, by simp [Sort.grow], fun g hg => by simp [Sort.grow, Array.getElem?_append, hg]⟩
def I64 (z : Int) : Prop := -9223372036854775808 ≤ z ∧ z ≤ 9223372036854775807
theorem itoa_any (w : World) (z : Int) (hz : I64 z) (ht : TabW w) : Calls Tryz.prog 65 #[.int .i64 z] w fun e w' => e = .returned (.string ⟨(Lib.itoa z).toArray⟩) ∧ Kept w w' :=
  (Tryz.strconv_Itoa z hz.1 hz.2 w ht).mono fun _ _ ⟨h1, k, os, h2⟩ => ⟨h1, h2 ▸ grow_kept w k os⟩
theorem strInfo : (Tryz.prog.info? 9).map (fun i => (i.zero, i.size, i.bytes)) = some (some (.string ⟨#[]⟩), 1, 16) := by kernel_rfl
theorem made_strs (m : Nat) : madeCells #[Value.string ⟨#[]⟩] (m * 1) = Array.replicate m (Value.string ⟨#[]⟩) := by
  apply Array.ext
  · simp [madeCells]
  · intro i h1 h2
    simp [madeCells, Nat.mod_one]
theorem make_strs (m : Nat) (hm : m ≤ 1000000) (u : World) : (Instr.makeSlice 62 (.int .i64 m) (.int .i64 m)).run Tryz.prog u =
    .ok (.slice (some ⟨u.heap.size, 0, none⟩) m m) (u.alloc (.cells (Array.replicate m (Value.string ⟨#[]⟩)) 9)) := by
  obtain ⟨i0, hi, hz0, hz1, hz2⟩ := info_parts strInfo
  have h := run_make (P := Tryz.prog) u 62 9 i0 (.string ⟨#[]⟩) Tryz.underlying62 hi hz0 .i64 .i64 (m : Int) (m : Int) (by omega) (Int.le_refl _) (by rw [hz2]; omega) (by omega)
  rw [Int.toNat_natCast] at h
  rw [← made_strs]
  simpa [hz1, Value.cells] using h
def strV (l : List UInt8) : Value := .string ⟨l.toArray⟩
def StrsAt (w : World) (g : Nat) (l : List (List UInt8)) : Prop := ∃ cur, w.heap[g]? = some (.cells cur 9) ∧ cur.size = l.length ∧ ∀ (i : Nat) x, l[i]? = some x → cur[i]? = some (strV x)
theorem numbers_any (w : World) (vl : Value) (l : List Int) (h : IntsW w vl l) (hl : l.length ≤ 1000) (hz : ∀ z ∈ l, I64 z) (ht : TabW w) :
    Calls Tryz.prog 43 #[vl] w fun e w' => ∃ g, e = .returned (.slice (some ⟨g, 0, none⟩) l.length l.length) ∧ StrsAt w' g (l.map Lib.itoa) ∧ w.heap.size ≤ g ∧ Kept w w' := by
  obtain ⟨oa, cap, rfl, hn, hi⟩ := h
  have hmk := make_strs l.length (by omega)
  generalize hN : l.length = n at *
  have HN := hide hN
  have HI := hide hi
  have HT := hide ht
  have HZ := hide hz
  have H1 : Hid (∃ cur, (w.alloc (.cells (Array.replicate n (Value.string ⟨#[]⟩)) 9)).heap[w.heap.size]? = some (.cells cur 9) ∧ cur.size = n ∧ (∀ (i : Nat) z, i < 0 → l[i]? = some z → cur[i]? = some (strV (Lib.itoa z))) ∧ Kept w (w.alloc (.cells (Array.replicate n (Value.string ⟨#[]⟩)) 9))) := hide ⟨_, lays_new rfl, by simp, fun i z h0 => by omega, (Kept.refl w).alloc _⟩
  have HG : Hid (w.heap.size ≤ w.heap.size) := hide (Nat.le_refl _)
  clear hi hN hn ht hz
  go_enter Tryz.func43, Tryz.ntmps43
  go_wp2_with fail
  generalize w.alloc (.cells (Array.replicate n (Value.string ⟨#[]⟩)) 9) = wm at H1 ⊢
  obtain ⟨G, hG⟩ : ∃ G, G = w.heap.size := ⟨_, rfl⟩
  rw [← hG] at H1 ⊢
  replace HG : Hid (w.heap.size ≤ G) := hide (by omega)
  clear hG hmk
  go_loopw [11] (fun s11 wr => ∃ k : Nat, k ≤ n ∧ s11 = .int .i64 k ∧ Hid (∃ cur, wr.heap[G]? = some (.cells cur 9) ∧ cur.size = n ∧ (∀ (i : Nat) z, i < k → l[i]? = some z → cur[i]? = some (strV (Lib.itoa z))) ∧ Kept w wr)) (fun s11 _ => n - (intOf s11).toNat)
  case atStart =>
    obtain ⟨cur, hh⟩ := unhide H1
    exact ⟨0, Nat.zero_le _, rfl, hide ⟨cur, hh⟩⟩
  case round =>
    obtain ⟨k, hkm, rfl, HW⟩ := hrel
    clear H1
    by_cases hk : k < n
    · obtain ⟨cur, a3, a4, a5, a6⟩ := unhide HW
      obtain ⟨x, hx⟩ : ∃ x, l[k]? = some x := ⟨_, List.getElem?_eq_getElem (by rw [unhide HN]; exact hk)⟩
      obtain ⟨b, o, rfl, c0⟩ := (unhide HI) k x hx
      replace c0 := a6.cell c0
      have hk0 : (0 : Int) ≤ (k : Int) := by omega
      have hk1 : (k : Int) < (n : Int) := by omega
      have HC := hide (itoa_any wr x ((unhide HZ) x (List.mem_of_getElem? hx)) ((unhide HT).kept a6))
      have HX := hide hx
      have HA := hide (And.intro a3 (And.intro a4 (And.intro a5 a6)))
      clear hx a3 a4 a5 a6 HW
      go_wp2_with fail
      refine (unhide HC).mono ?_
      rintro _ w2 ⟨rfl, k2⟩
      obtain ⟨a3, a4, a5, a6⟩ := unhide HA
      have g2 := lays_kept k2 a3
      obtain ⟨d1, c1⟩ : ∃ d, w2.cell? ⟨G, k, none⟩ = some d := ⟨_, (cell_lays g2 k).trans (Array.getElem?_eq_getElem (by omega))⟩
      have f1 := frozen_lays g2 k
      have HN2 : Hid (∃ cur, (w2.setCell ⟨G, k, none⟩ (.string ⟨(Lib.itoa x).toArray⟩)).heap[G]? = some (.cells cur 9) ∧ cur.size = n ∧ (∀ (i : Nat) z, i < k + 1 → l[i]? = some z → cur[i]? = some (strV (Lib.itoa z))) ∧ Kept w (w2.setCell ⟨G, k, none⟩ (.string ⟨(Lib.itoa x).toArray⟩))) := hide (by
        refine ⟨cur.setIfInBounds k (.string ⟨(Lib.itoa x).toArray⟩), lays_set g2 k _, by simp [a4], fun i y hi hy => ?_, (a6.trans k2).setCell (p := ⟨G, k, none⟩) (unhide HG) _⟩
        rw [Array.getElem?_setIfInBounds]
        by_cases hik : i = k
        · subst hik
          rw [if_pos rfl, if_pos (by omega)]
          rw [unhide HX] at hy
          cases hy
          rfl
        · rw [if_neg (fun e => hik e.symm)]
          exact a5 i y (by omega) hy)
      generalize (ByteArray.mk (Lib.itoa x).toArray) = S at *
      clear a3 a4 a5 a6 g2 k2 HA HC c0
      go_wp2_with fail
      go_roundw
      case rel => exact ⟨k + 1, by omega, by go_num, HN2⟩
      case measure => simp [intOf]; omega
    · obtain rfl : k = n := by omega
      go_wp2
      go_ret
      obtain ⟨cur, a3, a4, a5, a6⟩ := unhide HW
      refine ⟨G, rfl, ⟨cur, a3, by simp [a4, unhide HN], fun i x hx => ?_⟩, unhide HG, a6⟩
      rw [List.getElem?_map, Option.map_eq_some_iff] at hx
      obtain ⟨z, hz, rfl⟩ := hx
      exact a5 i z (by have := (List.getElem?_eq_some_iff.1 hz).1; have := unhide HN; omega) hz
theorem strs_app (a b : List UInt8) : (ByteArray.mk a.toArray) ++ (ByteArray.mk b.toArray) = ⟨(a ++ b).toArray⟩ := by
  apply ByteArray.ext
  simp
theorem flat_strs (xs : List (List UInt8)) : (xs.map (fun x => ByteArray.mk x.toArray)).map (·.data.toList) = xs := by simp [Function.comp_def]
theorem wLine_any (w : World) (g c : Nat) (xs : List (List UInt8)) (hc : xs.length ≤ c) (h : ∀ (j : Nat) x, xs[j]? = some x → w.cell? ⟨g, j, none⟩ = some (strV x)) (hg : g < w.heap.size) (hl : (Lib.join xs [32]).length ≤ 1000000) (hx : xs.length ≤ 1000) :
    Calls Tryz.prog 42 #[.slice (some ⟨g, 0, none⟩) xs.length c] w fun e w' => e = .returned (strV (Lib.join xs [32] ++ [10])) ∧ Kept w w' := by
  have HC : Hid (Calls Tryz.prog 64 #[.slice (some ⟨g, 0, none⟩) xs.length c, .string ⟨#[32]⟩] w fun e w' => e = .returned (.string ⟨(Lib.join xs [32]).toArray⟩) ∧ Kept w w') := hide (by
    have := Tryz.strings_Join g 0 c (xs.map (fun x => ByteArray.mk x.toArray)) ⟨#[32]⟩ w (fun j x hj => by
      rw [List.getElem?_map, Option.map_eq_some_iff] at hj
      obtain ⟨y, hy, rfl⟩ := hj
      rw [Nat.zero_add]
      exact h j y hy) hg (by simp; omega) (by simpa using hc) (by rw [flat_strs]; exact Nat.le_trans hl (by omega))
    rw [flat_strs, List.length_map] at this
    exact this)
  have hE := strs_app (Lib.join xs [32]) [10]
  have hJ : ¬ 9223372036854775807 < (ByteArray.mk (Lib.join xs [32]).toArray).size + 1 := by rw [show (ByteArray.mk (Lib.join xs [32]).toArray).size = (Lib.join xs [32]).length by simp [ByteArray.size]]; omega
  unfold strV
  generalize (ByteArray.mk (Lib.join xs [32]).toArray) = J at *
  generalize (ByteArray.mk (Lib.join xs [32] ++ [10]).toArray) = R at *
  generalize xs.length = n at *
  clear h hl hx hc
  go_enter Tryz.func42, Tryz.ntmps42
  go_wp2_with fail
  refine (unhide HC).mono ?_
  rintro _ w2 ⟨rfl, k2⟩
  have HK := hide k2
  clear k2 HC
  go_wp2_with fail
  go_ret
  exact ⟨rfl, unhide HK⟩
theorem join_len (xs : List (List UInt8)) (k : Nat) (h : ∀ x ∈ xs, x.length ≤ k) : (Lib.join xs [32]).length ≤ xs.length * (k + 1) := by
  induction xs with
  | nil => simp [Lib.join]
  | cons x xs ih =>
    have h1 := h x (by simp)
    have h2 := ih (fun y hy => h y (by simp [hy]))
    cases xs with
    | nil => simp [Lib.join, List.intercalate] at *; omega
    | cons y ys =>
      simp only [Lib.join, List.intercalate, List.intersperse, List.flatten_cons, List.length_append, List.length_cons, List.length_nil] at *
      rw [Nat.add_mul]
      omega
theorem dec_len (n : Nat) : ∀ k, n < 10 ^ k → 0 < k → (Lib.decDigits n).length ≤ k := by
  intro k
  induction k generalizing n with
  | zero => intro _ h; omega
  | succ k ih =>
    intro h _
    unfold Lib.decDigits
    split
    · simp
    · have h1 : n / 10 < 10 ^ k := by rw [Nat.pow_succ] at h; omega
      have h2 : 0 < k := by
        cases k with
        | zero => simp at h; omega
        | succ k => omega
      have := ih (n / 10) h1 h2
      simp
      omega
theorem itoa_len {z : Int} (h : I64 z) : (Lib.itoa z).length ≤ 20 := by
  unfold Lib.itoa
  obtain ⟨h1, h2⟩ := h
  split
  · have := dec_len z.natAbs 19 (by simp; omega) (by omega)
    simp
    omega
  · have := dec_len z.toNat 19 (by simp; omega) (by omega)
    omega
theorem row_same' {w w' : World} {base : Nat} {e : TypeId} {size : Nat} {v : Value} {n : Nat} {xs : List Value} (h : w.ownsRow base e size v n xs) (k : Kept w w') : w'.ownsRow base e size v n xs := by
  refine ⟨h.1, ?_⟩
  rcases h.2 with hn | ⟨g, cap, cur, rfl, hb, hgg, rest⟩
  · exact .inl hn
  · exact .inr ⟨g, cap, cur, rfl, hb, lays_kept k hgg, rest⟩
theorem tLine_any (w : World) (word : List UInt8) (vl : Value) (l : List Int) (h : IntsW w vl l) (hw : word.length ≤ 1000) (hl : l.length ≤ 10) (hz : ∀ z ∈ l, I64 z) (ht : TabW w) :
    Calls Tryz.prog 19 #[.string ⟨word.toArray⟩, vl] w fun e w' => e = .returned (strV (lineT word l)) ∧ Kept w w' := by
  obtain ⟨i0, hi0, hz0, hz1, hz2⟩ := info_parts strInfo
  have HC := hide (numbers_any (w.alloc (.cells #[.string ⟨word.toArray⟩] 9)) vl l (h.kept ((Kept.refl w).alloc _)) (by omega) hz (ht.kept ((Kept.refl w).alloc _)))
  have HRW : Hid ((w.alloc (.cells #[.string ⟨word.toArray⟩] 9)).ownsRow w.heap.size 9 1 (.slice (some ⟨w.heap.size, 0, none⟩) 1 1) 1 [strV word]) := hide ⟨rfl, .inr ⟨w.heap.size, 1, _, rfl, Nat.le_refl _, lays_new rfl, Nat.le_refl _, by unfold maxLen; omega, rfl, rfl⟩⟩
  have HLJ : Hid ((Lib.join (word :: l.map Lib.itoa) [32]).length ≤ 1000000) := hide (by
    have := join_len (word :: l.map Lib.itoa) 1000 (fun x hx => by
      rcases List.mem_cons.1 hx with rfl | hx
      · exact hw
      · obtain ⟨z, hz', rfl⟩ := List.mem_map.1 hx
        have := itoa_len (hz z hz')
        omega)
    simp only [List.length_cons, List.length_map] at this
    have h2 : (l.length + 1) * (1000 + 1) ≤ 11 * 1001 := Nat.mul_le_mul (by omega) (by omega)
    omega)
  unfold lineT
  obtain ⟨oa, cap, rfl, _⟩ := h
  generalize hN : l.length = n at *
  have HN := hide hN
  clear hz ht hw hN
  generalize (ByteArray.mk word.toArray) = WD at *
  go_enter Tryz.func19, Tryz.ntmps19
  go_wp2_with fail
  refine (unhide HC).mono ?_
  rintro _ w2 ⟨g, rfl, ⟨cur, h2, hs, hc⟩, hge, k2⟩
  obtain ⟨v3, w3, hrun, hown, hgrow, _, _⟩ := run_append_own_at (P := Tryz.prog) (w := w2) w.heap.size 62 62 9 i0 _ 1 16 Tryz.underlying62 hi0 hz0 hz1 hz2 rfl (by decide) _ 1 [strV word] (row_same' (unhide HRW) k2) ⟨g, 0, none⟩ n n ((l.map Lib.itoa).map strV) (by simp [unhide HN]) (fun j u hj => by
      have : ((⟨g, 0, none⟩ : Addr).add j) = ⟨g, j, none⟩ := by unfold Addr.add; split <;> simp_all
      rw [this, cell_lays h2]
      rw [List.getElem?_map, Option.map_eq_some_iff] at hj
      obtain ⟨x, hx, rfl⟩ := hj
      exact hc j x hx) (fun u hu => by
      obtain ⟨x, _, rfl⟩ := List.mem_map.1 hu
      rfl) (by unfold maxLen; omega) (by omega) (by have := k2.size; simp at this; omega)
  have hK3 : Kept w w3 := Below.grown (a := w) (w := w2) ((Kept.refl w).alloc _ |>.trans k2) hgrow (by have := k2.size; simp at this; omega) (fun g hg => (World.ownsRow.lt (row_same' (unhide HRW) k2) g hg).1)
  obtain ⟨g3, cap3, cur3, rfl, hg3, hcap3, hcur3⟩ : ∃ g3 cap3 cur3, v3 = .slice (some ⟨g3, 0, none⟩) (1 + n) cap3 ∧ w3.heap[g3]? = some (.cells cur3 9) ∧ 1 + n ≤ cap3 ∧ ∀ (j : Nat) u, ([strV word] ++ (l.map Lib.itoa).map strV)[j]? = some u → cur3[j]? = some u := by
    obtain ⟨hl0, ⟨_, h0⟩ | ⟨g3, cap3, cur3, rfl, _, hh, h1, _, _, htk⟩⟩ := hown
    · omega
    · refine ⟨g3, cap3, cur3, rfl, hh, h1, fun j u hj => ?_⟩
      rw [← htk, List.getElem?_take] at hj
      split at hj
      · simpa using hj
      · cases hj
  have HL : Hid (Calls Tryz.prog 42 #[.slice (some ⟨g3, 0, none⟩) (1 + n) cap3] w3 fun e w' => e = .returned (strV (Lib.join (word :: l.map Lib.itoa) [32] ++ [10])) ∧ Kept w3 w') := hide (by
    have hlen : (word :: l.map Lib.itoa).length = 1 + n := by simp [unhide HN]; omega
    have := wLine_any w3 g3 cap3 (word :: l.map Lib.itoa) (by omega) (fun j x hj => by
      rw [cell_lays hg3]
      exact hcur3 j _ (by rw [show [strV word] ++ (l.map Lib.itoa).map strV = (word :: l.map Lib.itoa).map strV by simp, List.getElem?_map, hj]; rfl)) (Array.getElem?_eq_some_iff.1 hg3).1 (unhide HLJ) (by omega)
    rwa [hlen] at this)
  have HR := hide hrun
  have HK := hide hK3
  clear hK3 hrun hown hgrow hg3 hcap3 hcur3 h2 hs hc hge k2 HRW HLJ HC
  go_wp2_with (at_builtin; refine unhide ?_)
  refine hide ?_
  refine wpList_appR _ rfl (.tmp 6) (.tmp 8) 62 rfl rfl rfl (unhide HR) ?_
  clear HR
  go_wp2_with fail
  refine (unhide HL).mono ?_
  rintro _ w4 ⟨rfl, k4⟩
  replace HK := hide ((unhide HK).trans k4)
  clear k4 HL
  unfold strV
  generalize hRR : (ByteArray.mk (Lib.join (word :: l.map Lib.itoa) [32] ++ [10]).toArray) = R at *
  go_wp2_with fail
  go_ret
  exact ⟨by rw [strV, hRR]; rfl, unhide HK⟩
def TKAt (w : World) : Prop := ∀ k, k < 17 → w.cell? ⟨0, k * 2, none⟩ = some (strV (tkS.getD k ([], 0)).1) ∧ w.cell? ⟨0, k * 2 + 1, none⟩ = some (.int .i64 ((tkS.getD k ([], 0)).2 : Nat))
theorem TKAt.kept {w w' : World} (h : TKAt w) (k : Kept w w') : TKAt w' := fun i hi => ⟨k.cell (h i hi).1, k.cell (h i hi).2⟩
theorem tk_len (k : Nat) : (tkS.getD k ([], 0)).1.length ≤ 6 := by
  by_cases h : k < 17
  · revert h; revert k; decide
  · rw [show tkS.getD k ([], 0) = ([], 0) by simp [List.getD, List.getElem?_eq_none (show tkS.length ≤ k by simp [tkS]; omega)]]; simp
theorem opLine_any (w : World) (k : Nat) (a : Int) (hk : k < 17) (ha : I64 a) (ht : TabW w) (htk : TKAt w) :
    Calls Tryz.prog 20 #[.agg #[.int .i64 k, .int .i64 a]] w fun e w' => e = .returned (strV (opT (k, a))) ∧ Kept w w' := by
  have H0 : Hid (∀ u, Kept w u → Calls Tryz.prog 19 #[.string ⟨(tkS.getD k ([], 0)).1.toArray⟩, .slice none 0 0] u fun e w' => e = .returned (strV (lineT (tkS.getD k ([], 0)).1 [])) ∧ Kept u w') := hide fun u hu => tLine_any u _ _ [] (IntsW.nil u) (by have := tk_len k; omega) (by simp) (by simp) (ht.kept hu)
  have H1 : Hid (∀ u b, Kept w u → u.heap[b]? = some (.cells #[.int .i64 a] 3) → Calls Tryz.prog 19 #[.string ⟨(tkS.getD k ([], 0)).1.toArray⟩, .slice (some ⟨b, 0, none⟩) 1 1] u fun e w' => e = .returned (strV (lineT (tkS.getD k ([], 0)).1 [a])) ∧ Kept u w') := hide fun u b hu hb => tLine_any u _ _ [a] ⟨_, _, rfl, by simp, fun i z hz => ⟨b, 0, rfl, by
      rw [cell_lays hb, Nat.zero_add]
      cases i with
      | zero => simpa using hz
      | succ i => simp at hz⟩⟩ (by have := tk_len k; omega) (by simp) (by simpa using ha) (ht.kept hu)
  have b0 : ∀ o : Obj, (w.alloc o).cell? ⟨0, k * 2, none⟩ = some (strV (tkS.getD k ([], 0)).1) := fun o => ((Kept.refl w).alloc o).cell (htk k hk).1
  have b1 : ∀ o : Obj, (w.alloc o).cell? ⟨0, k * 2 + 1, none⟩ = some (.int .i64 ((tkS.getD k ([], 0)).2 : Nat)) := fun o => ((Kept.refl w).alloc o).cell (htk k hk).2
  unfold opT
  simp only [Int.toNat_natCast]
  generalize (tkS.getD k ([], 0)).1 = wd at *
  generalize (tkS.getD k ([], 0)).2 = nn at *
  unfold strV at b0
  generalize (ByteArray.mk wd.toArray) = WD at *
  have hk0 : (0 : Int) ≤ (k : Int) := by omega
  have hk1 : (k : Int) < 17 := by omega
  clear ht htk
  by_cases hn : nn = 0
  · subst hn
    rw [if_pos rfl]
    go_enter Tryz.func20, Tryz.ntmps20
    go_wp2_with fail
    refine ((unhide H0) _ (((Kept.refl w).alloc _).alloc _)).mono ?_
    rintro _ w4 ⟨rfl, k4⟩
    have HK := hide ((((Kept.refl w).alloc (.cells #[.int .i64 (k : Int), .int .i64 a] 44)).alloc (.cells #[.string WD, .int .i64 0] 85)).trans k4)
    clear k4 H0 H1 b0 b1
    unfold strV
    generalize hRR : (ByteArray.mk (lineT wd []).toArray) = R at *
    go_wp2_with fail
    go_ret
    exact ⟨by rw [strV, hRR]; rfl, unhide HK⟩
  · rw [if_neg hn]
    have hn0 : ((nn : Int) == 0) = false := by simp; omega
    go_enter Tryz.func20, Tryz.ntmps20
    go_wp2_with fail
    refine ((unhide H1) _ _ ((((Kept.refl w).alloc _).alloc _).alloc _) (lays_new (by simp))).mono ?_
    rintro _ w4 ⟨rfl, k4⟩
    have HK := hide (((((Kept.refl w).alloc (.cells #[.int .i64 (k : Int), .int .i64 a] 44)).alloc (.cells #[.string WD, .int .i64 (nn : Int)] 85)).alloc (.cells #[.int .i64 a] 3)).trans k4)
    clear k4 H0 H1 b0 b1
    unfold strV
    generalize hRR : (ByteArray.mk (lineT wd [a]).toArray) = R at *
    go_wp2_with fail
    go_ret
    exact ⟨by rw [strV, hRR]; rfl, unhide HK⟩
theorem u8wrap (n : Nat) : IntKind.wrap .u8 (48 + (n : Int).tmod 10) = 48 + (n : Int) % 10 := by
  rw [Int.tmod_eq_emod_of_nonneg (by omega)]
  unfold IntKind.wrap
  simp [IntKind.signed, IntKind.bits]
  omega
theorem decDigits_small {n : Nat} (h : n < 10) : Lib.decDigits n = [UInt8.ofNat (48 + n)] := by unfold Lib.decDigits; rw [dif_pos h]
theorem decDigits_great {n : Nat} (h : ¬ n < 10) : Lib.decDigits n = Lib.decDigits (n / 10) ++ [UInt8.ofNat (48 + n % 10)] := by rw [Lib.decDigits, dif_neg h]
theorem digit_conv (n : Nat) (w : World) : (convert 48 9 (.slice (some ⟨w.heap.size, 0, none⟩) 1 1)).run Tryz.prog (w.alloc (.cells #[.int .u8 (48 + (n : Int) % 10)] 5)) = .ok (.string ⟨[UInt8.ofNat (48 + n % 10)].toArray⟩) (w.alloc (.cells #[.int .u8 (48 + (n : Int) % 10)] 5)) :=
  run_convert_bytes_back (P := Tryz.prog) (w.alloc (.cells #[.int .u8 (48 + (n : Int) % 10)] 5)) 48 9 5 ⟨w.heap.size, 0, none⟩ 1 [UInt8.ofNat (48 + n % 10)] Tryz.underlying48 Tryz.underlying5 Tryz.underlying9 (fun j hj => by
    have : j = 0 := by simpa using hj
    subst this
    rw [show ((⟨w.heap.size, 0, none⟩ : Addr).add 0) = ⟨w.heap.size, 0, none⟩ from rfl, cell_lays (lays_new (w := w) (o := .cells #[.int .u8 (48 + (n : Int) % 10)] 5) rfl)]
    simp
    omega)
theorem digits_small (n : Nat) (h : n < 10) (w : World) : Calls Tryz.prog 24 #[.int .i64 (n : Int)] w fun e w' => e = .returned (strV (Lib.decDigits n)) ∧ Kept w w' := by
  have hcv := digit_conv n w
  have hn : ¬ (n : Int) < 0 := by omega
  have h1 : (n : Int) < 10 := by omega
  have hw := u8wrap n
  rw [decDigits_small h]
  rw [Nat.mod_eq_of_lt h] at hcv
  unfold strV
  generalize (ByteArray.mk [UInt8.ofNat (48 + n)].toArray) = S at *
  go_enter Tryz.func24, Tryz.ntmps24
  go_wp2_with fail
  go_ret
  exact ⟨rfl, (Kept.refl w).alloc _⟩
theorem digits_great (n : Nat) (h : ¬ n < 10) (hx : n < 1000000000) (w : World) (HC : Hid (∀ u, Calls Tryz.prog 24 #[.int .i64 ((n / 10 : Nat) : Int)] u fun e w' => e = .returned (strV (Lib.decDigits (n / 10))) ∧ Kept u w')) :
    Calls Tryz.prog 24 #[.int .i64 (n : Int)] w fun e w' => e = .returned (strV (Lib.decDigits n)) ∧ Kept w w' := by
  have hcv := digit_conv n w
  have hn : ¬ (n : Int) < 0 := by omega
  have h1 : ¬ (n : Int) < 10 := by omega
  have hw := u8wrap n
  have hd : Hid ((n : Int) / 10 = ((n / 10 : Nat) : Int)) := hide (by omega)
  have hx1 : (n : Int) ≤ 9223372036854775807 := by omega
  have hE := strs_app (Lib.decDigits (n / 10)) [UInt8.ofNat (48 + n % 10)]
  have hJ : ¬ 9223372036854775807 < (ByteArray.mk (Lib.decDigits (n / 10)).toArray).size + (ByteArray.mk [UInt8.ofNat (48 + n % 10)].toArray).size := by
    have := dec_len (n / 10) 9 (by omega) (by omega)
    simp only [ByteArray.size, List.size_toArray, List.length_singleton]
    omega
  rw [decDigits_great h]
  unfold strV at *
  generalize (ByteArray.mk [UInt8.ofNat (48 + n % 10)].toArray) = S at *
  generalize (ByteArray.mk (Lib.decDigits (n / 10)).toArray) = J at *
  generalize (ByteArray.mk (Lib.decDigits (n / 10) ++ [UInt8.ofNat (48 + n % 10)]).toArray) = R at *
  go_enter Tryz.func24, Tryz.ntmps24
  go_wp2_with fail
  rw [unhide hd]
  refine ((unhide HC) _).mono ?_
  rintro _ w2 ⟨rfl, k2⟩
  have HK := hide (((Kept.refl w).alloc (.cells #[.int .u8 (48 + (n : Int) % 10)] 5)).trans k2)
  clear k2 HC hcv
  go_wp2_with fail
  go_ret
  exact ⟨rfl, unhide HK⟩
theorem digits_nat (n : Nat) : n < 1000000000 → ∀ w : World, Calls Tryz.prog 24 #[.int .i64 (n : Int)] w fun e w' => e = .returned (strV (Lib.decDigits n)) ∧ Kept w w' := by
  induction n using Nat.strongRecOn with
  | ind n ih =>
    intro hx w
    by_cases h : n < 10
    · exact digits_small n h w
    · exact digits_great n h hx w (hide fun u => ih (n / 10) (by omega) (by omega) u)
theorem digits_any {z : Int} (h0 : 0 ≤ z) (h1 : z < 1000000000) (w : World) : Calls Tryz.prog 24 #[.int .i64 z] w fun e w' => e = .returned (strV (Lib.itoa z)) ∧ Kept w w' := by
  obtain ⟨k, rfl⟩ := Int.eq_ofNat_of_zero_le h0
  have hi : Lib.itoa (k : Int) = Lib.decDigits k := by unfold Lib.itoa; rw [if_neg (by omega), Int.toNat_natCast]
  rw [hi]
  exact digits_nat k (by omega) w
def namesC : Array Value := #[.string ⟨#[112, 117, 115, 104]⟩, .string ⟨#[112, 111, 112]⟩, .string ⟨#[108, 111, 97, 100]⟩, .string ⟨#[115, 116, 111, 114, 101]⟩, .string ⟨#[97, 100, 100]⟩, .string ⟨#[115, 117, 98]⟩, .string ⟨#[109, 117, 108]⟩, .string ⟨#[108, 101, 115, 115]⟩, .string ⟨#[115, 97, 109, 101]⟩, .string ⟨#[106, 117, 109, 112]⟩, .string ⟨#[122, 101, 114, 111]⟩, .string ⟨#[99, 97, 108, 108]⟩, .string ⟨#[114, 101, 116, 117, 114, 110]⟩, .string ⟨#[109, 97, 107, 101]⟩, .string ⟨#[114, 101, 115, 117, 109, 101]⟩, .string ⟨#[121, 105, 101, 108, 100]⟩, .string ⟨#[112, 117, 116]⟩]
theorem namesC_at (k : Nat) (h : k < 17) : namesC[k]? = some (strV (tkS.getD k ([], 0)).1) := by
  have : k = 0 ∨ k = 1 ∨ k = 2 ∨ k = 3 ∨ k = 4 ∨ k = 5 ∨ k = 6 ∨ k = 7 ∨ k = 8 ∨ k = 9 ∨ k = 10 ∨ k = 11 ∨ k = 12 ∨ k = 13 ∨ k = 14 ∨ k = 15 ∨ k = 16 := by omega
  rcases this with rfl | rfl | rfl | rfl | rfl | rfl | rfl | rfl | rfl | rfl | rfl | rfl | rfl | rfl | rfl | rfl | rfl <;> rfl
theorem names_any (w : World) : Calls Tryz.prog 25 #[] w fun e w' => ∃ g, e = .returned (.slice (some ⟨g, 0, none⟩) 17 17) ∧ (∀ k, k < 17 → w'.cell? ⟨g, k, none⟩ = some (strV (tkS.getD k ([], 0)).1)) ∧ Kept w w' := by
  go_enter Tryz.func25, Tryz.ntmps25
  go_wp2_with fail
  go_ret
  refine ⟨_, rfl, fun k hk => ?_, (Kept.refl w).alloc _⟩
  rw [cell_lays (lays_new rfl)]
  exact namesC_at k hk
theorem hasA_any (k : Nat) (h : k < 17) (w : World) : Calls Tryz.prog 26 #[.int .i64 (k : Int)] w fun e w' => e = .returned (.bool ((tkS.getD k ([], 0)).2 != 0)) ∧ Kept w w' := by
  have : k = 0 ∨ k = 1 ∨ k = 2 ∨ k = 3 ∨ k = 4 ∨ k = 5 ∨ k = 6 ∨ k = 7 ∨ k = 8 ∨ k = 9 ∨ k = 10 ∨ k = 11 ∨ k = 12 ∨ k = 13 ∨ k = 14 ∨ k = 15 ∨ k = 16 := by omega
  rcases this with rfl | rfl | rfl | rfl | rfl | rfl | rfl | rfl | rfl | rfl | rfl | rfl | rfl | rfl | rfl | rfl | rfl <;>
  · clear h
    go_enter Tryz.func26, Tryz.ntmps26
    go_wp2_with fail
    go_ret
    exact ⟨rfl, Kept.refl w⟩
theorem conv_up (w : World) (b : Nat) (hsh : w.shape? b = some (50, 2)) : (convert 47 110 (.pointer (some ⟨b, 0, none⟩))).run Tryz.prog w = .ok (.pointer (some ⟨b, 0, none⟩)) w := by
  obtain ⟨jj, hj, hjs⟩ := Option.map_eq_some_iff.1 (show (Tryz.prog.info? 50).map (·.size) = some 2 by kernel_rfl)
  simp [convert, run_underlying Tryz.underlying47, run_underlying Tryz.underlying110]
  conv => lhs; arg 2; whnf
  simp only [Sem.run, Sem.bind, Tryz.underlying47]
  change Sem.run Tryz.prog ((pure _ : Sem _) >>= _) w = _
  simp [run_underlying Tryz.underlying110, Conv.seenAt, viewAt, cellsIn, hsh, sizeOf, typeInfo, hj, hjs]
theorem conv_down (w : World) (b : Nat) (hsh : w.shape? b = some (50, 2)) : (convert 110 47 (.pointer (some ⟨b, 0, none⟩))).run Tryz.prog w = .ok (.pointer (some ⟨b, 0, none⟩)) w := by
  obtain ⟨jj, hj, hjs⟩ := Option.map_eq_some_iff.1 (show (Tryz.prog.info? 50).map (·.size) = some 2 by kernel_rfl)
  have hlies : liesAt Tryz.prog Tryz.prog.depth 50 (2 / Tryz.prog.cellsOf 50) 0 50 1 = true := by kernel_rfl
  simp [convert, run_underlying Tryz.underlying47, run_underlying Tryz.underlying110]
  conv => lhs; arg 2; whnf
  simp only [Sem.run, Sem.bind, Tryz.underlying110]
  change Sem.run Tryz.prog ((pure _ : Sem _) >>= _) w = _
  simp [run_underlying Tryz.underlying47, Conv.seenAt, viewAt, hsh, variablesAt, hlies, sizeOf, typeInfo, hj]
abbrev BuP (B b : Nat) (bs : List Value) (w : World) : Prop := Lib.BuilderAt 50 5 B b (.pointer (some ⟨b, 0, none⟩)) bs w
abbrev BuI (B b : Nat) (bs : List Value) (w : World) : Prop := Lib.IsBuilder 50 5 B b bs w
def BuK (w w' : World) : Prop := ∀ (g : Nat) (c : Array Value) (t : TypeId), t ≠ 50 → t ≠ 5 → w.heap[g]? = some (.cells c t) → w'.heap[g]? = some (.cells c t)
theorem BuK.trans {a b c : World} (h : BuK a b) (k : BuK b c) : BuK a c := fun g d t h1 h2 hg => k g d t h1 h2 (h g d t h1 h2 hg)
theorem BuK.kept {w w' : World} (k : Kept w w') : BuK w w' := fun _ _ _ _ _ hg => lays_kept k hg
theorem BuK.set {w : World} {b i : Nat} {c : Array Value} (hb : w.heap[b]? = some (.cells c 50)) (u : Value) : BuK w (w.setCell ⟨b, i, none⟩ u) := fun g d t h1 _ hg => lays_other hg (fun e => by
  simp only at e
  subst e
  rw [hb] at hg
  simp only [Option.some.injEq, Obj.cells.injEq] at hg
  exact h1 hg.2.1.symm) u
theorem copyCheck_any (w : World) (B b : Nat) (bs : List Value) (h : BuI B b bs w) :
    Calls Tryz.prog 41 #[.pointer (some ⟨b, 0, none⟩)] w fun e w' => e = .returned (.tuple #[]) ∧ BuP B b bs w' ∧ Below B w w' ∧ BuK w w' := by
  rcases h with ⟨hB, v, hb, hrow, hne⟩ | h
  · have c0 := cell_lays hb 0
    have f0 := frozen_lays hb 0
    have HP : Hid (BuP B b bs (w.setCell ⟨b, 0, none⟩ (.pointer (some ⟨b, 0, none⟩))) ∧ Below B w (w.setCell ⟨b, 0, none⟩ (.pointer (some ⟨b, 0, none⟩))) ∧ BuK w (w.setCell ⟨b, 0, none⟩ (.pointer (some ⟨b, 0, none⟩)))) := hide (by
      refine ⟨⟨hB, v, by have := lays_set hb 0 (.pointer (some ⟨b, 0, none⟩)); simpa using this, ?_, hne⟩, (Below.refl B w).setCell hB _, BuK.set hb _⟩
      refine ⟨hrow.1, ?_⟩
      rcases hrow.2 with hn | ⟨g, cap, cur, rfl, hb', hgg, rest⟩
      · exact .inl hn
      · exact .inr ⟨g, cap, cur, rfl, hb', lays_other hgg (fun e => hne (by simp only at e; rw [e]; rfl)) _, rest⟩)
    have hsh : w.shape? b = some (50, 2) := by simp [World.shape?, hb]
    clear hb hrow hne hB
    go_enter Tryz.func41, Tryz.ntmps41
    go_wp2
    rw [conv_up w b hsh]
    simp only [Result.andThen]
    rw [Oper.upon_value]
    go_wp2
    rw [run_callFunc_extern Tryz.func63 (by kernel_rfl) (by kernel_rfl) (by kernel_rfl) (e := Extern.AbiNoEscape.same) (by kernel_rfl)]
    rw [Lib.run_noEscape]
    simp only [Result.andThen]
    rw [Oper.upon_value]
    go_wp2
    rw [conv_down w b hsh]
    simp only [Result.andThen]
    rw [Oper.upon_value]
    go_wp2
    go_end0
    exact ⟨rfl, unhide HP⟩
  · have c0 := h.cell0
    have HP : Hid (BuP B b bs w ∧ Below B w w ∧ BuK w w) := hide ⟨h, Below.refl B w, fun _ _ _ _ _ h => h⟩
    obtain ⟨jj, hj, hjs⟩ := Option.map_eq_some_iff.1 (show (Tryz.prog.info? 50).map (·.size) = some 2 by kernel_rfl)
    clear h
    go_enter Tryz.func41, Tryz.ntmps41
    go_wp2
    rw [Lib.run_neq_ptr_same w _ Tryz.underlying47 hj]
    go_wp2
    go_end0
    exact ⟨rfl, unhide HP⟩
theorem wpList_appS {ops : Array Oper} {rest : List Oper} {o : Oper} {a : Act} {Q : Exit → Act → World → Prop} (w : World) (hgd : o.guard = none) (s x : Operand) (t tu : TypeId)
    (ho : o.op = .call { callee := .builtin .append, args := #[s, x], argTypes := #[t, tu] }) {v u v' : Value} {w' : World} (hs : a.eval s = v) (hx : a.eval x = u)
    (hr : (Builtin.append_ #[t, tu] o.type #[v, u]).run Tryz.prog w = .ok v' w') (h : wpList Tryz.prog ops Q rest (a.put o.dst v') w') : wpList Tryz.prog ops Q (o :: rest) a w :=
  wpList_plain hgd fun _ hK => by
    unfold Oper.wp execOp
    simp only [ho, resolve, invoke, builtin, Sem.run_bind, Sem.run_pure, Result.andThen_ok, List.map_toArray, List.map_cons, List.map_nil, hs, hx, hr]
    exact hK _ _ h
theorem u8InfoT : (Tryz.prog.info? 5).map (fun i => (i.zero, i.size, i.bytes)) = some (some (.int .u8 0), 1, 1) := by kernel_rfl
theorem write_any (w : World) (B b : Nat) (bs : List Value) (s : ByteArray) (h : BuI B b bs w) (hBw : B ≤ w.heap.size) (hl : bs.length + s.size ≤ 100000000000) :
    Calls Tryz.prog 18 #[.pointer (some ⟨b, 0, none⟩), .string s] w fun e w' => e = .returned (.tuple #[.int .i64 s.size, .nilIface]) ∧ BuP B b (bs ++ Lib.strCells s) w' ∧ Below B w w' ∧ BuK w w' := by
  obtain ⟨i0, hi0, hz0, hz1, hz2⟩ := info_parts u8InfoT
  have HC := hide (copyCheck_any w B b bs h)
  go_enter Tryz.func18, Tryz.ntmps18
  go_wp2_with fail
  refine (unhide HC).mono ?_
  rintro _ w2 ⟨rfl, ⟨hB, v, hb, hrow, hne⟩, k2, j2⟩
  obtain ⟨v3, w3, hrun, hown, hgrow, hat⟩ := Lib.run_append_own_string (P := Tryz.prog) w2 B 48 9 48 5 i0 Tryz.underlying48 Tryz.underlying9 hi0 hz0 hz1 hz2 v bs.length bs hrow s (by unfold maxLen; omega) (by omega) (by have := k2.size; omega)
  have c1 := cell_lays hb 1
  have hb3 := (hgrow.block b (Array.getElem?_eq_some_iff.1 hb).1 (fun e => hne e.symm)).trans hb
  have d1 := cell_lays hb3 1
  have f1 := frozen_lays hb3 1
  obtain ⟨oa, n3, cp, rfl⟩ : ∃ oa n cp, v3 = .slice oa n cp := by
    obtain ⟨_, ⟨rfl, _⟩ | ⟨g, cap, cur, rfl, _⟩⟩ := hown
    · exact ⟨_, _, _, rfl⟩
    · exact ⟨_, _, _, rfl⟩
  obtain ⟨ob, nb, cb, rfl⟩ : ∃ oa n cp, v = .slice oa n cp := by
    obtain ⟨_, ⟨rfl, _⟩ | ⟨g, cap, cur, rfl, _⟩⟩ := hrow
    · exact ⟨_, _, _, rfl⟩
    · exact ⟨_, _, _, rfl⟩
  have hn3 : ∀ g, (Value.slice oa n3 cp).ownBlock = some g → g ≠ b := fun g hg e => by
    obtain ⟨_, ⟨h0, _⟩ | ⟨g', cap, cur, h0, _, hh, _⟩⟩ := hown
    · rw [h0] at hg; cases hg
    · rw [h0] at hg
      obtain rfl : g' = g := by simpa [Value.ownBlock] using hg
      rw [e, hb3] at hh
      simp only [Option.some.injEq, Obj.cells.injEq] at hh
      exact absurd hh.2.1 (by decide)
  have j3 : BuK w2 w3 := fun g c t h1 h2 hg => (hgrow.block g (Array.getElem?_eq_some_iff.1 hg).1 (fun e => by
    obtain ⟨_, ⟨h0, _⟩ | ⟨g', cap, cur, h0, _, hh, _⟩⟩ := hrow
    · rw [h0] at e; cases e
    · rw [h0] at e
      obtain rfl : g = g' := by simpa [Value.ownBlock] using e
      rw [hg] at hh
      simp only [Option.some.injEq, Obj.cells.injEq] at hh
      exact h2 hh.2.1)).trans hg
  have HP : Hid (BuP B b (bs ++ Lib.strCells s) (w3.setCell ⟨b, 1, none⟩ (.slice oa n3 cp)) ∧ Below B w (w3.setCell ⟨b, 1, none⟩ (.slice oa n3 cp)) ∧ BuK w (w3.setCell ⟨b, 1, none⟩ (.slice oa n3 cp))) := hide (by
    refine ⟨⟨hB, .slice oa n3 cp, by have := lays_set hb3 1 (.slice oa n3 cp); simpa using this, ?_, fun e => hn3 _ e rfl⟩, (Below.grown k2 hgrow (by have := k2.size; omega) (fun g hg => (World.ownsRow.lt hrow g hg).1)).setCell hB _, (j2.trans j3).trans (BuK.set hb3 _)⟩
    rw [show (bs ++ Lib.strCells s).length = bs.length + s.size by rw [List.length_append, Lib.strCells_length]]
    refine ⟨hown.1, ?_⟩
    rcases hown.2 with hn | ⟨g, cap, cur, h0, hb', hgg, rest⟩
    · exact .inl hn
    · exact .inr ⟨g, cap, cur, h0, hb', lays_other hgg (hn3 g (by rw [h0]; rfl)) _, rest⟩)
  have HR := hide hrun
  clear h hBw hi0 hz0 hz1 hz2 HC k2 j2 j3 hB hb hrow hne hrun hown hgrow hat hb3 hn3
  have hsz : s.size ≤ 100000000000 := by omega
  clear hl
  go_wp2_with (at_builtin; refine unhide ?_)
  refine hide ?_
  refine wpList_appS _ rfl (.tmp 12) (.tmp 13) 48 9 rfl rfl rfl (unhide HR) ?_
  clear HR
  go_wp2_with fail
  go_ret2
  exact ⟨rfl, unhide HP⟩
theorem BuI.kept {w w' : World} {B b : Nat} {bs : List Value} (h : BuI B b bs w) (k : Kept w w') : BuI B b bs w' := by
  rcases h with ⟨hB, v, hb, hrow, hne⟩ | ⟨hB, v, hb, hrow, hne⟩
  · exact .inl ⟨hB, v, lays_kept k hb, row_same' hrow k, hne⟩
  · exact .inr ⟨hB, v, lays_kept k hb, row_same' hrow k, hne⟩
theorem BuI.new (w : World) : BuI w.heap.size w.heap.size [] (w.alloc (.cells #[.pointer none, .slice none 0 0] 50)) :=
  .inl ⟨Nat.le_refl _, .slice none 0 0, lays_new rfl, World.ownsRow_nil _ _ _ _, by simp [Value.ownBlock]⟩
def namesB (x : Int × Int) : Bool := decide (x.1 = 11) || decide (x.1 = 13)
def targets (c : List (Int × Int)) : List Nat := (c.filter namesB).map fun x => x.2.toNat
def codeOf (p : List Fn) (g : Nat) : List (Int × Int) := (p.getD g Fn.zero).code
def ReachC (p : List Fn) (f k : Nat) : Prop := ∀ S : Nat → Prop, S f → (∀ k j, k < p.length → S k → j ∈ targets (codeOf p k) → S j) → S k
theorem ReachC.step {p : List Fn} {f k j : Nat} (h : ReachC p f k) (hk : k < p.length) (hj : j ∈ targets (codeOf p k)) : ReachC p f j :=
  fun S h0 hs => hs k j hk (h S h0 hs) hj
theorem ReachC.trans {p : List Fn} {f g k : Nat} (h : ReachC p f g) (h' : ReachC p g k) : ReachC p f k :=
  fun S h0 hs => h' S (h S h0 hs) hs
def MonoB (B B' : List Bool) : Prop := B'.length = B.length ∧ ∀ k, B.getD k false = true → B'.getD k false = true
theorem MonoB.refl (B : List Bool) : MonoB B B := ⟨rfl, fun _ h => h⟩
theorem MonoB.trans {A B C : List Bool} (h : MonoB A B) (k : MonoB B C) : MonoB A C := ⟨k.1.trans h.1, fun i hi => k.2 i (h.2 i hi)⟩
theorem getB_set (B : List Bool) (k i : Nat) : (B.set k true).getD i false = true ↔ (i = k ∧ k < B.length) ∨ B.getD i false = true := by
  simp only [List.getD, List.getElem?_set]
  by_cases h : k = i
  · subst h
    by_cases hk : k < B.length
    · simp [hk]
    · simp [hk]
  · simp [h, Ne.symm h]
theorem MonoB.set (B : List Bool) (k : Nat) : MonoB B (B.set k true) := ⟨by simp, fun i hi => (getB_set B k i).2 (.inr hi)⟩
def VisitOk (p : List Fn) (B B' : List Bool) : Prop :=
  MonoB B B' ∧ ∀ k j, B'.getD k false = true → B.getD k false = false → j ∈ targets (codeOf p k) → B'.getD j false = true
theorem VisitOk.refl (p : List Fn) (B : List Bool) : VisitOk p B B := ⟨.refl B, fun k j h h' => by rw [h] at h'; cases h'⟩
theorem VisitOk.trans {p : List Fn} {A B C : List Bool} (h : VisitOk p A B) (h' : VisitOk p B C) : VisitOk p A C :=
  ⟨h.1.trans h'.1, fun k j hC hA hj => by
    cases hB : B.getD k false with
    | true => exact h'.1.2 j (h.2 k j hB hA hj)
    | false => exact h'.2 k j hC hB hj⟩
def beh (p : List Fn) (x : Int × Int) (h : Int) : Option Int :=
  if (effS p x.1 x.2).2.2 = 0 ∧ (effS p x.1 x.2).1 ≤ h ∧ ¬ (x.1 = 12 ∧ 1 < h) ∧ h - (effS p x.1 x.2).1 + (effS p x.1 x.2).2.1 ≤ 8 then some (h - (effS p x.1 x.2).1 + (effS p x.1 x.2).2.1) else none
def nexts (x : Int × Int) (k : Nat) : List Nat :=
  if x.1 = 12 then [] else if x.1 = 9 then [x.2.toNat] else if x.1 = 10 then [x.2.toNat, k + 1] else [k + 1]
def comesS (f : List Int → Nat → Int → Bool × List Int) : List Nat → List Int → Int → Bool × List Int
  | [], H, _ => (true, H)
  | j :: r, H, m => match f H j m with
    | (true, H') => comesS f r H' m
    | (false, H') => (false, H')
def comeS (p : List Fn) (c : List (Int × Int)) : Nat → List Int → Nat → Int → Bool × List Int
  | 0, H, _, _ => (false, H)
  | n + 1, H, at_, h =>
    if c.length ≤ at_ then (false, H)
    else if H.getD at_ 0 = -1 then
      match beh p (c.getD at_ (0, 0)) h with
      | none => (false, H.set at_ h)
      | some m => comesS (comeS p c n) (nexts (c.getD at_ (0, 0)) at_) (H.set at_ h) m
    else (decide (H.getD at_ 0 = h), H)
theorem comesS_snoc (f : List Int → Nat → Int → Bool × List Int) : ∀ (l : List Nat) (j : Nat) (H : List Int) (m : Int), comesS f (l ++ [j]) H m = match comesS f l H m with
    | (true, H') => f H' j m
    | (false, H') => (false, H')
  | [], j, H, m => by
    simp only [List.nil_append, comesS]
    cases f H j m with
    | mk b H' => cases b <;> rfl
  | i :: l, j, H, m => by
    simp only [List.cons_append, comesS]
    cases f H i m with
    | mk b H' => cases b with
      | false => rfl
      | true => exact comesS_snoc f l j H' m
theorem comesS_prefix (f : List Int → Nat → Int → Bool × List Int) (l : List Nat) (H H' : List Int) (m : Int) (h : comesS f l H m = (false, H')) : ∀ r, comesS f (l ++ r) H m = (false, H') := by
  induction l generalizing H with
  | nil => simp [comesS] at h
  | cons i l ih =>
    intro r
    simp only [List.cons_append, comesS] at h ⊢
    cases hf : f H i m with
    | mk b H2 =>
      rw [hf] at h
      cases b with
      | false => exact h
      | true => exact ih H2 h r
def unv (H : List Int) : Nat := (H.filter (fun z => decide (z = -1))).length
theorem unv_set : ∀ (H : List Int) (k : Nat) (z : Int), H.getD k 0 = -1 → z ≠ -1 → unv (H.set k z) + 1 = unv H
  | [], k, z, h, _ => by simp at h
  | y :: H, 0, z, h, hz => by
    simp at h
    subst h
    simp [unv, hz]
  | y :: H, k + 1, z, h, hz => by
    have ih := unv_set H k z (by simpa using h) hz
    simp only [unv, List.set_cons_succ, List.filter_cons] at ih ⊢
    split
    · simp only [List.length_cons]; omega
    · exact ih
theorem opsS_all {p : List Fn} {g : Fn} : ∀ {c : List (Int × Int)}, opsS p g c = 0 → ∀ x, x ∈ c → opS p g x = 0
  | [], _, x, hx => by cases hx
  | y :: c, h, x, hx => by
    unfold opsS at h
    by_cases hy : opS p g y = 0
    · rw [if_pos hy] at h
      rcases List.mem_cons.1 hx with rfl | hx
      · exact hy
      · exact opsS_all h x hx
    · rw [if_neg hy] at h
      exact absurd h hy
theorem opS_kind {p : List Fn} {g : Fn} {x : Int × Int} (h : opS p g x = 0) : 0 ≤ x.1 ∧ x.1 < 17 ∧ mayB p g (opd x.1.toNat) x.2 = true := by
  unfold opS at h
  by_cases hk : 0 ≤ x.1 ∧ x.1 < 17
  · rw [if_pos hk] at h
    by_cases hm : mayB p g (opd x.1.toNat) x.2 = true
    · exact ⟨hk.1, hk.2, hm⟩
    · rw [if_neg hm] at h; omega
  · rw [if_neg hk] at h; omega
theorem mayB4 {p : List Fn} {g : Fn} {a : Int} (h : mayB p g 4 a = true) : 0 ≤ a ∧ a < p.length ∧ roomB (p.getD a.toNat Fn.zero).args (p.getD a.toNat Fn.zero).locals = true := by
  simp only [mayB] at h
  rw [if_neg (by decide), if_neg (by decide), if_neg (by decide), if_neg (by decide), Bool.and_eq_true, ixB_iff] at h
  exact ⟨h.1.1, h.1.2, h.2⟩
theorem tk_lv (k : Nat) (h : k < 17) : 0 ≤ tk k ∧ tk k ≤ 2 ∧ 0 ≤ lv k ∧ lv k ≤ 1 := by
  have : ∀ k : Fin 17, 0 ≤ tk k ∧ tk k ≤ 2 ∧ 0 ≤ lv k ∧ lv k ≤ 1 := by decide
  exact this ⟨k, h⟩
theorem effS_call {p : List Fn} {g : Fn} {x : Int × Int} (h : opS p g x = 0) (hk : x.1 = 11) : 0 ≤ x.2 ∧ x.2 < p.length ∧ 0 ≤ (p.getD x.2.toNat Fn.zero).args ∧ effS p x.1 x.2 = ((p.getD x.2.toNat Fn.zero).args, 1, 0) := by
  obtain ⟨_, _, hm⟩ := opS_kind h
  rw [hk] at hm
  obtain ⟨h1, h2, h3⟩ := mayB4 (show mayB p g 4 x.2 = true from hm)
  rw [roomB_iff] at h3
  refine ⟨h1, h2, h3.1, ?_⟩
  unfold effS
  rw [if_pos ⟨by omega, by omega⟩, if_pos hk, if_pos ⟨h1, h2⟩]
theorem effS_plain {p : List Fn} {g : Fn} {x : Int × Int} (h : opS p g x = 0) (hk : x.1 ≠ 11) : ∃ ta lb, effS p x.1 x.2 = (ta, lb, 0) ∧ 0 ≤ ta ∧ ta ≤ 2 ∧ 0 ≤ lb ∧ lb ≤ 1 := by
  obtain ⟨h1, h2, _⟩ := opS_kind h
  obtain ⟨a, b, c, d⟩ := tk_lv x.1.toNat (by omega)
  refine ⟨_, _, ?_, a, b, c, d⟩
  unfold effS
  rw [if_pos ⟨h1, h2⟩, if_neg hk]
theorem chkS_zero {p : List Fn} {f : Int} (h : chkS p f = 0) : ∃ i : Nat, f = i ∧ i < p.length ∧ (p.getD i Fn.zero).code.length ≤ 24 ∧ roomB (p.getD i Fn.zero).args (p.getD i Fn.zero).locals = true ∧ opsS p (p.getD i Fn.zero) (p.getD i Fn.zero).code = 0 := by
  unfold chkS at h
  by_cases hf : 0 ≤ f ∧ f < p.length
  · rw [if_pos hf] at h
    obtain ⟨i, rfl⟩ := Int.eq_ofNat_of_zero_le hf.1
    rw [Int.toNat_natCast] at h
    refine ⟨i, rfl, by omega, ?_⟩
    generalize p.getD i Fn.zero = g at *
    by_cases hm : 24 < g.code.length
    · simp only [if_pos hm] at h; omega
    · simp only [if_neg hm] at h
      cases hr : roomB g.args g.locals with
      | false => rw [hr, if_neg (by decide)] at h; omega
      | true => rw [hr, if_pos rfl] at h; exact ⟨by omega, rfl, h⟩
  · rw [if_neg hf] at h; omega
end Go.Proofs.YtjioipkfnekigaaGreatDoor
