/- TextE, TextF, TextG, TextH, Takes, TakesQ -/
import Derived.Test.YtjioipkfnekigaaGreatDoorTB03
import Derived.Lib.AtoiAll
import Derived.Lib.Split
import Derived.Deep.DeepCutAuto
import Derived.Test.YtjioipkfnekigaaGreatDoorTB01
import Derived.Test.YtjioipkfnekigaaGreatDoorChecked
import Derived.Deep.RegionHeld3
set_option maxRecDepth 100000
set_option maxHeartbeats 8000000
namespace Go.Proofs.YtjioipkfnekigaaGreatDoor
open Go.RowKit Go.Maps
def numT (l : List UInt8) : Option Int := match Lib.atoiAll l with
  | .ok v => if 0 ≤ v ∧ l.length ≤ 6 ∧ Lib.itoa v = l then some v else none
  | _ => none
def ErrsAt (w : World) : Prop := (∃ t p, w.var? Tryz.prog "strconv.ErrSyntax" = some #[.iface t p]) ∧ ∃ t p, w.var? Tryz.prog "strconv.ErrRange" = some #[.iface t p]
theorem var_kept {w w' : World} {n : String} {g : Nat} (hg : Tryz.prog.globalNamed n = some g) (k : Kept w w') {cs : Array Value} (h : w.var? Tryz.prog n = some cs) : w'.var? Tryz.prog n = some cs := by
  unfold World.var? at h ⊢
  rw [hg] at h ⊢
  simp only [Option.bind_some] at h ⊢
  have hlt : g < w.heap.size := by
    cases hq : w.heap[g]? with
    | none => rw [hq] at h; cases h
    | some o => exact (Array.getElem?_eq_some_iff.1 hq).1
  rw [k.block _ hlt]
  exact h
theorem ErrsAt.kept {w w' : World} (h : ErrsAt w) (k : Kept w w') : ErrsAt w' := by
  obtain ⟨⟨t1, p1, h1⟩, ⟨t2, p2, h2⟩⟩ := h
  exact ⟨⟨t1, p1, var_kept (g := 7) (by kernel_rfl) k h1⟩, ⟨t2, p2, var_kept (g := 8) (by kernel_rfl) k h2⟩⟩
theorem atoi_int {l : List UInt8} {v : Int} (h : Lib.atoiAll l = .ok v) : I64 v := by
  cases l with
  | nil => cases h
  | cons c r =>
    unfold Lib.atoiAll at h
    simp only at h
    rcases hp : Lib.parseMag (if c.toNat = 43 ∨ c.toNat = 45 then r else c :: r) with u | _ | _
    rotate_left
    · rw [hp] at h; cases h
    · rw [hp] at h; cases h
    ·
      rw [hp] at h
      simp only at h
      unfold I64
      by_cases h1 : ¬ c.toNat = 45 ∧ 9223372036854775808 ≤ u
      · rw [if_pos h1] at h; cases h
      · rw [if_neg h1] at h
        by_cases h2 : c.toNat = 45 ∧ 9223372036854775808 < u
        · rw [if_pos h2] at h; cases h
        · rw [if_neg h2] at h
          simp only [Lib.NumEnd.ok.injEq] at h
          subst h
          split <;> omega
theorem number_ok (w : World) (l : List UInt8) (v : Int) (h : numT l = some v) (ht : TabW w) :
    Calls Tryz.prog 85 #[.string ⟨l.toArray⟩] w fun e w' => e = .returned (.tuple #[.int .i64 v, .bool true]) ∧ Kept w w' := by
  obtain ⟨ha, h0, h6, hi⟩ : Lib.atoiAll l = .ok v ∧ 0 ≤ v ∧ l.length ≤ 6 ∧ Lib.itoa v = l := by
    unfold numT at h
    split at h
    · split at h
      · rename_i q; cases h; rename_i hh; exact ⟨hh, q⟩
      · cases h
    · cases h
  have hsz : (ByteArray.mk l.toArray).size = l.length := by simp [ByteArray.size]
  have HC : Hid (Calls Tryz.prog 95 #[.string ⟨l.toArray⟩] w fun e w' => e = .returned (.tuple #[.int .i64 v, .nilIface]) ∧ Kept w w') := hide ((Tryz.strconv_Atoi_ok ⟨l.toArray⟩ (by rw [hsz]; omega) v ha w).mono fun _ _ ⟨q1, q2⟩ => ⟨q1, by
    rcases q2 with q2 | ⟨t, q2⟩
    · rw [q2]; exact Kept.refl w
    · rw [q2]; exact Lib.bytesWorld_below _ _ _⟩)
  have HT : Hid (∀ u, Kept w u → Calls Tryz.prog 65 #[.int .i64 v] u fun e w' => e = .returned (.string ⟨l.toArray⟩) ∧ Kept u w') := hide fun u hu => by
    have := itoa_any u v (atoi_int ha) (ht.kept hu)
    rwa [hi] at this
  have hv : ¬ v < 0 := by omega
  have hl : ¬ (6 : Int) < (l.length : Int) := by omega
  generalize l.length = n at *
  generalize (ByteArray.mk l.toArray) = S at *
  clear h ha h6 hi ht
  go_enter Tryz.func85, Tryz.ntmps85
  go_wp2_with fail
  refine (unhide HC).mono ?_
  rintro _ w1 ⟨rfl, k1⟩
  have HK := hide k1
  clear k1 HC
  go_wp2_with fail
  refine ((unhide HT) _ (unhide HK)).mono ?_
  rintro _ w2 ⟨rfl, k2⟩
  replace HK := hide ((unhide HK).trans k2)
  clear k2 HT
  go_wp2_with fail
  go_ret2
  exact ⟨rfl, unhide HK⟩
theorem number_no (w : World) (l : List UInt8) (h : numT l = none) (hl0 : l.length ≤ 100000) (ht : TabW w) (he : ErrsAt w) :
    Calls Tryz.prog 85 #[.string ⟨l.toArray⟩] w fun e w' => e = .returned (.tuple #[.int .i64 0, .bool false]) ∧ Kept w w' := by
  have hsz : (ByteArray.mk l.toArray).size = l.length := by simp [ByteArray.size]
  by_cases hv : ∃ v, Lib.atoiAll l = .ok v
  · obtain ⟨v, ha⟩ := hv
    have hq : ¬ (0 ≤ v ∧ l.length ≤ 6 ∧ Lib.itoa v = l) := by
      unfold numT at h
      rw [ha] at h
      simp only at h
      intro q
      rw [if_pos q] at h
      cases h
    have HC : Hid (Calls Tryz.prog 95 #[.string ⟨l.toArray⟩] w fun e w' => e = .returned (.tuple #[.int .i64 v, .nilIface]) ∧ Kept w w') := hide ((Tryz.strconv_Atoi_ok ⟨l.toArray⟩ (by rw [hsz]; omega) v ha w).mono fun _ _ ⟨q1, q2⟩ => ⟨q1, by
      rcases q2 with q2 | ⟨t, q2⟩
      · rw [q2]; exact Kept.refl w
      · rw [q2]; exact Lib.bytesWorld_below _ _ _⟩)
    have HT : Hid (∀ u, Kept w u → Calls Tryz.prog 65 #[.int .i64 v] u fun e w' => e = .returned (.string ⟨(Lib.itoa v).toArray⟩) ∧ Kept u w') := hide fun u hu => itoa_any u v (atoi_int ha) (ht.kept hu)
    by_cases hv0 : v < 0
    · generalize (ByteArray.mk l.toArray) = S at *
      clear h ha hq ht he hsz
      go_enter Tryz.func85, Tryz.ntmps85
      go_wp2_with fail
      refine (unhide HC).mono ?_
      rintro _ w1 ⟨rfl, k1⟩
      have HK := hide k1
      clear k1 HC HT
      go_wp2_with fail
      go_ret2
      exact ⟨rfl, unhide HK⟩
    · by_cases hl : l.length ≤ 6
      · have hne : ((ByteArray.mk (Lib.itoa v).toArray).toList == (ByteArray.mk l.toArray).toList) = false := by
          rw [ByteArray.toList_mk, ByteArray.toList_mk]
          simp only [beq_eq_false_iff_ne, ne_eq]
          intro e
          exact hq ⟨by omega, hl, by simpa using e⟩
        have hl6 : ¬ (6 : Int) < (l.length : Int) := by omega
        generalize l.length = n at *
        generalize (ByteArray.mk l.toArray) = S at *
        generalize (ByteArray.mk (Lib.itoa v).toArray) = T at *
        clear h ha hq ht he
        go_enter Tryz.func85, Tryz.ntmps85
        go_wp2_with fail
        refine (unhide HC).mono ?_
        rintro _ w1 ⟨rfl, k1⟩
        have HK := hide k1
        clear k1 HC
        go_wp2_with fail
        refine ((unhide HT) _ (unhide HK)).mono ?_
        rintro _ w2 ⟨rfl, k2⟩
        replace HK := hide ((unhide HK).trans k2)
        clear k2 HT
        go_wp2_with fail
        go_ret2
        exact ⟨rfl, unhide HK⟩
      · have hl6 : (6 : Int) < (l.length : Int) := by omega
        generalize l.length = n at *
        generalize (ByteArray.mk l.toArray) = S at *
        clear h ha hq ht he
        go_enter Tryz.func85, Tryz.ntmps85
        go_wp2_with fail
        refine (unhide HC).mono ?_
        rintro _ w1 ⟨rfl, k1⟩
        have HK := hide k1
        clear k1 HC HT
        go_wp2_with fail
        go_ret2
        exact ⟨rfl, unhide HK⟩
  · have HC : Hid (Calls Tryz.prog 95 #[.string ⟨l.toArray⟩] w fun e w' => ∃ z t N, e = .returned (.tuple #[.int .i64 z, .iface t (.pointer (some ⟨N, 0, none⟩))]) ∧ Kept w w') := hide (by
      obtain ⟨⟨t1, p1, h1⟩, ⟨t2, p2, h2⟩⟩ := he
      have hno : ∀ v, Lib.atoiAll l ≠ .ok v := fun v e => hv ⟨v, e⟩
      by_cases hr : Lib.atoiAll l = .range
      · exact (Tryz.strconv_Atoi_far ⟨l.toArray⟩ (by rw [hsz]; omega) hr t2 p2 w h2).mono fun _ _ ⟨N, q1, _, _, q4⟩ => ⟨_, _, N, q1, q4⟩
      · exact (Tryz.strconv_Atoi_bad ⟨l.toArray⟩ (by rw [hsz]; omega) hno hr t1 p1 w h1).mono fun _ _ ⟨N, q1, _, _, q4⟩ => ⟨_, _, N, q1, q4⟩)
    generalize (ByteArray.mk l.toArray) = S at *
    clear h ht he hv hsz
    go_enter Tryz.func85, Tryz.ntmps85
    go_wp2_with fail
    refine (unhide HC).mono ?_
    rintro _ w1 ⟨z, t, N, rfl, k1⟩
    have HK := hide k1
    clear k1 HC
    go_wp2_with fail
    go_ret2
    exact ⟨rfl, unhide HK⟩
def leftT : Ending := .panicked [{ v := .iface 23 (.int .i64 1), recovered := false }]
theorem ask_yes (w : World) : Calls Tryz.prog 50 #[.bool true] w fun e w' => e = .returned (.tuple #[]) ∧ w' = w := by
  go_enter Tryz.func50, Tryz.ntmps50
  go_wp2
  go_end0
  exact ⟨rfl, rfl⟩
theorem ask_no (w : World) : Calls Tryz.prog 50 #[.bool false] w fun e w' => e = leftT ∧ w' = w := by
  go_enter Tryz.func50, Tryz.ntmps50
  go_wp2
  exact ⟨rfl, rfl, rfl⟩
def StrsW (w : World) (v : Value) (l : List (List UInt8)) : Prop :=
  ∃ oa cap, v = .slice oa l.length cap ∧ (l.length ≤ 1000000 ∧ l.length ≤ cap) ∧ ∀ (i : Nat) x, l[i]? = some x → ∃ b o, oa = some ⟨b, o, none⟩ ∧ w.cell? ⟨b, o + i, none⟩ = some (strV x)
theorem StrsW.kept {w w' : World} {v : Value} {l : List (List UInt8)} (h : StrsW w v l) (k : Kept w w') : StrsW w' v l := by
  obtain ⟨oa, cap, e, hn, hi⟩ := h
  refine ⟨oa, cap, e, hn, fun i x hx => ?_⟩
  obtain ⟨b, o, q1, q2⟩ := hi i x hx
  exact ⟨b, o, q1, k.cell q2⟩
def numsT : List (List UInt8) → Option (List Int)
  | [] => some []
  | x :: r => match numT x with
    | none => none
    | some z => match numsT r with
      | none => none
      | some l => some (z :: l)
theorem numsT_at : ∀ {l : List (List UInt8)} {r : List Int}, numsT l = some r → l.length = r.length ∧ ∀ (i : Nat) x, l[i]? = some x → ∃ z, r[i]? = some z ∧ numT x = some z
  | [], r, h => by cases h; exact ⟨rfl, fun i x hx => by simp at hx⟩
  | y :: l, r, h => by
    unfold numsT at h
    split at h
    · cases h
    · rename_i z hz
      split at h
      · cases h
      · rename_i r' hr
        cases h
        obtain ⟨q1, q2⟩ := numsT_at hr
        refine ⟨by simp [q1], fun i x hx => ?_⟩
        cases i with
        | zero => obtain rfl : y = x := by simpa using hx
                  exact ⟨z, rfl, hz⟩
        | succ i => obtain ⟨z', a1, a2⟩ := q2 i x (by simpa using hx); exact ⟨z', by simpa using a1, a2⟩
theorem numsT_no : ∀ {l : List (List UInt8)}, numsT l = none → ∃ (i : Nat) (x : List UInt8), l[i]? = some x ∧ numT x = none ∧ ∀ (j : Nat) y, j < i → l[j]? = some y → ∃ z, numT y = some z
  | [], h => by cases h
  | y :: l, h => by
    unfold numsT at h
    split at h
    · rename_i hz; exact ⟨0, y, rfl, hz, fun j _ hj => by omega⟩
    · rename_i z hz
      split at h
      · rename_i hr
        obtain ⟨i, x, q1, q2, q3⟩ := numsT_no hr
        refine ⟨i + 1, x, by simpa using q1, q2, fun j y' hj hy => ?_⟩
        cases j with
        | zero => obtain rfl : y = y' := by simpa using hy
                  exact ⟨z, hz⟩
        | succ j => exact q3 j y' (by omega) (by simpa using hy)
      · cases h
def NumsPost (l : List (List UInt8)) (w : World) (e : Ending) (w' : World) : Prop := match numsT l with
  | some r => ∃ g, e = .returned (.slice (some ⟨g, 0, none⟩) r.length r.length) ∧ (∃ cur, w'.heap[g]? = some (.cells cur 3) ∧ ∀ (i : Nat) z, r[i]? = some z → cur[i]? = some (.int .i64 z)) ∧ Kept w w'
  | none => e = leftT ∧ Kept w w'
theorem intInfoT : (Tryz.prog.info? 3).map (fun i => (i.zero, i.size, i.bytes)) = some (some (.int .i64 0), 1, 8) := by kernel_rfl
theorem make_intsT (m : Nat) (hm : m ≤ 1000000) (u : World) : (Instr.makeSlice 36 (.int .i64 m) (.int .i64 m)).run Tryz.prog u =
    .ok (.slice (some ⟨u.heap.size, 0, none⟩) m m) (u.alloc (.cells (Array.replicate m (Value.int .i64 0)) 3)) := by
  obtain ⟨i0, hi, hz0, hz1, hz2⟩ := info_parts intInfoT
  have h := run_make (P := Tryz.prog) u 36 3 i0 (.int .i64 0) Tryz.underlying36 hi hz0 .i64 .i64 (m : Int) (m : Int) (by omega) (Int.le_refl _) (by rw [hz2]; omega) (by omega)
  rw [Int.toNat_natCast] at h
  rw [show Array.replicate m (Value.int .i64 0) = madeCells #[Value.int .i64 0] (m * 1) by
    apply Array.ext
    · simp [madeCells]
    · intro i h1 h2
      simp [madeCells, Nat.mod_one]]
  simpa [hz1, Value.cells] using h
theorem numbersOf_any (w : World) (v : Value) (l : List (List UInt8)) (h : StrsW w v l) (hl : ∀ x ∈ l, x.length ≤ 100000) (ht : TabW w) (he : ErrsAt w) :
    Calls Tryz.prog 68 #[v] w (NumsPost l w) := by
  obtain ⟨oa, cap, rfl, hn, hi⟩ := h
  have hmk := make_intsT l.length (by omega)
  have HL := hide hl
  have HI := hide hi
  have HT := hide ht
  have HE := hide he
  have HY : Hid (∀ u, Calls Tryz.prog 50 #[.bool true] u fun e w' => e = .returned (.tuple #[]) ∧ w' = u) := hide ask_yes
  have HO : Hid (∀ u, Calls Tryz.prog 50 #[.bool false] u fun e w' => e = leftT ∧ w' = u) := hide ask_no
  obtain ⟨K, hK, hKs⟩ : ∃ K, K ≤ l.length ∧ ((∃ r, numsT l = some r ∧ K = l.length) ∨ (numsT l = none ∧ K < l.length ∧ ∃ x, l[K]? = some x ∧ numT x = none)) ∧ ∀ (j : Nat) y, j < K → l[j]? = some y → ∃ z, numT y = some z := by
    cases hr : numsT l with
    | some r => exact ⟨l.length, Nat.le_refl _, .inl ⟨r, rfl, rfl⟩, fun j y _ hy => by obtain ⟨z, _, q⟩ := (numsT_at hr).2 j y hy; exact ⟨z, q⟩⟩
    | none =>
      obtain ⟨i, x, q1, q2, q3⟩ := numsT_no hr
      have := (List.getElem?_eq_some_iff.1 q1).1
      exact ⟨i, by omega, .inr ⟨rfl, this, x, q1, q2⟩, q3⟩
  have HKS := hide hKs
  generalize hN : l.length = n at *
  have H1 : Hid (∃ cur, (w.alloc (.cells (Array.replicate n (Value.int .i64 0)) 3)).heap[w.heap.size]? = some (.cells cur 3) ∧ cur.size = n ∧ (∀ (i : Nat) x z, i < 0 → l[i]? = some x → numT x = some z → cur[i]? = some (.int .i64 z)) ∧ Kept w (w.alloc (.cells (Array.replicate n (Value.int .i64 0)) 3))) := hide ⟨_, lays_new rfl, by simp, fun i x z h0 => by omega, (Kept.refl w).alloc _⟩
  have HN := hide hN
  clear hi hN ht he hl hKs
  go_enter Tryz.func68, Tryz.ntmps68
  go_wp2_with fail
  generalize w.alloc (.cells (Array.replicate n (Value.int .i64 0)) 3) = wm at H1 ⊢
  obtain ⟨G, hG⟩ : ∃ G, G = w.heap.size := ⟨_, rfl⟩
  rw [← hG] at H1 ⊢
  have HG : Hid (w.heap.size ≤ G) := hide (by omega)
  clear hG hmk
  go_loopw [13] (fun s13 wr => ∃ k : Nat, k ≤ K ∧ s13 = .int .i64 k ∧ Hid (∃ cur, wr.heap[G]? = some (.cells cur 3) ∧ cur.size = n ∧ (∀ (i : Nat) x z, i < k → l[i]? = some x → numT x = some z → cur[i]? = some (.int .i64 z)) ∧ Kept w wr)) (fun s13 _ => n - (intOf s13).toNat)
  case atStart =>
    obtain ⟨cur, hh⟩ := unhide H1
    exact ⟨0, Nat.zero_le _, rfl, hide ⟨cur, hh⟩⟩
  case round =>
    obtain ⟨k, hkm, rfl, HW⟩ := hrel
    clear H1
    by_cases hk : k < n
    · obtain ⟨cur, a3, a4, a5, a6⟩ := unhide HW
      obtain ⟨x, hx⟩ : ∃ x, l[k]? = some x := ⟨_, List.getElem?_eq_getElem (by rw [unhide HN]; exact hk)⟩
      obtain ⟨b, o, rfl, c0⟩ := (unhide HI) k x hx
      replace c0 := a6.cell c0
      unfold strV at c0
      have hk0 : (0 : Int) ≤ (k : Int) := by omega
      have hk1 : (k : Int) < (n : Int) := by omega
      have hlx := (unhide HL) x (List.mem_of_getElem? hx)
      by_cases hkk : k < K
      · obtain ⟨z, hz⟩ := (unhide HKS).2 k x hkk hx
        have HC := hide (number_ok wr x z hz ((unhide HT).kept a6))
        have HX := hide (And.intro hx hz)
        have HA := hide (And.intro a3 (And.intro a4 (And.intro a5 a6)))
        generalize (ByteArray.mk x.toArray) = S at *
        clear hx hz a3 a4 a5 a6 HW hlx
        go_wp2_with fail
        refine (unhide HC).mono ?_
        rintro _ w2 ⟨rfl, k2⟩
        obtain ⟨a3, a4, a5, a6⟩ := unhide HA
        have g2 := lays_kept k2 a3
        obtain ⟨d1, c1⟩ : ∃ d, w2.cell? ⟨G, k, none⟩ = some d := ⟨_, (cell_lays g2 k).trans (Array.getElem?_eq_getElem (by omega))⟩
        have f1 := frozen_lays g2 k
        have HN2 : Hid (∃ cur, (w2.setCell ⟨G, k, none⟩ (.int .i64 z)).heap[G]? = some (.cells cur 3) ∧ cur.size = n ∧ (∀ (i : Nat) x z, i < k + 1 → l[i]? = some x → numT x = some z → cur[i]? = some (.int .i64 z)) ∧ Kept w (w2.setCell ⟨G, k, none⟩ (.int .i64 z))) := hide (by
          refine ⟨cur.setIfInBounds k (.int .i64 z), lays_set g2 k _, by simp [a4], fun i y z' hi hy hz' => ?_, (a6.trans k2).setCell (p := ⟨G, k, none⟩) (unhide HG) _⟩
          rw [Array.getElem?_setIfInBounds]
          by_cases hik : i = k
          · subst hik
            rw [if_pos rfl, if_pos (by omega)]
            rw [(unhide HX).1] at hy
            cases hy
            rw [(unhide HX).2] at hz'
            cases hz'
            rfl
          · rw [if_neg (fun e => hik e.symm)]
            exact a5 i y z' (by omega) hy hz')
        clear a3 a4 a5 a6 g2 k2 HA HC c0
        go_wp2_with fail
        refine ((unhide HY) _).mono ?_
        rintro _ _ ⟨rfl, rfl⟩
        go_wp2_with fail
        go_roundw
        case rel => exact ⟨k + 1, by omega, by go_num, HN2⟩
        case measure => simp [intOf]; omega
      · obtain rfl : k = K := by omega
        rcases (unhide HKS).1 with ⟨r, _, h0⟩ | ⟨hno, _, x', hx', hz⟩
        · omega
        · rw [hx] at hx'
          cases hx'
          have HC := hide (number_no wr x hz hlx ((unhide HT).kept a6) ((unhide HE).kept a6))
          have HA := hide a6
          have HNO := hide hno
          generalize (ByteArray.mk x.toArray) = S at *
          clear hx hz a3 a4 a5 a6 HW hlx hno
          go_wp2_with fail
          refine (unhide HC).mono ?_
          rintro _ w2 ⟨rfl, k2⟩
          have HK := hide ((unhide HA).trans k2)
          clear k2 HA HC c0
          go_wp2_with fail
          refine ((unhide HO) _).mono ?_
          rintro _ _ ⟨rfl, rfl⟩
          dsimp only [leftT]
          go_wp2_with fail
          refine ⟨rfl, ?_⟩
          unfold NumsPost
          rw [unhide HNO]
          exact ⟨rfl, unhide HK⟩
    · obtain ⟨r, hr, h0⟩ : ∃ r, numsT l = some r ∧ K = n := by
        rcases (unhide HKS).1 with ⟨r, hr, h0⟩ | ⟨_, h1, _⟩
        · exact ⟨r, hr, h0⟩
        · omega
      obtain rfl : k = n := by omega
      go_wp2
      go_ret
      obtain ⟨cur, a3, a4, a5, a6⟩ := unhide HW
      unfold NumsPost
      rw [hr]
      obtain ⟨q1, q2⟩ := numsT_at hr
      refine ⟨G, by rw [← q1, unhide HN]; rfl, ⟨cur, a3, fun i z hz => ?_⟩, a6⟩
      obtain ⟨x, hx⟩ : ∃ x, l[i]? = some x := ⟨_, List.getElem?_eq_getElem (by rw [q1]; exact (List.getElem?_eq_some_iff.1 hz).1)⟩
      obtain ⟨z', b1, b2⟩ := q2 i x hx
      rw [hz] at b1
      cases b1
      exact a5 i x z (by have := (List.getElem?_eq_some_iff.1 hx).1; have := unhide HN; omega) hx b2
def kindT (l : List UInt8) : Option Nat := tkS.findIdx? (fun q => q.1 == l)
def KindPost (l : List UInt8) (w : World) (e : Ending) (w' : World) : Prop := match kindT l with
  | some k => e = .returned (.int .i64 (k : Nat)) ∧ Kept w w'
  | none => e = leftT ∧ Kept w w'
theorem tk_get (k : Nat) (h : k < tkS.length) : tkS[k] = tkS.getD k ([], 0) := by rw [List.getD_eq_getElem?_getD, List.getElem?_eq_getElem h]; rfl
def tkC : List Value := tkS.flatMap fun q => [strV q.1, .int .i64 (q.2 : Nat)]
theorem wpList_run {ops : Array Oper} {rest : List Oper} {o : Oper} {a : Act} {Q : Exit → Act → World → Prop} (w : World) (hgd : o.guard = none) {v : Value} {w' : World} (hr : (execOp a.eval o).run Tryz.prog w = .ok (.value v) w') (h : wpList Tryz.prog ops Q rest (a.put o.dst v) w') : wpList Tryz.prog ops Q (o :: rest) a w :=
  wpList_plain hgd fun K hK => by
    unfold Oper.wp
    simp only [hr]
    exact hK _ _ h
theorem load_kinds (w : World) (C : Array Value) (hlc : (loadCellsFrom ⟨0, 0, none⟩ 0 34 #[]).run Tryz.prog w = .ok C w) (a : Act) (o : Oper) (ho : o.op = .load 86 (.global 0)) : (execOp a.eval o).run Tryz.prog w = .ok (.value (.agg C)) w := by
  unfold execOp
  simp only [ho, Act.eval, Instr.loadAt, Instr.sureAddr, loadVar, Sem.run_bind, Sem.run_pure, Tryz.isAgg86, Tryz.sizeOf86, Result.andThen_ok, if_true, loadCells, hlc]
theorem index_kinds (w : World) (C : Array Value) (k : Nat) (hk : k < 17) {a b : Value} (h0 : C[k * 2]? = some a) (h1 : C[k * 2 + 1]? = some b) : (Instr.index 86 (.agg C) (.int .i64 (k : Int))).run Tryz.prog w = .ok (.agg #[a, b]) w := by
  have hu : Tryz.prog.underlying 86 = some (.array 17 85) := Tryz.underlying86
  have l1 : k * 2 + 1 < C.size := (Array.getElem?_eq_some_iff.1 h1).1
  have e : C.extract (k * 2) (k * 2 + 2) = #[a, b] := by
    apply Array.ext
    · simp; omega
    · intro i i1 i2
      simp only [List.size_toArray, List.length_cons, List.length_nil] at i2
      rw [Array.getElem?_eq_some_iff] at h0 h1
      obtain ⟨q0, q1⟩ := h0
      obtain ⟨r0, r1⟩ := h1
      rw [Array.getElem_extract]
      match i, i2 with
      | 0, _ => simpa using q1
      | 1, _ => simpa using r1
  simp [Instr.index, asIntOf, run_underlying hu, part, Tryz.isAgg85, Tryz.sizeOf85, e]
  intro h
  omega
theorem kindOf_any (w : World) (l : List UInt8) (hk : TKAt w) : Calls Tryz.prog 86 #[.string ⟨l.toArray⟩] w (KindPost l w) := by
  obtain ⟨C, hC, hlc⟩ : ∃ C : Array Value, (∀ k, k < 17 → C[k * 2]? = some (strV (tkS.getD k ([], 0)).1) ∧ C[k * 2 + 1]? = some (.int .i64 ((tkS.getD k ([], 0)).2 : Nat))) ∧ (loadCellsFrom ⟨0, 0, none⟩ 0 34 #[]).run Tryz.prog w = .ok C w := by
    have hCC : ∀ k, k < 17 → tkC[k * 2]? = some (strV (tkS.getD k ([], 0)).1) ∧ tkC[k * 2 + 1]? = some (.int .i64 ((tkS.getD k ([], 0)).2 : Nat)) := fun k hk => by
      obtain rfl | rfl | rfl | rfl | rfl | rfl | rfl | rfl | rfl | rfl | rfl | rfl | rfl | rfl | rfl | rfl | rfl : k = 0 ∨ k = 1 ∨ k = 2 ∨ k = 3 ∨ k = 4 ∨ k = 5 ∨ k = 6 ∨ k = 7 ∨ k = 8 ∨ k = 9 ∨ k = 10 ∨ k = 11 ∨ k = 12 ∨ k = 13 ∨ k = 14 ∨ k = 15 ∨ k = 16 := by omega
      all_goals exact ⟨rfl, rfl⟩
    refine ⟨tkC.toArray, fun k hk => by simpa using hCC k hk, ?_⟩
    have := run_loadCells_list (P := Tryz.prog) w ⟨0, 0, none⟩ tkC (fun j v hj => by
        have hadd : (⟨0, 0, none⟩ : Addr).add j = ⟨0, j, none⟩ := by unfold Addr.add; split <;> simp_all
        rw [hadd, ← hj]
        have hj34 : j < 34 := (List.getElem?_eq_some_iff.1 hj).1
        obtain ⟨k, rfl | rfl⟩ : ∃ k, j = k * 2 ∨ j = k * 2 + 1 := ⟨j / 2, by omega⟩
        · rw [(hk k (by omega)).1, (hCC k (by omega)).1]
        · rw [(hk k (by omega)).2, (hCC k (by omega)).2])
    exact this
  generalize hS : (ByteArray.mk l.toArray) = S at *
  go_enter Tryz.func86, Tryz.ntmps86
  go_upto_region 1 with fail
  refine wp_region_list ?_
  refine wpList_run w rfl (load_kinds w C hlc _ _ rfl) ?_
  clear hlc
  go_wp2_with fail
  have HK0 := hide hk
  have HS := hide hS
  have HC := hide hC
  clear hk hS hC
  go_loopw [6] (fun s6 wr => ∃ k : Nat, k ≤ 17 ∧ s6 = .int .i64 k ∧ Hid (Kept w wr ∧ ∀ j, j < k → (tkS.getD j ([], 0)).1 ≠ l)) (fun s6 _ => 17 - (intOf s6).toNat)
  case atStart => exact ⟨0, Nat.zero_le _, rfl, hide ⟨Kept.refl w, fun j hj => by omega⟩⟩
  case round =>
    obtain ⟨k, hk17, rfl, HW⟩ := hrel
    by_cases hk : k < 17
    · have hk0 : (0 : Int) ≤ (k : Int) := by omega
      have hk1 : (k : Int) < 17 := by omega
      obtain ⟨c0, c1⟩ := (unhide HC) k hk
      unfold strV at c0
      have hix := index_kinds wr C k hk c0 c1
      have HKW := hide ((unhide HW).1.alloc (.cells #[.string ⟨(tkS.getD k ([], 0)).1.toArray⟩, .int .i64 ((tkS.getD k ([], 0)).2 : Nat)] 85))
      by_cases hw : (tkS.getD k ([], 0)).1 = l
      · have hq : ((ByteArray.mk (tkS.getD k ([], 0)).1.toArray).toList == S.toList) = true := by rw [← unhide HS, hw]; simp
        have HKT : Hid (kindT l = some k) := hide (by
          unfold kindT
          rw [List.findIdx?_eq_some_iff_getElem]
          refine ⟨show k < tkS.length from hk, ?_, fun j hj => ?_⟩
          · rw [tk_get]; simpa using hw
          · have h1 := (unhide HW).2 j hj
            rw [tk_get]; simpa using h1)
        generalize (ByteArray.mk (tkS.getD k ([], 0)).1.toArray) = NM at *
        generalize (tkS.getD k ([], 0)).2 = nn at *
        clear c0 c1 hw HW HC
        go_wp2_with fail
        go_ret
        unfold KindPost
        rw [unhide HKT]
        exact ⟨rfl, unhide HKW⟩
      · have hq : ((ByteArray.mk (tkS.getD k ([], 0)).1.toArray).toList == S.toList) = false := by rw [← unhide HS, ByteArray.toList_mk, ByteArray.toList_mk]; simpa using hw
        have HN : Hid (Kept w (wr.alloc (.cells #[.string ⟨(tkS.getD k ([], 0)).1.toArray⟩, .int .i64 ((tkS.getD k ([], 0)).2 : Nat)] 85)) ∧ ∀ j, j < k + 1 → (tkS.getD j ([], 0)).1 ≠ l) := hide ⟨unhide HKW, fun j hj => by
          by_cases h1 : j < k
          · exact (unhide HW).2 j h1
          · obtain rfl : j = k := by omega
            exact hw⟩
        generalize hNM : (ByteArray.mk (tkS.getD k ([], 0)).1.toArray) = NM at *
        clear c0 c1 hw HW HKW
        go_wp2_with fail
        go_roundw
        case rel => exact ⟨k + 1, by omega, by go_num, HN⟩
        case measure => simp [intOf]; omega
    · obtain rfl : k = 17 := by omega
      have HKT : Hid (kindT l = none) := hide (by
        unfold kindT
        rw [List.findIdx?_eq_none_iff]
        intro q hq
        obtain ⟨j, hj, rfl⟩ := List.getElem_of_mem hq
        have h1 := (unhide HW).2 j hj
        rw [tk_get]; simpa using h1)
      have HK := hide (unhide HW).1
      clear HW
      go_wp2_with fail
      refine ⟨rfl, ?_⟩
      unfold KindPost
      rw [unhide HKT]
      exact ⟨rfl, unhide HK⟩
def opOfT (wd : List UInt8) (l : List Int) : Option (Int × Int) := match kindT wd with
  | none => none
  | some k => if l.length = (tkS.getD k ([], 0)).2 then some ((k : Int), l.getLastD 0) else none
def OpPost (wd : List UInt8) (l : List Int) (w : World) (e : Ending) (w' : World) : Prop := match opOfT wd l with
  | some x => e = .returned (.agg #[.int .i64 x.1, .int .i64 x.2]) ∧ Kept w w'
  | none => e = leftT ∧ Kept w w'
theorem kindT_lt {wd : List UInt8} {k : Nat} (h : kindT wd = some k) : k < 17 := by
  unfold kindT at h
  rw [List.findIdx?_eq_some_iff_getElem] at h
  exact h.1
theorem opOf_any (w : World) (wd : List UInt8) (g n : Nat) (l : List Int) (hn : l.length = n) (h : ∃ cur, w.heap[g]? = some (.cells cur 3) ∧ ∀ (i : Nat) z, l[i]? = some z → cur[i]? = some (.int .i64 z)) (hl : n ≤ 1000000) (hk : TKAt w) :
    Calls Tryz.prog 69 #[.string ⟨wd.toArray⟩, .slice (some ⟨g, 0, none⟩) n n] w (OpPost wd l w) := by
  have HKI : Hid (∀ u, Kept w u → Calls Tryz.prog 86 #[.string ⟨wd.toArray⟩] u (KindPost wd u)) := hide fun u hu => kindOf_any u wd (hk.kept hu)
  have HY : Hid (∀ u, Calls Tryz.prog 50 #[.bool true] u fun e w' => e = .returned (.tuple #[]) ∧ w' = u) := hide ask_yes
  have HO : Hid (∀ u, Calls Tryz.prog 50 #[.bool false] u fun e w' => e = leftT ∧ w' = u) := hide ask_no
  have HN := hide hn
  have HH := hide h
  have HTK := hide hk
  have HZ : Hid (Kept w (w.alloc (.cells #[.int .i64 0, .int .i64 0] 44)) ∧ (w.alloc (.cells #[.int .i64 0, .int .i64 0] 44)).heap[w.heap.size]? = some (.cells #[.int .i64 0, .int .i64 0] 44) ∧ w.heap.size ≤ w.heap.size) := hide ⟨(Kept.refl w).alloc _, lays_new rfl, Nat.le_refl _⟩
  generalize (ByteArray.mk wd.toArray) = S at *
  clear h hk hn
  go_enter Tryz.func69, Tryz.ntmps69
  go_wp2_with fail
  generalize w.alloc (.cells #[.int .i64 0, .int .i64 0] 44) = w0 at *
  obtain ⟨R, hR⟩ : ∃ r, r = w.heap.size := ⟨_, rfl⟩
  have HR : Hid (w.heap.size ≤ R) := hide (by omega)
  rw [← hR]
  have HZ2 : Hid (Kept w w0 ∧ w0.heap[R]? = some (.cells #[.int .i64 0, .int .i64 0] 44)) := hide (by rw [hR]; exact ⟨(unhide HZ).1, (unhide HZ).2.1⟩)
  clear hR HZ
  refine ((unhide HKI) w0 (unhide HZ2).1).mono ?_
  intro e w1 hp
  unfold KindPost at hp
  cases hkt : kindT wd with
  | none =>
    rw [hkt] at hp
    obtain ⟨rfl, k1⟩ := hp
    have HK := hide ((unhide HZ2).1.trans k1)
    have HOP : Hid (opOfT wd l = none) := hide (by unfold opOfT; rw [hkt])
    clear k1 HZ2 hkt
    dsimp only [leftT]
    go_wp2_with fail
    refine ⟨rfl, ?_⟩
    unfold OpPost
    rw [unhide HOP]
    exact ⟨rfl, unhide HK⟩
  | some k =>
    rw [hkt] at hp
    obtain ⟨rfl, k1⟩ := hp
    have hk17 := kindT_lt hkt
    have HKT := hide hkt
    have hk0 : (0 : Int) ≤ (k : Int) := by omega
    have hk1 : (k : Int) < 17 := by omega
    have b1 : ∀ o : Obj, (w1.alloc o).cell? ⟨0, k * 2 + 1, none⟩ = some (.int .i64 ((tkS.getD k ([], 0)).2 : Nat)) := fun o => (((unhide HZ2).1.trans k1).alloc o).cell ((unhide HTK) k hk17).2
    have HK := hide (And.intro ((unhide HZ2).1.trans k1) (lays_kept k1 (unhide HZ2).2))
    clear k1 HZ2 hkt HKI
    generalize hnn : (tkS.getD k ([], 0)).2 = nn at *
    have HNN := hide hnn
    clear hnn
    by_cases hq : n = nn
    · subst hq
      go_wp2_with fail
      refine ((unhide HY) _).mono ?_
      rintro _ _ ⟨rfl, rfl⟩
      obtain ⟨X, hX⟩ : ∃ r, r = w1.heap.size := ⟨_, rfl⟩
      have HOP : Hid (opOfT wd l = some ((k : Int), l.getLastD 0)) := hide (by unfold opOfT; rw [unhide HKT]; simp only [unhide HNN, unhide HN, if_true])
      have H1 : Hid (Kept w (w1.alloc (.cells #[.int .i64 (k : Int), .int .i64 0] 44)) ∧ (w1.alloc (.cells #[.int .i64 (k : Int), .int .i64 0] 44)).heap[X]? = some (.cells #[.int .i64 (k : Int), .int .i64 0] 44) ∧ (w1.alloc (.cells #[.int .i64 (k : Int), .int .i64 0] 44)).heap[R]? = some (.cells #[.int .i64 0, .int .i64 0] 44) ∧ w.heap.size ≤ X ∧ R ≠ X) := hide ⟨(unhide HK).1.alloc _, by rw [hX]; exact lays_new rfl, lays_alloc (unhide HK).2 _, by have := (unhide HK).1.size; omega, by have := (Array.getElem?_eq_some_iff.1 (unhide HK).2).1; omega⟩
      rw [← hX]
      have HXW := hide (And.intro (unhide H1).2.2.2.1 (unhide H1).2.2.2.2)
      clear hX HK b1
      generalize w1.alloc (.cells #[.int .i64 (k : Int), .int .i64 0] 44) = wx at *
      go_wp2_with fail
      go_loopw [22] (fun s22 wr => ∃ i : Nat, i ≤ n ∧ s22 = .int .i64 i ∧ Hid (Kept w wr ∧ wr.heap[X]? = some (.cells #[.int .i64 (k : Int), .int .i64 ((l.take i).getLastD 0)] 44) ∧ wr.heap[R]? = some (.cells #[.int .i64 0, .int .i64 0] 44))) (fun s22 _ => n - (intOf s22).toNat)
      case atStart => exact ⟨0, Nat.zero_le _, rfl, hide ⟨(unhide H1).1, by simpa using (unhide H1).2.1, (unhide H1).2.2.1⟩⟩
      case round =>
        obtain ⟨i, hin, rfl, HW⟩ := hrel
        clear H1
        by_cases hi : i < n
        · obtain ⟨z, hz⟩ : ∃ z, l[i]? = some z := ⟨_, List.getElem?_eq_getElem (by rw [unhide HN]; exact hi)⟩
          obtain ⟨a1, a2, a3⟩ := unhide HW
          obtain ⟨cur, h1, h2⟩ := unhide HH
          have c0 : wr.cell? ⟨g, i, none⟩ = some (.int .i64 z) := (cell_lays (lays_kept a1 h1) i).trans (h2 i z hz)
          have c1 := cell_lays a2 1
          have f1 := frozen_lays a2 1
          have hi0 : (0 : Int) ≤ (i : Int) := by omega
          have hi1 : (i : Int) < (n : Int) := by omega
          have HN2 : Hid (Kept w (wr.setCell ⟨X, 1, none⟩ (.int .i64 z)) ∧ (wr.setCell ⟨X, 1, none⟩ (.int .i64 z)).heap[X]? = some (.cells #[.int .i64 (k : Int), .int .i64 ((l.take (i + 1)).getLastD 0)] 44) ∧ (wr.setCell ⟨X, 1, none⟩ (.int .i64 z)).heap[R]? = some (.cells #[.int .i64 0, .int .i64 0] 44)) := hide ⟨a1.setCell (p := ⟨X, 1, none⟩) (unhide HXW).1 _, by
            have := lays_set a2 1 (.int .i64 z)
            rw [List.take_add_one, hz]
            simpa using this, lays_other a3 (unhide HXW).2 _⟩
          generalize (l.take i).getLastD 0 = lz at *
          clear a1 a2 a3 h1 h2 hz HW
          go_wp2_with fail
          go_roundw
          case rel => exact ⟨i + 1, by omega, by go_num, HN2⟩
          case measure => simp [intOf]; omega
        · obtain rfl : i = n := by omega
          obtain ⟨a1, a2, a3⟩ := unhide HW
          rw [List.take_of_length_le (by rw [unhide HN]; omega)] at a2
          have c0 := cell_lays a2 0
          have c1 := cell_lays a2 1
          have x0 := cell_lays a3 0
          have x1 := cell_lays a3 1
          have z0 := frozen_lays a3 0
          have z1 := frozen_lays a3 1
          have hRX := (unhide HXW).2
          have k1 := lays_set (lays_set a3 0 (.int .i64 (k : Int))) 1 (.int .i64 (l.getLastD 0))
          have HKF : Hid (Kept w ((wr.setCell ⟨R, 0, none⟩ (.int .i64 (k : Int))).setCell ⟨R, 1, none⟩ (.int .i64 (l.getLastD 0)))) := hide ((a1.setCell (p := ⟨R, 0, none⟩) (unhide HR) _).setCell (p := ⟨R, 1, none⟩) (unhide HR) _)
          simp only [List.getElem?_toArray, List.getElem?_cons_zero, List.getElem?_cons_succ] at c0 c1 x0 x1
          have t0 := cell_lays k1 0
          have t1 := cell_lays k1 1
          simp only [Array.setIfInBounds, List.size_toArray, List.length_cons, List.length_nil] at t0 t1
          have HT := hide (And.intro t0 t1)
          generalize l.getLastD 0 = lz at *
          clear a1 a2 a3 k1 t0 t1 HW
          go_wp2_with fail
          obtain ⟨t0, t1⟩ := unhide HT
          refine bodyPost_ret (v := .agg #[.int .i64 (k : Int), .int .i64 lz]) (by simp [results, Tryz.results69, go_sem, t0, t1]) rfl ?_
          unfold OpPost
          rw [unhide HOP]
          exact ⟨rfl, unhide HKF⟩
    · have hq0 : ((n : Int) == (nn : Int)) = false := by simp; omega
      have HOP : Hid (opOfT wd l = none) := hide (by unfold opOfT; rw [unhide HKT]; simp only [unhide HNN, unhide HN, if_neg hq])
      clear hq
      go_wp2_with fail
      refine ((unhide HO) _).mono ?_
      rintro _ _ ⟨rfl, rfl⟩
      dsimp only [leftT]
      go_wp2_with fail
      refine ⟨rfl, ?_⟩
      unfold OpPost
      rw [unhide HOP]
      exact ⟨rfl, (unhide HK).1.alloc _⟩
open Go.RowKit
theorem PS : (∀ (a : Act) (t : Tmp) (v : Value), a.put (some t) v = { a with tmps := a.tmps.setIfInBounds t v }) ∧ (∀ (a : Act) (v : Value), a.put none v = a) ∧
    (∀ (l : List Value) (i : Nat) (a : Value), l.toArray.setIfInBounds i a = (l.set i a).toArray) ∧ (∀ (l : List Bool) (i : Nat) (a : Bool), l.toArray.setIfInBounds i a = (l.set i a).toArray) ∧
    (∀ (l : List Value) (a b : Value), (b :: l).set 0 a = a :: l) ∧ (∀ (l : List Bool) (a b : Bool), (b :: l).set 0 a = a :: l) ∧
    (∀ (l : List Value) (i : Nat) (a b : Value), (b :: l).set (i + 1) a = b :: l.set i a) ∧ (∀ (l : List Bool) (i : Nat) (a b : Bool), (b :: l).set (i + 1) a = b :: l.set i a) :=
  ⟨fun _ _ _ => rfl, fun _ _ => rfl, fun _ _ _ => by simp, fun _ _ _ => by simp, fun _ _ _ => rfl, fun _ _ _ => rfl, fun _ _ _ _ => rfl, fun _ _ _ _ => rfl⟩
theorem at_drop {L tl : List Oper} {i : Nat} {oi : Oper} (hd : L.drop i = oi :: tl) : L.toArray[i]? = some oi := by
  have h : (L.drop i)[0]? = some oi := by rw [hd]; rfl
  rw [List.getElem?_drop] at h
  simpa using h
theorem take_yes {P : Program} {md : Region.Mode} {Q : Exit → Act → World → Prop} {S : World → Prop} {L tl : List Oper} {i : Nat} {oi : Oper} {v : Value} {fuel : Nat} {listed : Array Bool} {a : Act} {w : World} (hd : L.drop i = oi :: tl)
    (hs : Region.noSelect L.toArray = true) (hf : Region.free md L.toArray listed i = true) (hr : (Region.ready md L.toArray listed).contains i = true)
    (hQ : ∀ c a w, Q (.panic c) (a.put oi.dst v) w → Q (.panic c) a w) (hw : Region.wanted oi (yielded L.toArray a.tmps) = true) (hy : ∀ u, S u → (execOp a.eval oi).run P u = .ok (.value v) u) (hS : S w)
    (h : wpAnyH P md L.toArray Q S fuel (listed.setIfInBounds i true) (a.put oi.dst v) w) : wpAnyH P md L.toArray Q S (fuel + 1) listed a w :=
  wpAnyH_take (at_drop hd) hs hf hr hQ (.inl ⟨hw, hy⟩) hS h
theorem take_one {P : Program} {md : Region.Mode} {Q : Exit → Act → World → Prop} {S : World → Prop} {L tl : List Oper} {i : Nat} {oi : Oper} {fuel : Nat} {listed : Array Bool} {a : Act} {w : World} (hd : L.drop i = oi :: tl)
    (hr : Region.ready md L.toArray listed = [i])
    (h : ∀ K' : Act → World → Prop, Shut (∀ a w, S w → (S w → wpAnyH P md L.toArray Q S fuel (listed.setIfInBounds i true) a w) → K' a w) → if Region.wanted oi (yielded L.toArray a.tmps) = true then Oper.wp P oi a w K' Q else K' (a.put oi.dst undef) w) :
    wpAnyH P md L.toArray Q S (fuel + 1) listed a w :=
  wpAnyH_ready hr (by simp) (AllReadyH.cons (at_drop hd) h AllReadyH.nil)
end Go.Proofs.YtjioipkfnekigaaGreatDoor
namespace Go.Proofs.YtjioipkfnekigaaGreatDoor
open Go.RowKit
variable {P : Program} {md : Region.Mode} {Q : Exit → Act → World → Prop} {S : World → Prop}
structure AnyY (plan : List Nat) (P : Program) (md : Region.Mode) (ops : Array Oper) (Q : Exit → Act → World → Prop) (S : World → Prop) (n : Nat) (listed : Array Bool) (a : Act) (w : World) : Prop where
  out : wpAnyH P md ops Q S n listed a w
theorem planY {ops : Array Oper} {n : Nat} {listed : Array Bool} {a : Act} {w : World} (plan : List Nat) (h : AnyY plan P md ops Q S n listed a w) : wpAnyH P md ops Q S n listed a w := h.out
theorem endY {ops : Array Oper} {n : Nat} {listed : Array Bool} {a : Act} {w : World} (h : wpAnyH P md ops Q S n listed a w) : AnyY [] P md ops Q S n listed a w := ⟨h⟩
theorem takeY {L tl : List Oper} {i : Nat} {plan : List Nat} {oi : Oper} {v : Value} {fuel : Nat} {listed : Array Bool} {a : Act} {w : World} (hS : S w) (hy : ∀ u, S u → (execOp a.eval oi).run P u = .ok (.value v) u)
    (h : AnyY plan P md L.toArray Q S fuel (listed.setIfInBounds i true) (a.put oi.dst v) w) (hd : L.drop i = oi :: tl := by rfl) (hs : Region.noSelect L.toArray = true := by kernel_rfl) (hf : Region.free md L.toArray listed i = true := by kernel_rfl)
    (hr : (Region.ready md L.toArray listed).contains i = true := by kernel_rfl) (hQ : ∀ c a w, Q (.panic c) (a.put oi.dst v) w → Q (.panic c) a w := by exact fun _ _ _ h => h)
    (hw : Region.wanted oi (yielded L.toArray a.tmps) = true := by rfl) : AnyY (i :: plan) P md L.toArray Q S (fuel + 1) listed a w := ⟨take_yes hd hs hf hr hQ hw hy hS h.out⟩
end Go.Proofs.YtjioipkfnekigaaGreatDoor
