/- ProgT, TextD, TextE, TextF, TextG -/
import Derived.Test.YtokhibfenccijaaGreatDoorKB02
import Derived.Lib.AtoiAll
import Derived.Lib.Split
import Derived.Deep.DeepCutAuto
set_option maxRecDepth 100000
set_option maxHeartbeats 8000000
namespace Go.Proofs.YtokhibfenccijaaGreatDoor
def firstS (e : Nat → Int) : Nat → Nat → Int
  | _, 0 => 0
  | k, n + 1 => if e k = 0 then firstS e (k + 1) n else e k
theorem firstS_zero {e : Nat → Int} : ∀ {n k : Nat}, firstS e k n = 0 → ∀ i, k ≤ i → i < k + n → e i = 0
  | 0, _, _, i, h1, h2 => by omega
  | n + 1, k, h, i, h1, h2 => by
    unfold firstS at h
    split at h
    · rename_i h0
      rcases Nat.lt_or_eq_of_le h1 with h3 | rfl
      · exact firstS_zero h i h3 (by omega)
      · exact h0
    · rename_i h0; exact absurd h h0
theorem firstS_step {e : Nat → Int} {k m : Nat} (h : k < m) : firstS e k (m - k) = if e k = 0 then firstS e (k + 1) (m - (k + 1)) else e k := by
  obtain ⟨n, hn⟩ : ∃ n, m - k = n + 1 := ⟨m - k - 1, by omega⟩
  rw [hn, show m - (k + 1) = n by omega]
  rfl
def hgtE (p : List Fn) (k : Nat) : Int := match heightsS p (codeOf p k) with | some _ => 0 | none => 1
def progS (p : List Fn) : Int :=
  if 5 < p.length then 2 else if p.length = 0 then 5 else if (p.getD 0 Fn.zero).args ≠ 0 then 1
  else if firstS (fun k => chkS p k) 0 p.length = 0 then firstS (hgtE p) 0 p.length else firstS (fun k => chkS p k) 0 p.length
theorem progS_right {p : List Fn} (h : progS p = 0) : p.length ≤ 5 ∧ 0 < p.length ∧ ∀ k, k < p.length → chkS p k = 0 := by
  unfold progS at h
  split at h
  · cases h
  · split at h
    · cases h
    · split at h
      · cases h
      · split at h
        · rename_i h0
          exact ⟨by omega, by omega, fun k hk => firstS_zero h0 k (by omega) (by omega)⟩
        · rename_i h0; exact absurd h h0
theorem chkS_ops {p : List Fn} {k : Nat} (h : chkS p k = 0) : k < p.length ∧ (codeOf p k).length ≤ 24 ∧ opsS p (p.getD k Fn.zero) (codeOf p k) = 0 := by
  unfold chkS at h
  split at h
  · rename_i hk
    simp only [Int.toNat_natCast] at h
    split at h
    · cases h
    · split at h
      · exact ⟨by omega, by unfold codeOf; omega, h⟩
      · cases h
  · cases h
open Go.RowKit Go.Maps
structure OkT (p : List Fn) : Prop where
  len : p.length ≤ 5
  fn : ∀ f ∈ p, (0 ≤ f.args ∧ f.args ≤ 4) ∧ (0 ≤ f.locals ∧ f.locals ≤ 4) ∧ f.code.length ≤ 24 ∧ ∀ x ∈ f.code, (0 ≤ x.1 ∧ x.1 < 17) ∧ (0 ≤ x.2 ∧ x.2 ≤ 999) ∧ ((tkS.getD x.1.toNat ([], 0)).2 = 0 → x.2 = 0)
theorem tk_opd (k : Nat) (h : k < 17) : (tkS.getD k ([], 0)).2 = 0 → opd k = 0 := by revert h; revert k; decide
theorem right_okT {p : List Fn} (h : progS p = 0) : OkT p := by
  obtain ⟨h1, h2, h3⟩ := progS_right h
  refine ⟨h1, fun f hf => ?_⟩
  obtain ⟨k, hk, rfl⟩ := List.getElem_of_mem hf
  obtain ⟨i, hi, hi2, q1, q2, q3⟩ := chkS_zero (h3 k hk)
  obtain rfl : k = i := by omega
  have hg : p.getD k Fn.zero = p[k] := by simp [List.getD, hk]
  rw [hg] at q1 q2 q3
  obtain ⟨r1, r2, r3⟩ := roomB_iff.1 q2
  refine ⟨⟨r1, by omega⟩, ⟨by omega, r3⟩, q1, fun x hx => ?_⟩
  obtain ⟨s1, s2, s3⟩ := opS_kind (opsS_all q3 x hx)
  refine ⟨⟨s1, s2⟩, ?_, fun h0 => ?_⟩
  · unfold mayB at s3
    split at s3
    · have := of_decide_eq_true s3; omega
    · split at s3
      · have := inB_iff.1 s3; omega
      · split at s3
        · have := ixB_iff.1 s3; omega
        · split at s3
          · have := ixB_iff.1 s3; omega
          · have := ixB_iff.1 (Bool.and_eq_true_iff.1 s3).1; omega
  · rw [tk_opd _ (by omega) h0] at s3
    simpa [mayB] using s3
theorem strCells_bytes (l : List UInt8) : Lib.strCells ⟨l.toArray⟩ = Lib.byteCells l := by simp [Lib.strCells, Lib.byteCells]
theorem byteCells_app (a b : List UInt8) : Lib.byteCells (a ++ b) = Lib.byteCells a ++ Lib.byteCells b := by simp [Lib.byteCells]
theorem writeT (w : World) (B b : Nat) (l t : List UInt8) (h : BuI B b (Lib.byteCells l) w) (hBw : B ≤ w.heap.size) (hl : l.length + t.length ≤ 1000000) :
    Calls Tryz.prog 16 #[.pointer (some ⟨b, 0, none⟩), .string ⟨t.toArray⟩] w fun e w' => e = .returned (.tuple #[.int .i64 t.length, .nilIface]) ∧ BuI B b (Lib.byteCells (l ++ t)) w' ∧ Below B w w' ∧ BuK w w' := by
  have hs : (ByteArray.mk t.toArray).size = t.length := by simp [ByteArray.size]
  have := write_any w B b _ ⟨t.toArray⟩ h hBw (by rw [Lib.byteCells_length, hs]; omega)
  rw [hs, strCells_bytes, ← byteCells_app] at this
  exact this.mono fun _ _ ⟨h1, h2, h3⟩ => ⟨h1, .inr h2, h3⟩
theorem line_len (wd : List UInt8) (l : List Int) (h : wd.length ≤ 6) (hl : l.length ≤ 2) (hz : ∀ z ∈ l, I64 z) : (lineT wd l).length ≤ 100 := by
  have := join_len (wd :: l.map Lib.itoa) 20 (fun x hx => by
    rcases List.mem_cons.1 hx with rfl | hx
    · omega
    · obtain ⟨z, hz', rfl⟩ := List.mem_map.1 hx
      exact itoa_len (hz z hz'))
  simp only [List.length_cons, List.length_map] at this
  have h2 : (l.length + 1) * (20 + 1) ≤ 3 * 21 := Nat.mul_le_mul (by omega) (by omega)
  simp only [lineT, List.length_append, List.length_cons, List.length_nil]
  omega
theorem opT_len {x : Int × Int} (h : 0 ≤ x.2 ∧ x.2 ≤ 999) : (opT x).length ≤ 100 := by
  unfold opT
  have := tk_len x.1.toNat
  split
  · exact line_len _ _ (by omega) (by simp) (by simp)
  · exact line_len _ _ (by omega) (by simp) (by simp; unfold I64; omega)
theorem flatT_len {α : Type} (g : α → List UInt8) (K : Nat) : ∀ (l : List α), (∀ x ∈ l, (g x).length ≤ K) → (l.flatMap g).length ≤ l.length * K
  | [], _ => by simp
  | x :: l, h => by
    have h1 := h x (by simp)
    have h2 := flatT_len g K l (fun y hy => h y (by simp [hy]))
    simp only [List.flatMap_cons, List.length_append, List.length_cons, Nat.add_mul]
    omega
theorem flatT_snoc {α : Type} (g : α → List UInt8) (l : List α) {k : Nat} {x : α} (hx : l[k]? = some x) : (l.take (k + 1)).flatMap g = (l.take k).flatMap g ++ g x := by
  rw [List.take_add_one, hx, List.flatMap_append]
  simp
theorem fnT_len {p : List Fn} (h : OkT p) {f : Fn} (hf : f ∈ p) : (fnT f).length ≤ 2500 := by
  obtain ⟨h1, h2, h3, h4⟩ := h.fn f hf
  have q1 := line_len [102, 117, 110, 99] [f.args, f.locals] (by simp) (by simp) (by simp; unfold I64; omega)
  have q2 := flatT_len opT 100 f.code (fun x hx => opT_len (h4 x hx).2.1)
  have : f.code.length * 100 ≤ 24 * 100 := Nat.mul_le_mul_right _ h3
  simp only [fnT, List.length_append]
  omega
theorem takeT_len {p : List Fn} (h : OkT p) (k : Nat) : ((p.take k).flatMap fnT).length ≤ 12500 := by
  have := flatT_len fnT 2500 (p.take k) (fun f hf => fnT_len h (List.mem_of_mem_take hf))
  have h5 := h.len
  have h6 : (p.take k).length ≤ 5 := by simp; omega
  have : (p.take k).length * 2500 ≤ 5 * 2500 := Nat.mul_le_mul_right _ h6
  omega
theorem show_ok (w : World) (p : List Fn) (vp : Value) (hp : ProgAt w vp p) (ho : OkT p) (ht : TabW w) (hk : TKAt w)
    (HPC : Hid (Calls Tryz.prog 25 #[vp] w fun e w' => e = .returned (.int .i64 0) ∧ Kept w w')) :
    Calls Tryz.prog 9 #[vp] w fun e w' => e = .returned (.tuple #[strV (showT p), .int .i64 0]) ∧ Kept w w' := by
  have HO := hide ho
  have HT := hide ht
  have HTK := hide hk
  obtain ⟨oa, cap, rfl, hn, hi⟩ := hp
  have HI := hide hi
  have hn5 := ho.len
  generalize hN : p.length = n at *
  have HN := hide hN
  clear ho ht hk hi hN hn
  go_enter Tryz.func9, Tryz.ntmps9
  go_wp2_with fail
  refine (unhide HPC).mono ?_
  rintro _ w1 ⟨rfl, k1⟩
  have HK1 := hide k1
  clear k1 HPC
  go_wp2_with fail
  obtain ⟨B, hB⟩ : ∃ r, r = w1.heap.size := ⟨_, rfl⟩
  have H1 : Hid (BuI B B (Lib.byteCells []) (w1.alloc (.cells #[.pointer none, .slice none 0 0] 51)) ∧ Kept w1 (w1.alloc (.cells #[.pointer none, .slice none 0 0] 51))) := hide ⟨by rw [hB]; exact BuI.new w1, (Kept.refl w1).alloc _⟩
  rw [← hB]
  have HB : Hid (B = w1.heap.size) := hide hB
  clear hB
  generalize w1.alloc (.cells #[.pointer none, .slice none 0 0] 51) = w2 at *
  go_loopw [17] (fun s17 wr => ∃ k : Nat, k ≤ n ∧ s17 = .int .i64 k ∧ Hid (BuI B B (Lib.byteCells ((p.take k).flatMap fnT)) wr ∧ Kept w1 wr)) (fun s17 _ => n - (intOf s17).toNat)
  case atStart => exact ⟨0, Nat.zero_le _, rfl, hide ⟨by simpa using (unhide H1).1, (unhide H1).2⟩⟩
  case round =>
    obtain ⟨k, hkn, rfl, HW⟩ := hrel
    clear H1
    by_cases hk : k < n
    · obtain ⟨f, hf⟩ : ∃ f, p[k]? = some f := ⟨_, List.getElem?_eq_getElem (by rw [unhide HN]; exact hk)⟩
      obtain ⟨bb, oo, cv, rfl, c0, c1, c2, hc⟩ := (unhide HI) k f hf
      have kk := (unhide HK1).trans (unhide HW).2
      replace c0 := kk.cell c0
      replace c1 := kk.cell c1
      replace c2 := kk.cell c2
      have hk0 : (0 : Int) ≤ (k : Int) := by omega
      have hk1 : (k : Int) < (n : Int) := by omega
      obtain ⟨oc, cc, rfl, hnc, hic⟩ := hc
      obtain ⟨ha, hlo, hcl, hop⟩ := (unhide HO).fn f (List.mem_of_getElem? hf)
      have HF := hide hf
      have HOP := hide hop
      have HIC := hide hic
      have HLN : Hid (∀ u b, Kept w u → u.heap[b]? = some (.cells #[.int .i64 f.args, .int .i64 f.locals] 3) → Calls Tryz.prog 26 #[.string ⟨#[102, 117, 110, 99]⟩, .slice (some ⟨b, 0, none⟩) 2 2] u fun e w' => e = .returned (strV (lineT [102, 117, 110, 99] [f.args, f.locals])) ∧ Kept u w') := hide fun u b hu hb => tLine_any u [102, 117, 110, 99] _ [f.args, f.locals] ⟨_, _, rfl, by simp, fun i z hz => ⟨b, 0, rfl, by
          rw [cell_lays hb, Nat.zero_add]
          match i, hz with
          | 0, hz => simpa using hz
          | 1, hz => simpa using hz⟩⟩ (by simp) (by simp) (by simp; unfold I64; omega) ((unhide HT).kept hu)
      have HKK := hide kk
      generalize hNC : f.code.length = nc at *
      clear hf hop hic kk hnc
      go_wp2_with fail
      obtain ⟨F, hF⟩ : ∃ r, r = wr.heap.size := ⟨_, rfl⟩
      obtain ⟨y1, hy1⟩ : ∃ u, u = (wr.alloc (.cells #[.int .i64 f.args, .int .i64 f.locals, .slice oc nc cc] 69)).alloc (.cells #[.int .i64 f.args, .int .i64 f.locals] 3) := ⟨_, rfl⟩
      have HY : Hid (BuI B B (Lib.byteCells ((p.take k).flatMap fnT)) y1 ∧ Kept w1 y1 ∧ y1.heap[F]? = some (.cells #[.int .i64 f.args, .int .i64 f.locals, .slice oc nc cc] 69) ∧ y1.heap[F + 1]? = some (.cells #[.int .i64 f.args, .int .i64 f.locals] 3)) := hide (by
        have kz : Kept wr y1 := by rw [hy1]; exact ((Kept.refl wr).alloc _).alloc _
        exact ⟨(unhide HW).1.kept kz, (unhide HW).2.trans kz, by rw [hy1, hF]; exact lays_alloc (lays_new rfl) _, by rw [hy1, hF]; exact lays_new (by simp)⟩)
      rw [← hF, ← hy1]
      clear hF hy1 HW HKK c0 c1 c2
      refine ((unhide HLN) y1 (F + 1) ((unhide HK1).trans (unhide HY).2.1) (unhide HY).2.2.2).mono ?_
      rintro _ y2 ⟨rfl, k2⟩
      have HLL : Hid (((p.take k).flatMap fnT).length ≤ 12500 ∧ (lineT [102, 117, 110, 99] [f.args, f.locals]).length ≤ 100) := hide ⟨takeT_len (unhide HO) k, line_len _ _ (by simp) (by simp) (by simp; unfold I64; omega)⟩
      have HWS := hide (writeT y2 B B _ (lineT [102, 117, 110, 99] [f.args, f.locals]) ((unhide HY).1.kept k2) (by have := unhide HB; have := ((unhide HY).2.1.trans k2).size; omega) (by have := unhide HLL; omega))
      have HY2 : Hid (Kept w1 y2 ∧ y2.heap[F]? = some (.cells #[.int .i64 f.args, .int .i64 f.locals, .slice oc nc cc] 69)) := hide ⟨(unhide HY).2.1.trans k2, lays_kept k2 (unhide HY).2.2.1⟩
      clear k2 HY HLN
      unfold strV
      generalize (lineT [102, 117, 110, 99] [f.args, f.locals]).length = nl at *
      generalize hTT : (ByteArray.mk (lineT [102, 117, 110, 99] [f.args, f.locals]).toArray) = TT at *
      go_wp2_with fail
      refine (unhide HWS).mono ?_
      rintro _ y3 ⟨rfl, b3, k3, j3⟩
      have HY3 : Hid (BuI B B (Lib.byteCells ((p.take k).flatMap fnT ++ lineT [102, 117, 110, 99] [f.args, f.locals])) y3 ∧ Kept w1 y3) := hide ⟨b3, Below.trans (unhide HY2).1 (by rw [← unhide HB]; exact k3)⟩
      have LF := j3 F _ _ (by decide) (by decide) (unhide HY2).2
      have a2 := cell_lays LF 2
      clear b3 k3 j3 HWS HY2 LF hTT
      go_wp2_with fail
      clear a2
      generalize hPRE : (p.take k).flatMap fnT ++ lineT [102, 117, 110, 99] [f.args, f.locals] = pre at *
      have HPL : Hid (pre.length ≤ 13000) := hide (by have := (unhide HLL).1; have h2 := line_len [102, 117, 110, 99] [f.args, f.locals] (by simp) (by simp) (by simp; unfold I64; omega); rw [← hPRE, List.length_append]; omega)
      go_loopw [31] (fun s31 wi => ∃ i : Nat, i ≤ nc ∧ s31 = .int .i64 i ∧ Hid (BuI B B (Lib.byteCells (pre ++ (f.code.take i).flatMap opT)) wi ∧ Kept w1 wi)) (fun s31 _ => nc - (intOf s31).toNat)
      case atStart => exact ⟨0, Nat.zero_le _, rfl, hide ⟨by simpa using (unhide HY3).1, (unhide HY3).2⟩⟩
      case round =>
        obtain ⟨i, hin, rfl, HI2⟩ := hrel
        clear HY3
        by_cases hi : i < nc
        · obtain ⟨⟨x1, x2⟩, hx⟩ : ∃ x, f.code[i]? = some x := ⟨_, List.getElem?_eq_getElem (by rw [hNC]; exact hi)⟩
          obtain ⟨b', o', rfl, d0, d1⟩ := (unhide HIC) i _ hx
          have kk := (unhide HK1).trans (unhide HI2).2
          replace d0 := kk.cell d0
          replace d1 := kk.cell d1
          have hi0 : (0 : Int) ≤ (i : Int) := by omega
          have hi1 : (i : Int) < (nc : Int) := by omega
          obtain ⟨hx1, hx2, _⟩ := (unhide HOP) _ (List.mem_of_getElem? hx)
          simp only at hx1 hx2 d0 d1
          obtain ⟨kd, rfl⟩ := Int.eq_ofNat_of_zero_le hx1.1
          have HX := hide hx
          have HOL : Hid (∀ u, Kept w u → Calls Tryz.prog 27 #[.agg #[.int .i64 kd, .int .i64 x2]] u fun e w' => e = .returned (strV (opT (kd, x2))) ∧ Kept u w') := hide fun u hu => opLine_any u kd x2 (by omega) (by unfold I64; omega) ((unhide HT).kept hu) ((unhide HTK).kept hu)
          have HKK := hide kk
          have HPO : Hid ((opT ((kd : Int), x2)).length ≤ 100) := hide (opT_len hx2)
          clear hx kk hx1 hx2
          go_wp2_with fail
          refine ((unhide HOL) _ ((unhide HKK).alloc _)).mono ?_
          rintro _ y2 ⟨rfl, k2⟩
          have HPF : Hid (((f.code.take i).flatMap opT).length ≤ 2400) := hide (by
            have := flatT_len opT 100 (f.code.take i) (fun x hx => opT_len ((unhide HOP) x (List.mem_of_mem_take hx)).2.1)
            have h2 : (f.code.take i).length ≤ 24 := by simp; omega
            have : (f.code.take i).length * 100 ≤ 24 * 100 := Nat.mul_le_mul_right _ h2
            omega)
          have kz := ((Kept.refl wr).alloc (.cells #[.int .i64 (kd : Int), .int .i64 x2] 72)).trans k2
          have HWS := hide (writeT y2 B B _ (opT ((kd : Int), x2)) ((unhide HI2).1.kept kz) (by have := unhide HB; have := ((unhide HI2).2.trans kz).size; omega) (by have := unhide HPL; have := unhide HPF; have := unhide HPO; simp only [List.length_append]; omega))
          have HY2 : Hid (Kept w1 y2) := hide ((unhide HI2).2.trans kz)
          clear k2 kz HOL HI2 HKK d0 d1
          unfold strV
          generalize (opT ((kd : Int), x2)).length = nl at *
          generalize hTT : (ByteArray.mk (opT ((kd : Int), x2)).toArray) = TT at *
          go_wp2_with fail
          refine (unhide HWS).mono ?_
          rintro _ y3 ⟨rfl, b3, k3, _⟩
          have HN3 : Hid (BuI B B (Lib.byteCells (pre ++ (f.code.take (i + 1)).flatMap opT)) y3 ∧ Kept w1 y3) := hide ⟨by rw [flatT_snoc opT f.code (unhide HX), ← List.append_assoc]; exact b3, Below.trans (unhide HY2) (by rw [← unhide HB]; exact k3)⟩
          clear b3 k3 HWS HY2 hTT
          go_wp2_with fail
          go_roundw
          case rel => exact ⟨i + 1, by omega, by go_num, HN3⟩
          case measure => simp [intOf]; omega
        · obtain rfl : i = nc := by omega
          have HN3 : Hid (BuI B B (Lib.byteCells ((p.take (k + 1)).flatMap fnT)) wr ∧ Kept w1 wr) := hide ⟨by
            have h1 := (unhide HI2).1
            rw [List.take_of_length_le (by omega), ← hPRE] at h1
            rw [flatT_snoc fnT p (unhide HF)]
            simpa [fnT, List.append_assoc] using h1, (unhide HI2).2⟩
          clear HI2
          go_wp2_with fail
          go_roundw
          case rel => exact ⟨k + 1, by omega, by go_num, HN3⟩
          case measure => simp [intOf]; omega
    · obtain rfl : k = n := by omega
      have HS : Hid (Calls Tryz.prog 20 #[.pointer (some ⟨B, 0, none⟩)] wr fun e w' => e = .returned (.string ⟨(showT p).toArray⟩) ∧ Below B wr w') := hide (by
        have h1 := (unhide HW).1
        rw [List.take_of_length_le (by rw [unhide HN]; omega)] at h1
        exact Tryz.Builder_String_any B B (showT p) wr h1 (by have := unhide HB; have := (unhide HW).2.size; omega))
      have HK := hide ((unhide HK1).trans (unhide HW).2)
      have HKW := hide (unhide HW).2
      clear HW
      go_wp2_with fail
      refine (unhide HS).mono ?_
      rintro _ w3 ⟨rfl, k3⟩
      have HK3 : Hid (Kept w w3) := hide ((unhide HK1).trans (Below.trans (unhide HKW) (by rw [← unhide HB]; exact k3)))
      clear k3 HS
      generalize hTT : (ByteArray.mk (showT p).toArray) = TT at *
      go_wp2_with fail
      go_ret2
      exact ⟨by rw [strV, hTT]; rfl, unhide HK3⟩
def numT (l : List UInt8) : Option Int := match Lib.atoiAll l with
  | .ok v => if 0 ≤ v ∧ l.length ≤ 6 ∧ Lib.itoa v = l then some v else none
  | _ => none
def ErrsAt (w : World) : Prop := (∃ t p, w.var? Tryz.prog "strconv.ErrSyntax" = some #[.iface t p]) ∧ ∃ t p, w.var? Tryz.prog "strconv.ErrRange" = some #[.iface t p]
theorem var_kept {w w' : World} {n : String} {g : Nat} (hg : Tryz.prog.globalNamed n = some g) (k : Kept w w') {cs : Array Value} (h : w.var? Tryz.prog n = some cs) : w'.var? Tryz.prog n = some cs := by
  unfold World.var? at h ⊢
  rw [hg] at h ⊢
  simp only [Option.bind_some] at h ⊢
  have hlt : g < w.heap.size := by
    cases hq : w.heap[g]? with
    | none => rw [hq] at h; cases h
    | some o => exact (Array.getElem?_eq_some_iff.1 hq).1
  rw [k.block _ hlt]
  exact h
theorem ErrsAt.kept {w w' : World} (h : ErrsAt w) (k : Kept w w') : ErrsAt w' := by
  obtain ⟨⟨t1, p1, h1⟩, ⟨t2, p2, h2⟩⟩ := h
  exact ⟨⟨t1, p1, var_kept (g := 5) (by kernel_rfl) k h1⟩, ⟨t2, p2, var_kept (g := 6) (by kernel_rfl) k h2⟩⟩
theorem atoi_int {l : List UInt8} {v : Int} (h : Lib.atoiAll l = .ok v) : I64 v := by
  cases l with
  | nil => cases h
  | cons c r =>
    unfold Lib.atoiAll at h
    simp only at h
    rcases hp : Lib.parseMag (if c.toNat = 43 ∨ c.toNat = 45 then r else c :: r) with u | _ | _
    rotate_left
    · rw [hp] at h; cases h
    · rw [hp] at h; cases h
    ·
      rw [hp] at h
      simp only at h
      unfold I64
      by_cases h1 : ¬ c.toNat = 45 ∧ 9223372036854775808 ≤ u
      · rw [if_pos h1] at h; cases h
      · rw [if_neg h1] at h
        by_cases h2 : c.toNat = 45 ∧ 9223372036854775808 < u
        · rw [if_pos h2] at h; cases h
        · rw [if_neg h2] at h
          simp only [Lib.NumEnd.ok.injEq] at h
          subst h
          split <;> omega
theorem number_ok (w : World) (l : List UInt8) (v : Int) (h : numT l = some v) (ht : TabW w) :
    Calls Tryz.prog 71 #[.string ⟨l.toArray⟩] w fun e w' => e = .returned (.tuple #[.int .i64 v, .bool true]) ∧ Kept w w' := by
  obtain ⟨ha, h0, h6, hi⟩ : Lib.atoiAll l = .ok v ∧ 0 ≤ v ∧ l.length ≤ 6 ∧ Lib.itoa v = l := by
    unfold numT at h
    split at h
    · split at h
      · rename_i q; cases h; rename_i hh; exact ⟨hh, q⟩
      · cases h
    · cases h
  have hsz : (ByteArray.mk l.toArray).size = l.length := by simp [ByteArray.size]
  have HC : Hid (Calls Tryz.prog 106 #[.string ⟨l.toArray⟩] w fun e w' => e = .returned (.tuple #[.int .i64 v, .nilIface]) ∧ Kept w w') := hide ((Tryz.strconv_Atoi_ok ⟨l.toArray⟩ (by rw [hsz]; omega) v ha w).mono fun _ _ ⟨q1, q2⟩ => ⟨q1, by
    rcases q2 with q2 | ⟨t, q2⟩
    · rw [q2]; exact Kept.refl w
    · rw [q2]; exact Lib.bytesWorld_below _ _ _⟩)
  have HT : Hid (∀ u, Kept w u → Calls Tryz.prog 87 #[.int .i64 v] u fun e w' => e = .returned (.string ⟨l.toArray⟩) ∧ Kept u w') := hide fun u hu => by
    have := itoa_any u v (atoi_int ha) (ht.kept hu)
    rwa [hi] at this
  have hv : ¬ v < 0 := by omega
  have hl : ¬ (6 : Int) < (l.length : Int) := by omega
  generalize l.length = n at *
  generalize (ByteArray.mk l.toArray) = S at *
  clear h ha h6 hi ht
  go_enter Tryz.func71, Tryz.ntmps71
  go_wp2_with fail
  refine (unhide HC).mono ?_
  rintro _ w1 ⟨rfl, k1⟩
  have HK := hide k1
  clear k1 HC
  go_wp2_with fail
  refine ((unhide HT) _ (unhide HK)).mono ?_
  rintro _ w2 ⟨rfl, k2⟩
  replace HK := hide ((unhide HK).trans k2)
  clear k2 HT
  go_wp2_with fail
  go_ret2
  exact ⟨rfl, unhide HK⟩
theorem number_no (w : World) (l : List UInt8) (h : numT l = none) (hl0 : l.length ≤ 100000) (ht : TabW w) (he : ErrsAt w) :
    Calls Tryz.prog 71 #[.string ⟨l.toArray⟩] w fun e w' => e = .returned (.tuple #[.int .i64 0, .bool false]) ∧ Kept w w' := by
  have hsz : (ByteArray.mk l.toArray).size = l.length := by simp [ByteArray.size]
  by_cases hv : ∃ v, Lib.atoiAll l = .ok v
  · obtain ⟨v, ha⟩ := hv
    have hq : ¬ (0 ≤ v ∧ l.length ≤ 6 ∧ Lib.itoa v = l) := by
      unfold numT at h
      rw [ha] at h
      simp only at h
      intro q
      rw [if_pos q] at h
      cases h
    have HC : Hid (Calls Tryz.prog 106 #[.string ⟨l.toArray⟩] w fun e w' => e = .returned (.tuple #[.int .i64 v, .nilIface]) ∧ Kept w w') := hide ((Tryz.strconv_Atoi_ok ⟨l.toArray⟩ (by rw [hsz]; omega) v ha w).mono fun _ _ ⟨q1, q2⟩ => ⟨q1, by
      rcases q2 with q2 | ⟨t, q2⟩
      · rw [q2]; exact Kept.refl w
      · rw [q2]; exact Lib.bytesWorld_below _ _ _⟩)
    have HT : Hid (∀ u, Kept w u → Calls Tryz.prog 87 #[.int .i64 v] u fun e w' => e = .returned (.string ⟨(Lib.itoa v).toArray⟩) ∧ Kept u w') := hide fun u hu => itoa_any u v (atoi_int ha) (ht.kept hu)
    by_cases hv0 : v < 0
    · generalize (ByteArray.mk l.toArray) = S at *
      clear h ha hq ht he hsz
      go_enter Tryz.func71, Tryz.ntmps71
      go_wp2_with fail
      refine (unhide HC).mono ?_
      rintro _ w1 ⟨rfl, k1⟩
      have HK := hide k1
      clear k1 HC HT
      go_wp2_with fail
      go_ret2
      exact ⟨rfl, unhide HK⟩
    · by_cases hl : l.length ≤ 6
      · have hne : ((ByteArray.mk (Lib.itoa v).toArray).toList == (ByteArray.mk l.toArray).toList) = false := by
          rw [ByteArray.toList_mk, ByteArray.toList_mk]
          simp only [beq_eq_false_iff_ne, ne_eq]
          intro e
          exact hq ⟨by omega, hl, by simpa using e⟩
        have hl6 : ¬ (6 : Int) < (l.length : Int) := by omega
        generalize l.length = n at *
        generalize (ByteArray.mk l.toArray) = S at *
        generalize (ByteArray.mk (Lib.itoa v).toArray) = T at *
        clear h ha hq ht he
        go_enter Tryz.func71, Tryz.ntmps71
        go_wp2_with fail
        refine (unhide HC).mono ?_
        rintro _ w1 ⟨rfl, k1⟩
        have HK := hide k1
        clear k1 HC
        go_wp2_with fail
        refine ((unhide HT) _ (unhide HK)).mono ?_
        rintro _ w2 ⟨rfl, k2⟩
        replace HK := hide ((unhide HK).trans k2)
        clear k2 HT
        go_wp2_with fail
        go_ret2
        exact ⟨rfl, unhide HK⟩
      · have hl6 : (6 : Int) < (l.length : Int) := by omega
        generalize l.length = n at *
        generalize (ByteArray.mk l.toArray) = S at *
        clear h ha hq ht he
        go_enter Tryz.func71, Tryz.ntmps71
        go_wp2_with fail
        refine (unhide HC).mono ?_
        rintro _ w1 ⟨rfl, k1⟩
        have HK := hide k1
        clear k1 HC HT
        go_wp2_with fail
        go_ret2
        exact ⟨rfl, unhide HK⟩
  · have HC : Hid (Calls Tryz.prog 106 #[.string ⟨l.toArray⟩] w fun e w' => ∃ z t N, e = .returned (.tuple #[.int .i64 z, .iface t (.pointer (some ⟨N, 0, none⟩))]) ∧ Kept w w') := hide (by
      obtain ⟨⟨t1, p1, h1⟩, ⟨t2, p2, h2⟩⟩ := he
      have hno : ∀ v, Lib.atoiAll l ≠ .ok v := fun v e => hv ⟨v, e⟩
      by_cases hr : Lib.atoiAll l = .range
      · exact (Tryz.strconv_Atoi_far ⟨l.toArray⟩ (by rw [hsz]; omega) hr t2 p2 w h2).mono fun _ _ ⟨N, q1, _, _, q4⟩ => ⟨_, _, N, q1, q4⟩
      · exact (Tryz.strconv_Atoi_bad ⟨l.toArray⟩ (by rw [hsz]; omega) hno hr t1 p1 w h1).mono fun _ _ ⟨N, q1, _, _, q4⟩ => ⟨_, _, N, q1, q4⟩)
    generalize (ByteArray.mk l.toArray) = S at *
    clear h ht he hv hsz
    go_enter Tryz.func71, Tryz.ntmps71
    go_wp2_with fail
    refine (unhide HC).mono ?_
    rintro _ w1 ⟨z, t, N, rfl, k1⟩
    have HK := hide k1
    clear k1 HC
    go_wp2_with fail
    go_ret2
    exact ⟨rfl, unhide HK⟩
def leftT : Ending := .panicked [{ v := .iface 22 (.int .i64 1), recovered := false }]
theorem ask_yes (w : World) : Calls Tryz.prog 63 #[.bool true] w fun e w' => e = .returned (.tuple #[]) ∧ w' = w := by
  go_enter Tryz.func63, Tryz.ntmps63
  go_wp2
  go_end0
  exact ⟨rfl, rfl⟩
theorem ask_no (w : World) : Calls Tryz.prog 63 #[.bool false] w fun e w' => e = leftT ∧ w' = w := by
  go_enter Tryz.func63, Tryz.ntmps63
  go_wp2
  exact ⟨rfl, rfl, rfl⟩
def StrsW (w : World) (v : Value) (l : List (List UInt8)) : Prop :=
  ∃ oa cap, v = .slice oa l.length cap ∧ (l.length ≤ 1000000 ∧ l.length ≤ cap) ∧ ∀ (i : Nat) x, l[i]? = some x → ∃ b o, oa = some ⟨b, o, none⟩ ∧ w.cell? ⟨b, o + i, none⟩ = some (strV x)
theorem StrsW.kept {w w' : World} {v : Value} {l : List (List UInt8)} (h : StrsW w v l) (k : Kept w w') : StrsW w' v l := by
  obtain ⟨oa, cap, e, hn, hi⟩ := h
  refine ⟨oa, cap, e, hn, fun i x hx => ?_⟩
  obtain ⟨b, o, q1, q2⟩ := hi i x hx
  exact ⟨b, o, q1, k.cell q2⟩
def numsT : List (List UInt8) → Option (List Int)
  | [] => some []
  | x :: r => match numT x with
    | none => none
    | some z => match numsT r with
      | none => none
      | some l => some (z :: l)
theorem numsT_at : ∀ {l : List (List UInt8)} {r : List Int}, numsT l = some r → l.length = r.length ∧ ∀ (i : Nat) x, l[i]? = some x → ∃ z, r[i]? = some z ∧ numT x = some z
  | [], r, h => by cases h; exact ⟨rfl, fun i x hx => by simp at hx⟩
  | y :: l, r, h => by
    unfold numsT at h
    split at h
    · cases h
    · rename_i z hz
      split at h
      · cases h
      · rename_i r' hr
        cases h
        obtain ⟨q1, q2⟩ := numsT_at hr
        refine ⟨by simp [q1], fun i x hx => ?_⟩
        cases i with
        | zero => obtain rfl : y = x := by simpa using hx
                  exact ⟨z, rfl, hz⟩
        | succ i => obtain ⟨z', a1, a2⟩ := q2 i x (by simpa using hx); exact ⟨z', by simpa using a1, a2⟩
theorem numsT_no : ∀ {l : List (List UInt8)}, numsT l = none → ∃ (i : Nat) (x : List UInt8), l[i]? = some x ∧ numT x = none ∧ ∀ (j : Nat) y, j < i → l[j]? = some y → ∃ z, numT y = some z
  | [], h => by cases h
  | y :: l, h => by
    unfold numsT at h
    split at h
    · rename_i hz; exact ⟨0, y, rfl, hz, fun j _ hj => by omega⟩
    · rename_i z hz
      split at h
      · rename_i hr
        obtain ⟨i, x, q1, q2, q3⟩ := numsT_no hr
        refine ⟨i + 1, x, by simpa using q1, q2, fun j y' hj hy => ?_⟩
        cases j with
        | zero => obtain rfl : y = y' := by simpa using hy
                  exact ⟨z, hz⟩
        | succ j => exact q3 j y' (by omega) (by simpa using hy)
      · cases h
def NumsPost (l : List (List UInt8)) (w : World) (e : Ending) (w' : World) : Prop := match numsT l with
  | some r => ∃ g, e = .returned (.slice (some ⟨g, 0, none⟩) r.length r.length) ∧ (∃ cur, w'.heap[g]? = some (.cells cur 3) ∧ ∀ (i : Nat) z, r[i]? = some z → cur[i]? = some (.int .i64 z)) ∧ Kept w w'
  | none => e = leftT ∧ Kept w w'
theorem intInfoT : (Tryz.prog.info? 3).map (fun i => (i.zero, i.size, i.bytes)) = some (some (.int .i64 0), 1, 8) := by kernel_rfl
theorem make_intsT (m : Nat) (hm : m ≤ 1000000) (u : World) : (Instr.makeSlice 30 (.int .i64 m) (.int .i64 m)).run Tryz.prog u =
    .ok (.slice (some ⟨u.heap.size, 0, none⟩) m m) (u.alloc (.cells (Array.replicate m (Value.int .i64 0)) 3)) := by
  obtain ⟨i0, hi, hz0, hz1, hz2⟩ := info_parts intInfoT
  have h := run_make (P := Tryz.prog) u 30 3 i0 (.int .i64 0) Tryz.underlying30 hi hz0 .i64 .i64 (m : Int) (m : Int) (by omega) (Int.le_refl _) (by rw [hz2]; omega) (by omega)
  rw [Int.toNat_natCast] at h
  rw [show Array.replicate m (Value.int .i64 0) = madeCells #[Value.int .i64 0] (m * 1) by
    apply Array.ext
    · simp [madeCells]
    · intro i h1 h2
      simp [madeCells, Nat.mod_one]]
  simpa [hz1, Value.cells] using h
theorem numbersOf_any (w : World) (v : Value) (l : List (List UInt8)) (h : StrsW w v l) (hl : ∀ x ∈ l, x.length ≤ 100000) (ht : TabW w) (he : ErrsAt w) :
    Calls Tryz.prog 93 #[v] w (NumsPost l w) := by
  obtain ⟨oa, cap, rfl, hn, hi⟩ := h
  have hmk := make_intsT l.length (by omega)
  have HL := hide hl
  have HI := hide hi
  have HT := hide ht
  have HE := hide he
  have HY : Hid (∀ u, Calls Tryz.prog 63 #[.bool true] u fun e w' => e = .returned (.tuple #[]) ∧ w' = u) := hide ask_yes
  have HO : Hid (∀ u, Calls Tryz.prog 63 #[.bool false] u fun e w' => e = leftT ∧ w' = u) := hide ask_no
  obtain ⟨K, hK, hKs⟩ : ∃ K, K ≤ l.length ∧ ((∃ r, numsT l = some r ∧ K = l.length) ∨ (numsT l = none ∧ K < l.length ∧ ∃ x, l[K]? = some x ∧ numT x = none)) ∧ ∀ (j : Nat) y, j < K → l[j]? = some y → ∃ z, numT y = some z := by
    cases hr : numsT l with
    | some r => exact ⟨l.length, Nat.le_refl _, .inl ⟨r, rfl, rfl⟩, fun j y _ hy => by obtain ⟨z, _, q⟩ := (numsT_at hr).2 j y hy; exact ⟨z, q⟩⟩
    | none =>
      obtain ⟨i, x, q1, q2, q3⟩ := numsT_no hr
      have := (List.getElem?_eq_some_iff.1 q1).1
      exact ⟨i, by omega, .inr ⟨rfl, this, x, q1, q2⟩, q3⟩
  have HKS := hide hKs
  generalize hN : l.length = n at *
  have H1 : Hid (∃ cur, (w.alloc (.cells (Array.replicate n (Value.int .i64 0)) 3)).heap[w.heap.size]? = some (.cells cur 3) ∧ cur.size = n ∧ (∀ (i : Nat) x z, i < 0 → l[i]? = some x → numT x = some z → cur[i]? = some (.int .i64 z)) ∧ Kept w (w.alloc (.cells (Array.replicate n (Value.int .i64 0)) 3))) := hide ⟨_, lays_new rfl, by simp, fun i x z h0 => by omega, (Kept.refl w).alloc _⟩
  have HN := hide hN
  clear hi hN ht he hl hKs
  go_enter Tryz.func93, Tryz.ntmps93
  go_wp2_with fail
  generalize w.alloc (.cells (Array.replicate n (Value.int .i64 0)) 3) = wm at H1 ⊢
  obtain ⟨G, hG⟩ : ∃ G, G = w.heap.size := ⟨_, rfl⟩
  rw [← hG] at H1 ⊢
  have HG : Hid (w.heap.size ≤ G) := hide (by omega)
  clear hG hmk
  go_loopw [13] (fun s13 wr => ∃ k : Nat, k ≤ K ∧ s13 = .int .i64 k ∧ Hid (∃ cur, wr.heap[G]? = some (.cells cur 3) ∧ cur.size = n ∧ (∀ (i : Nat) x z, i < k → l[i]? = some x → numT x = some z → cur[i]? = some (.int .i64 z)) ∧ Kept w wr)) (fun s13 _ => n - (intOf s13).toNat)
  case atStart =>
    obtain ⟨cur, hh⟩ := unhide H1
    exact ⟨0, Nat.zero_le _, rfl, hide ⟨cur, hh⟩⟩
  case round =>
    obtain ⟨k, hkm, rfl, HW⟩ := hrel
    clear H1
    by_cases hk : k < n
    · obtain ⟨cur, a3, a4, a5, a6⟩ := unhide HW
      obtain ⟨x, hx⟩ : ∃ x, l[k]? = some x := ⟨_, List.getElem?_eq_getElem (by rw [unhide HN]; exact hk)⟩
      obtain ⟨b, o, rfl, c0⟩ := (unhide HI) k x hx
      replace c0 := a6.cell c0
      unfold strV at c0
      have hk0 : (0 : Int) ≤ (k : Int) := by omega
      have hk1 : (k : Int) < (n : Int) := by omega
      have hlx := (unhide HL) x (List.mem_of_getElem? hx)
      by_cases hkk : k < K
      · obtain ⟨z, hz⟩ := (unhide HKS).2 k x hkk hx
        have HC := hide (number_ok wr x z hz ((unhide HT).kept a6))
        have HX := hide (And.intro hx hz)
        have HA := hide (And.intro a3 (And.intro a4 (And.intro a5 a6)))
        generalize (ByteArray.mk x.toArray) = S at *
        clear hx hz a3 a4 a5 a6 HW hlx
        go_wp2_with fail
        refine (unhide HC).mono ?_
        rintro _ w2 ⟨rfl, k2⟩
        obtain ⟨a3, a4, a5, a6⟩ := unhide HA
        have g2 := lays_kept k2 a3
        obtain ⟨d1, c1⟩ : ∃ d, w2.cell? ⟨G, k, none⟩ = some d := ⟨_, (cell_lays g2 k).trans (Array.getElem?_eq_getElem (by omega))⟩
        have f1 := frozen_lays g2 k
        have HN2 : Hid (∃ cur, (w2.setCell ⟨G, k, none⟩ (.int .i64 z)).heap[G]? = some (.cells cur 3) ∧ cur.size = n ∧ (∀ (i : Nat) x z, i < k + 1 → l[i]? = some x → numT x = some z → cur[i]? = some (.int .i64 z)) ∧ Kept w (w2.setCell ⟨G, k, none⟩ (.int .i64 z))) := hide (by
          refine ⟨cur.setIfInBounds k (.int .i64 z), lays_set g2 k _, by simp [a4], fun i y z' hi hy hz' => ?_, (a6.trans k2).setCell (p := ⟨G, k, none⟩) (unhide HG) _⟩
          rw [Array.getElem?_setIfInBounds]
          by_cases hik : i = k
          · subst hik
            rw [if_pos rfl, if_pos (by omega)]
            rw [(unhide HX).1] at hy
            cases hy
            rw [(unhide HX).2] at hz'
            cases hz'
            rfl
          · rw [if_neg (fun e => hik e.symm)]
            exact a5 i y z' (by omega) hy hz')
        clear a3 a4 a5 a6 g2 k2 HA HC c0
        go_wp2_with fail
        refine ((unhide HY) _).mono ?_
        rintro _ _ ⟨rfl, rfl⟩
        go_wp2_with fail
        go_roundw
        case rel => exact ⟨k + 1, by omega, by go_num, HN2⟩
        case measure => simp [intOf]; omega
      · obtain rfl : k = K := by omega
        rcases (unhide HKS).1 with ⟨r, _, h0⟩ | ⟨hno, _, x', hx', hz⟩
        · omega
        · rw [hx] at hx'
          cases hx'
          have HC := hide (number_no wr x hz hlx ((unhide HT).kept a6) ((unhide HE).kept a6))
          have HA := hide a6
          have HNO := hide hno
          generalize (ByteArray.mk x.toArray) = S at *
          clear hx hz a3 a4 a5 a6 HW hlx hno
          go_wp2_with fail
          refine (unhide HC).mono ?_
          rintro _ w2 ⟨rfl, k2⟩
          have HK := hide ((unhide HA).trans k2)
          clear k2 HA HC c0
          go_wp2_with fail
          refine ((unhide HO) _).mono ?_
          rintro _ _ ⟨rfl, rfl⟩
          dsimp only [leftT]
          go_wp2_with fail
          refine ⟨rfl, ?_⟩
          unfold NumsPost
          rw [unhide HNO]
          exact ⟨rfl, unhide HK⟩
    · obtain ⟨r, hr, h0⟩ : ∃ r, numsT l = some r ∧ K = n := by
        rcases (unhide HKS).1 with ⟨r, hr, h0⟩ | ⟨_, h1, _⟩
        · exact ⟨r, hr, h0⟩
        · omega
      obtain rfl : k = n := by omega
      go_wp2
      go_ret
      obtain ⟨cur, a3, a4, a5, a6⟩ := unhide HW
      unfold NumsPost
      rw [hr]
      obtain ⟨q1, q2⟩ := numsT_at hr
      refine ⟨G, by rw [← q1, unhide HN]; rfl, ⟨cur, a3, fun i z hz => ?_⟩, a6⟩
      obtain ⟨x, hx⟩ : ∃ x, l[i]? = some x := ⟨_, List.getElem?_eq_getElem (by rw [q1]; exact (List.getElem?_eq_some_iff.1 hz).1)⟩
      obtain ⟨z', b1, b2⟩ := q2 i x hx
      rw [hz] at b1
      cases b1
      exact a5 i x z (by have := (List.getElem?_eq_some_iff.1 hx).1; have := unhide HN; omega) hx b2
def kindT (l : List UInt8) : Option Nat := tkS.findIdx? (fun q => q.1 == l)
def KindPost (l : List UInt8) (w : World) (e : Ending) (w' : World) : Prop := match kindT l with
  | some k => e = .returned (.int .i64 (k : Nat)) ∧ Kept w w'
  | none => e = leftT ∧ Kept w w'
theorem tk_get (k : Nat) (h : k < tkS.length) : tkS[k] = tkS.getD k ([], 0) := by rw [List.getD_eq_getElem?_getD, List.getElem?_eq_getElem h]; rfl
def tkC : List Value := tkS.flatMap fun q => [strV q.1, .int .i64 (q.2 : Nat)]
theorem wpList_run {ops : Array Oper} {rest : List Oper} {o : Oper} {a : Act} {Q : Exit → Act → World → Prop} (w : World) (hgd : o.guard = none) {v : Value} {w' : World} (hr : (execOp a.eval o).run Tryz.prog w = .ok (.value v) w') (h : wpList Tryz.prog ops Q rest (a.put o.dst v) w') : wpList Tryz.prog ops Q (o :: rest) a w :=
  wpList_plain hgd fun K hK => by
    unfold Oper.wp
    simp only [hr]
    exact hK _ _ h
theorem load_kinds (w : World) (C : Array Value) (hlc : (loadCellsFrom ⟨0, 0, none⟩ 0 34 #[]).run Tryz.prog w = .ok C w) (a : Act) (o : Oper) (ho : o.op = .load 108 (.global 0)) : (execOp a.eval o).run Tryz.prog w = .ok (.value (.agg C)) w := by
  unfold execOp
  simp only [ho, Act.eval, Instr.loadAt, Instr.sureAddr, loadVar, Sem.run_bind, Sem.run_pure, Tryz.isAgg108, Tryz.sizeOf108, Result.andThen_ok, if_true, loadCells, hlc]
theorem index_kinds (w : World) (C : Array Value) (k : Nat) (hk : k < 17) {a b : Value} (h0 : C[k * 2]? = some a) (h1 : C[k * 2 + 1]? = some b) : (Instr.index 108 (.agg C) (.int .i64 (k : Int))).run Tryz.prog w = .ok (.agg #[a, b]) w := by
  have hu : Tryz.prog.underlying 108 = some (.array 17 107) := Tryz.underlying108
  have l1 : k * 2 + 1 < C.size := (Array.getElem?_eq_some_iff.1 h1).1
  have e : C.extract (k * 2) (k * 2 + 2) = #[a, b] := by
    apply Array.ext
    · simp; omega
    · intro i i1 i2
      simp only [List.size_toArray, List.length_cons, List.length_nil] at i2
      rw [Array.getElem?_eq_some_iff] at h0 h1
      obtain ⟨q0, q1⟩ := h0
      obtain ⟨r0, r1⟩ := h1
      rw [Array.getElem_extract]
      match i, i2 with
      | 0, _ => simpa using q1
      | 1, _ => simpa using r1
  simp [Instr.index, asIntOf, run_underlying hu, part, Tryz.isAgg107, Tryz.sizeOf107, e]
  intro h
  omega
theorem tKindOf_any (w : World) (l : List UInt8) (hk : TKAt w) : Calls Tryz.prog 134 #[.string ⟨l.toArray⟩] w (KindPost l w) := by
  obtain ⟨C, hC, hlc⟩ : ∃ C : Array Value, (∀ k, k < 17 → C[k * 2]? = some (strV (tkS.getD k ([], 0)).1) ∧ C[k * 2 + 1]? = some (.int .i64 ((tkS.getD k ([], 0)).2 : Nat))) ∧ (loadCellsFrom ⟨0, 0, none⟩ 0 34 #[]).run Tryz.prog w = .ok C w := by
    have hCC : ∀ k, k < 17 → tkC[k * 2]? = some (strV (tkS.getD k ([], 0)).1) ∧ tkC[k * 2 + 1]? = some (.int .i64 ((tkS.getD k ([], 0)).2 : Nat)) := fun k hk => by
      obtain rfl | rfl | rfl | rfl | rfl | rfl | rfl | rfl | rfl | rfl | rfl | rfl | rfl | rfl | rfl | rfl | rfl : k = 0 ∨ k = 1 ∨ k = 2 ∨ k = 3 ∨ k = 4 ∨ k = 5 ∨ k = 6 ∨ k = 7 ∨ k = 8 ∨ k = 9 ∨ k = 10 ∨ k = 11 ∨ k = 12 ∨ k = 13 ∨ k = 14 ∨ k = 15 ∨ k = 16 := by omega
      all_goals exact ⟨rfl, rfl⟩
    refine ⟨tkC.toArray, fun k hk => by simpa using hCC k hk, ?_⟩
    have := run_loadCells_list (P := Tryz.prog) w ⟨0, 0, none⟩ tkC (fun j v hj => by
        have hadd : (⟨0, 0, none⟩ : Addr).add j = ⟨0, j, none⟩ := by unfold Addr.add; split <;> simp_all
        rw [hadd, ← hj]
        have hj34 : j < 34 := (List.getElem?_eq_some_iff.1 hj).1
        obtain ⟨k, rfl | rfl⟩ : ∃ k, j = k * 2 ∨ j = k * 2 + 1 := ⟨j / 2, by omega⟩
        · rw [(hk k (by omega)).1, (hCC k (by omega)).1]
        · rw [(hk k (by omega)).2, (hCC k (by omega)).2])
    exact this
  generalize hS : (ByteArray.mk l.toArray) = S at *
  go_enter Tryz.func134, Tryz.ntmps134
  go_upto_region 1 with fail
  refine wp_region_list ?_
  refine wpList_run w rfl (load_kinds w C hlc _ _ rfl) ?_
  clear hlc
  go_wp2_with fail
  have HK0 := hide hk
  have HS := hide hS
  have HC := hide hC
  clear hk hS hC
  go_loopw [6] (fun s6 wr => ∃ k : Nat, k ≤ 17 ∧ s6 = .int .i64 k ∧ Hid (Kept w wr ∧ ∀ j, j < k → (tkS.getD j ([], 0)).1 ≠ l)) (fun s6 _ => 17 - (intOf s6).toNat)
  case atStart => exact ⟨0, Nat.zero_le _, rfl, hide ⟨Kept.refl w, fun j hj => by omega⟩⟩
  case round =>
    obtain ⟨k, hk17, rfl, HW⟩ := hrel
    by_cases hk : k < 17
    · have hk0 : (0 : Int) ≤ (k : Int) := by omega
      have hk1 : (k : Int) < 17 := by omega
      obtain ⟨c0, c1⟩ := (unhide HC) k hk
      unfold strV at c0
      have hix := index_kinds wr C k hk c0 c1
      have HKW := hide ((unhide HW).1.alloc (.cells #[.string ⟨(tkS.getD k ([], 0)).1.toArray⟩, .int .i64 ((tkS.getD k ([], 0)).2 : Nat)] 107))
      by_cases hw : (tkS.getD k ([], 0)).1 = l
      · have hq : ((ByteArray.mk (tkS.getD k ([], 0)).1.toArray).toList == S.toList) = true := by rw [← unhide HS, hw]; simp
        have HKT : Hid (kindT l = some k) := hide (by
          unfold kindT
          rw [List.findIdx?_eq_some_iff_getElem]
          refine ⟨show k < tkS.length from hk, ?_, fun j hj => ?_⟩
          · rw [tk_get]; simpa using hw
          · have h1 := (unhide HW).2 j hj
            rw [tk_get]; simpa using h1)
        generalize (ByteArray.mk (tkS.getD k ([], 0)).1.toArray) = NM at *
        generalize (tkS.getD k ([], 0)).2 = nn at *
        clear c0 c1 hw HW HC
        go_wp2_with fail
        go_ret
        unfold KindPost
        rw [unhide HKT]
        exact ⟨rfl, unhide HKW⟩
      · have hq : ((ByteArray.mk (tkS.getD k ([], 0)).1.toArray).toList == S.toList) = false := by rw [← unhide HS, ByteArray.toList_mk, ByteArray.toList_mk]; simpa using hw
        have HN : Hid (Kept w (wr.alloc (.cells #[.string ⟨(tkS.getD k ([], 0)).1.toArray⟩, .int .i64 ((tkS.getD k ([], 0)).2 : Nat)] 107)) ∧ ∀ j, j < k + 1 → (tkS.getD j ([], 0)).1 ≠ l) := hide ⟨unhide HKW, fun j hj => by
          by_cases h1 : j < k
          · exact (unhide HW).2 j h1
          · obtain rfl : j = k := by omega
            exact hw⟩
        generalize hNM : (ByteArray.mk (tkS.getD k ([], 0)).1.toArray) = NM at *
        clear c0 c1 hw HW HKW
        go_wp2_with fail
        go_roundw
        case rel => exact ⟨k + 1, by omega, by go_num, HN⟩
        case measure => simp [intOf]; omega
    · obtain rfl : k = 17 := by omega
      have HKT : Hid (kindT l = none) := hide (by
        unfold kindT
        rw [List.findIdx?_eq_none_iff]
        intro q hq
        obtain ⟨j, hj, rfl⟩ := List.getElem_of_mem hq
        have h1 := (unhide HW).2 j hj
        rw [tk_get]; simpa using h1)
      have HK := hide (unhide HW).1
      clear HW
      go_wp2_with fail
      refine ⟨rfl, ?_⟩
      unfold KindPost
      rw [unhide HKT]
      exact ⟨rfl, unhide HK⟩
end Go.Proofs.YtokhibfenccijaaGreatDoor
