/- TextQ, SamePr, TextR, TextEnv0, RestPa -/
import Derived.Test.YtjioipkfnekigaaGreatDoorPB17
import Derived.Test.YtjioipkfnekigaaGreatDoorPB02
import Derived.Test.YtjioipkfnekigaaGreatDoorPB10
import Derived.Test.YtjioipkfnekigaaGreatDoorChecked
import Derived.Deep.RegionWith
import Derived.Deep.DeepCutAuto
import Derived.Test.YtjioipkfnekigaaGreatDoorRows
import Derived.Test.YtjioipkfnekigaaGreatDoorPB01
import Derived.MakeChecks
import Derived.Lib.LaidU8
import Derived.Lib.LaidTab
import Derived.LaidSub
import Derived.Test.YtjioipkfnekigaaGreatDoorPB15
set_option maxRecDepth 100000
set_option maxHeartbeats 8000000
namespace Go.Proofs.YtjioipkfnekigaaGreatDoor
def lineW (wd : List UInt8) (l : List Int) : List UInt8 := Lib.join (wd :: l.map Lib.itoa) [32]
def opW (x : Int × Int) : List UInt8 := if (tkS.getD x.1.toNat ([], 0)).2 = 0 then lineW (tkS.getD x.1.toNat ([], 0)).1 [] else lineW (tkS.getD x.1.toNat ([], 0)).1 [x.2]
def linesOf (p : List Fn) : List (List UInt8) := p.flatMap fun f => lineW [102, 117, 110, 99] [f.args, f.locals] :: f.code.map opW
theorem opT_W (x : Int × Int) : opT x = opW x ++ [10] := by
  unfold opT opW
  split <;> rfl
theorem show_lines (p : List Fn) : showT p = (linesOf p).flatMap (· ++ [10]) := by
  have hc : ∀ c : List (Int × Int), c.flatMap opT = (c.map opW).flatMap (· ++ [10]) := fun c => by
    induction c with
    | nil => rfl
    | cons x c ih => simp [ih, opT_W]
  induction p with
  | nil => rfl
  | cons f p ih =>
    have : showT (f :: p) = fnT f ++ showT p := by simp [showT]
    rw [this, ih]
    have h2 : linesOf (f :: p) = (lineW [102, 117, 110, 99] [f.args, f.locals] :: f.code.map opW) ++ linesOf p := by simp [linesOf]
    rw [h2]
    simp [fnT, lineT, lineW, hc]
theorem itoa_no {z : Int} (h : 0 ≤ z) : (10 : UInt8) ∉ Lib.itoa z ∧ (32 : UInt8) ∉ Lib.itoa z := by
  have hi : Lib.itoa z = Lib.decDigits z.toNat := by unfold Lib.itoa; rw [if_neg (by omega)]
  rw [hi]
  constructor
  · intro hc
    have := dec_digits _ _ hc
    simp at this
  · intro hc
    have := dec_digits _ _ hc
    simp at this
theorem join_no {c d : UInt8} (hcd : c ≠ d) : ∀ {xs : List (List UInt8)}, (∀ x ∈ xs, c ∉ x) → c ∉ Lib.join xs [d]
  | [], _ => by simp [Lib.join_nil]
  | [x], h => by rw [Lib.join_one]; exact h x (by simp)
  | x :: y :: ys, h => by
    have ih := join_no hcd (xs := y :: ys) (fun z hz => h z (by simp [hz]))
    rw [Lib.join_cons]
    have : Lib.joinTail [d] (y :: ys) = d :: Lib.join (y :: ys) [d] := by rw [Lib.join_cons]; simp [Lib.joinTail]
    rw [this]
    intro hc
    rcases List.mem_append.1 hc with hc | hc
    · exact h x (by simp) hc
    · rcases List.mem_cons.1 hc with hc | hc
      · exact hcd hc
      · exact ih hc
theorem words_no {wd : List UInt8} {l : List Int} (hw : (10 : UInt8) ∉ wd ∧ (32 : UInt8) ∉ wd) (hl : ∀ z ∈ l, 0 ≤ z) : (∀ x ∈ wd :: l.map Lib.itoa, (10 : UInt8) ∉ x) ∧ ∀ x ∈ wd :: l.map Lib.itoa, (32 : UInt8) ∉ x := by
  constructor
  · intro x hx
    rcases List.mem_cons.1 hx with rfl | hx
    · exact hw.1
    · obtain ⟨z, hz, rfl⟩ := List.mem_map.1 hx
      exact (itoa_no (hl z hz)).1
  · intro x hx
    rcases List.mem_cons.1 hx with rfl | hx
    · exact hw.2
    · obtain ⟨z, hz, rfl⟩ := List.mem_map.1 hx
      exact (itoa_no (hl z hz)).2
theorem lineW_split {wd : List UInt8} {l : List Int} (hw : (10 : UInt8) ∉ wd ∧ (32 : UInt8) ∉ wd) (hl : ∀ z ∈ l, 0 ≤ z) : splitT 32 (lineW wd l) = wd :: l.map Lib.itoa ∧ (10 : UInt8) ∉ lineW wd l :=
  ⟨split_join (by simp) (words_no hw hl).2, join_no (by decide) (words_no hw hl).1⟩
theorem tk_no (k : Nat) : (10 : UInt8) ∉ (tkS.getD k ([], 0)).1 ∧ (32 : UInt8) ∉ (tkS.getD k ([], 0)).1 := by
  by_cases h : k < 17
  · revert h; revert k; decide
  · rw [show tkS.getD k ([], 0) = ([], 0) by simp [List.getD, List.getElem?_eq_none (show tkS.length ≤ k by simp [tkS]; omega)]]; simp
theorem tk_func (k : Nat) (h : k < 17) : (tkS.getD k ([], 0)).1 ≠ [102, 117, 110, 99] := by revert h; revert k; decide
theorem tk_kind (k : Nat) (h : k < 17) : kindT (tkS.getD k ([], 0)).1 = some k := by revert h; revert k; decide
theorem step_fn (p : List Fn) {a b : Int} (ha : 0 ≤ a ∧ a ≤ 999) (hb : 0 ≤ b ∧ b ≤ 999) : stepT p (splitT 32 (lineW [102, 117, 110, 99] [a, b])) = some (p ++ [⟨a, b, []⟩]) := by
  rw [(lineW_split (wd := [102, 117, 110, 99]) (l := [a, b]) (by decide) (by simp; omega)).1]
  have hn : numsT ([a, b].map Lib.itoa) = some [a, b] := numsT_itoa (by simp; omega)
  simp only [stepT, hn, if_true]
  rfl
theorem step_op (q : List Fn) (f : Fn) {x : Int × Int} (h1 : 0 ≤ x.1 ∧ x.1 < 17) (h2 : 0 ≤ x.2 ∧ x.2 ≤ 999) (h3 : (tkS.getD x.1.toNat ([], 0)).2 = 0 → x.2 = 0) :
    stepT (q ++ [f]) (splitT 32 (opW x)) = some (q ++ [⟨f.args, f.locals, f.code ++ [x]⟩]) := by
  obtain ⟨k, a⟩ := x
  obtain ⟨k, rfl⟩ := Int.eq_ofNat_of_zero_le h1.1
  simp only [Int.toNat_natCast] at h3 ⊢
  have hk : k < 17 := by omega
  have key : ∀ l : List Int, (∀ z ∈ l, 0 ≤ z ∧ z ≤ 999) → l.length = (tkS.getD k ([], 0)).2 → l.getLastD 0 = a → stepT (q ++ [f]) (splitT 32 (lineW (tkS.getD k ([], 0)).1 l)) = some (q ++ [⟨f.args, f.locals, f.code ++ [((k : Int), a)]⟩]) := fun l hl hll hla => by
    rw [(lineW_split (tk_no k) (fun z hz => (hl z hz).1)).1]
    have ho : opOfT (tkS.getD k ([], 0)).1 l = some ((k : Int), a) := by
      unfold opOfT
      rw [tk_kind k hk]
      simp only [hll, if_true, hla]
    simp only [stepT, numsT_itoa hl, if_neg (tk_func k hk), if_neg (show ¬ (q ++ [f] = []) by simp), ho]
    simp [addOpT]
  unfold opW
  simp only [Int.toNat_natCast]
  by_cases h0 : (tkS.getD k ([], 0)).2 = 0
  · rw [if_pos h0]
    exact key [] (by simp) (by rw [h0]; rfl) (by rw [h3 h0]; rfl)
  · rw [if_neg h0]
    exact key [a] (by simpa using h2) (by have := tk_nums k; rw [List.length_singleton]; omega) rfl
theorem foldT_app : ∀ (xs ys : List (List UInt8)) (p q : List Fn), foldT p xs = some q → foldT p (xs ++ ys) = foldT q ys
  | [], ys, p, q, h => by cases h; rfl
  | x :: xs, ys, p, q, h => by
    rw [List.cons_append]
    cases hq : stepT p (splitT 32 x) with
    | none => simp only [foldT, hq] at h; cases h
    | some p' =>
      simp only [foldT, hq] at h ⊢
      exact foldT_app xs ys p' q h
theorem fold_ops (q : List Fn) (a b : Int) : ∀ (c c0 : List (Int × Int)), (∀ x ∈ c, (0 ≤ x.1 ∧ x.1 < 17) ∧ (0 ≤ x.2 ∧ x.2 ≤ 999) ∧ ((tkS.getD x.1.toNat ([], 0)).2 = 0 → x.2 = 0)) → foldT (q ++ [⟨a, b, c0⟩]) (c.map opW) = some (q ++ [⟨a, b, c0 ++ c⟩])
  | [], c0, _ => by simp [foldT]
  | x :: c, c0, h => by
    obtain ⟨h1, h2, h3⟩ := h x (by simp)
    have hs := step_op q ⟨a, b, c0⟩ h1 h2 h3
    simp only [List.map_cons, foldT, hs]
    rw [fold_ops q a b c (c0 ++ [x]) (fun y hy => h y (by simp [hy]))]
    simp
theorem fold_lines : ∀ (p q : List Fn), (∀ f ∈ p, (0 ≤ f.args ∧ f.args ≤ 4) ∧ (0 ≤ f.locals ∧ f.locals ≤ 4) ∧ f.code.length ≤ 24 ∧ ∀ x ∈ f.code, (0 ≤ x.1 ∧ x.1 < 17) ∧ (0 ≤ x.2 ∧ x.2 ≤ 999) ∧ ((tkS.getD x.1.toNat ([], 0)).2 = 0 → x.2 = 0)) → foldT q (linesOf p) = some (q ++ p)
  | [], q, _ => by simp [linesOf, foldT]
  | f :: p, q, h => by
    obtain ⟨h1, h2, _, h4⟩ := h f (by simp)
    have e : linesOf (f :: p) = (lineW [102, 117, 110, 99] [f.args, f.locals] :: f.code.map opW) ++ linesOf p := by simp [linesOf]
    have hs := step_fn q (a := f.args) (b := f.locals) (by omega) (by omega)
    have h5 : foldT q (lineW [102, 117, 110, 99] [f.args, f.locals] :: f.code.map opW) = some (q ++ [f]) := by
      simp only [foldT, hs]
      rw [fold_ops q f.args f.locals f.code [] h4]
      rfl
    rw [e, foldT_app _ _ _ _ h5, fold_lines p (q ++ [f]) (fun g hg => h g (by simp [hg]))]
    simp
theorem lines_no {p : List Fn} (h : OkT p) : ∀ x ∈ linesOf p, (10 : UInt8) ∉ x := by
  intro x hx
  obtain ⟨f, hf, hx⟩ := List.mem_flatMap.1 hx
  obtain ⟨h1, h2, _, h4⟩ := h.fn f hf
  rcases List.mem_cons.1 hx with rfl | hx
  · exact (lineW_split (by decide) (by simp; omega)).2
  · obtain ⟨y, hy, rfl⟩ := List.mem_map.1 hx
    obtain ⟨_, h6, _⟩ := h4 y hy
    unfold opW
    split
    · exact (lineW_split (tk_no _) (by simp)).2
    · exact (lineW_split (tk_no _) (by simp; omega)).2
theorem whole_of_show {p : List Fn} (h : OkT p) : wholeT (showT p) = some p := by
  have hf := fold_lines p [] h.fn
  simp only [List.nil_append] at hf
  unfold wholeT
  have hl : linesT (showT p) = some (linesOf p) := by
    rw [show_lines]
    by_cases h0 : linesOf p = []
    · rw [h0]; rfl
    · rw [flat_join 10 h0]
      unfold linesT
      rw [if_neg (by simp), if_pos (by simp), List.dropLast_concat, split_join h0 (lines_no h)]
  rw [hl]
  exact hf
theorem itoa_few {z : Int} (h : 0 ≤ z ∧ z ≤ 999) : (Lib.itoa z).length ≤ 3 := by
  have hi : Lib.itoa z = Lib.decDigits z.toNat := by unfold Lib.itoa; rw [if_neg (by omega)]
  rw [hi]
  exact dec_len z.toNat 3 (by omega) (by omega)
theorem line_few (wd : List UInt8) (l : List Int) (h : wd.length ≤ 6) (hl : l.length ≤ 2) (hz : ∀ z ∈ l, 0 ≤ z ∧ z ≤ 999) : (lineT wd l).length ≤ 22 := by
  have := join_len (wd :: l.map Lib.itoa) 6 (fun x hx => by
    rcases List.mem_cons.1 hx with rfl | hx
    · exact h
    · obtain ⟨z, hz', rfl⟩ := List.mem_map.1 hx
      have := itoa_few (hz z hz')
      omega)
  simp only [List.length_cons, List.length_map] at this
  have h2 : (l.length + 1) * (6 + 1) ≤ 3 * 7 := Nat.mul_le_mul (by omega) (by omega)
  simp only [lineT, List.length_append, List.length_cons, List.length_nil]
  omega
theorem show_len {p : List Fn} (h : OkT p) : (showT p).length ≤ 8192 := by
  have hf : ∀ f ∈ p, (fnT f).length ≤ 550 := fun f hf => by
    obtain ⟨h1, h2, h3, h4⟩ := h.fn f hf
    have q1 := line_few [102, 117, 110, 99] [f.args, f.locals] (by simp) (by simp) (by simp; omega)
    have q2 := flatT_len opT 22 f.code (fun x hx => by
      have := tk_len x.1.toNat
      unfold opT
      split
      · exact line_few _ _ (by omega) (by simp) (by simp)
      · exact line_few _ _ (by omega) (by simp) (by simp; exact (h4 x hx).2.1))
    have : f.code.length * 22 ≤ 24 * 22 := Nat.mul_le_mul_right _ h3
    simp only [fnT, List.length_append]
    omega
  have := flatT_len fnT 550 p hf
  have h6 : p.length * 550 ≤ 5 * 550 := Nat.mul_le_mul_right _ h.len
  unfold showT
  omega
theorem read_show {p : List Fn} (h : progS p = 0) : readR (showT p) = (p, 0) := by
  unfold readR
  rw [if_pos (show_len (right_okT h)), whole_of_show (right_okT h)]
  simp only [h, if_true]
open Go.RowKit
theorem sameFuncsF (ar lo : Int) (c : List (Int × Int)) (cv1 cv2 : Value) (w : World) (h1 : CodeAt w cv1 c) (h2 : CodeAt w cv2 c) :
    Calls Tryz.prog 31 #[.agg #[.int .i64 ar, .int .i64 lo, cv1], .agg #[.int .i64 ar, .int .i64 lo, cv2]] w fun e w' => e = .returned (.bool true) ∧ Kept w w' := by
  obtain ⟨oa1, cap1, rfl, hl8, i1⟩ := h1
  obtain ⟨oa2, cap2, rfl, _, i2⟩ := h2
  have hn1 : (ar != ar) = false := by simp
  have hn2 : (lo != lo) = false := by simp
  have hn3 : ((c.length : Int) != (c.length : Int)) = false := by simp
  generalize hm : c.length = m at *
  have HI1 := hide i1
  have HI2 := hide i2
  have HM := hide hm
  clear i1 i2 hm
  go_enter Tryz.func31, Tryz.ntmps31
  go_wp2
  have L0 : Hid (((w.alloc (.cells #[.int .i64 ar, .int .i64 lo, .slice oa1 m cap1] 42)).alloc (.cells #[.int .i64 ar, .int .i64 lo, .slice oa2 m cap2] 42)).heap[w.heap.size]? = _) := hide (lays_alloc (lays_new rfl) _)
  have L1 : Hid (((w.alloc (.cells #[.int .i64 ar, .int .i64 lo, .slice oa1 m cap1] 42)).alloc (.cells #[.int .i64 ar, .int .i64 lo, .slice oa2 m cap2] 42)).heap[w.heap.size + 1]? = _) := hide (lays_new (by simp))
  generalize hW : (w.alloc (.cells #[.int .i64 ar, .int .i64 lo, .slice oa1 m cap1] 42)).alloc (.cells #[.int .i64 ar, .int .i64 lo, .slice oa2 m cap2] 42) = W at *
  have HKW : Hid (Kept w W) := by rw [← hW]; exact ((Kept.refl w).alloc _).alloc _
  clear hW
  go_loopw [5] (fun s wr => ∃ k : Nat, k ≤ m ∧ s = .int .i64 k ∧ Hid (Kept W wr)) (fun s _ => m - (intOf s).toNat)
  case atStart => exact ⟨0, Nat.zero_le _, rfl, Kept.refl _⟩
  case round =>
    obtain ⟨k, hkm, rfl, HKr⟩ := hrel
    have b0 := cell_lays (lays_kept (unhide HKr) (unhide L0)) 2
    have b1 := cell_lays (lays_kept (unhide HKr) (unhide L1)) 2
    simp only [List.getElem?_toArray, List.getElem?_cons_zero, List.getElem?_cons_succ] at b0 b1
    by_cases hlt : k < m
    · obtain ⟨⟨kd, a⟩, hx⟩ : ∃ x, c[k]? = some x := ⟨_, List.getElem?_eq_getElem (by rw [unhide HM]; exact hlt)⟩
      obtain ⟨p1, o1, rfl, x0, x1⟩ := (unhide HI1) k _ hx
      obtain ⟨p2, o2, rfl, y0, y1⟩ := (unhide HI2) k _ hx
      have hk := (unhide HKW).trans (unhide HKr)
      have x0' := hk.cell x0
      have x1' := hk.cell x1
      have y0' := hk.cell y0
      have y1' := hk.cell y1
      simp only at x0' x1' y0' y1'
      clear hk x0 x1 y0 y1 hx
      go_wp2
      go_quiet (fail)
      go_wp2
      go_roundw
      case rel => exact ⟨k + 1, by omega, by go_num, (unhide HKr).drewN _⟩
      case measure => simp [intOf]; omega
    · go_wp2
      go_ret
      exact ⟨rfl, (unhide HKW).trans (unhide HKr)⟩
theorem sameProgsF (p : List Fn) (v1 v2 : Value) (w : World) (h1 : ProgAt w v1 p) (h2 : ProgAt w v2 p) :
    Calls Tryz.prog 11 #[v1, v2] w fun e w' => e = .returned (.bool true) ∧ Kept w w' := by
  obtain ⟨oa1, cap1, rfl, hl8, i1⟩ := h1
  obtain ⟨oa2, cap2, rfl, _, i2⟩ := h2
  have hn3 : ((p.length : Int) != (p.length : Int)) = false := by simp
  generalize hm : p.length = m at *
  have HI1 := hide i1
  have HI2 := hide i2
  have HM := hide hm
  clear i1 i2 hm
  go_enter Tryz.func11, Tryz.ntmps11
  go_wp2
  go_loopw [5] (fun s wr => ∃ k : Nat, k ≤ m ∧ s = .int .i64 k ∧ Hid (Kept w wr)) (fun s _ => m - (intOf s).toNat)
  case atStart => exact ⟨0, Nat.zero_le _, rfl, Kept.refl _⟩
  case round =>
    obtain ⟨k, hkm, rfl, HKr⟩ := hrel
    by_cases hlt : k < m
    · obtain ⟨f, hx⟩ : ∃ f, p[k]? = some f := ⟨_, List.getElem?_eq_getElem (by rw [unhide HM]; exact hlt)⟩
      obtain ⟨p1, o1, cv1, rfl, x0, x1, x2, hc1⟩ := (unhide HI1) k _ hx
      obtain ⟨p2, o2, cv2, rfl, y0, y1, y2, hc2⟩ := (unhide HI2) k _ hx
      have hk := unhide HKr
      have x0' := hk.cell x0
      have x1' := hk.cell x1
      have x2' := hk.cell x2
      have y0' := hk.cell y0
      have y1' := hk.cell y1
      have y2' := hk.cell y2
      obtain ⟨oc1, cc1, rfl, _, _⟩ := id hc1
      obtain ⟨oc2, cc2, rfl, _, _⟩ := id hc2
      have HSF : Hid (∀ u, Kept wr u → Calls Tryz.prog 31 #[.agg #[.int .i64 f.args, .int .i64 f.locals, .slice oc1 f.code.length cc1], .agg #[.int .i64 f.args, .int .i64 f.locals, .slice oc2 f.code.length cc2]] u fun e w' => e = .returned (.bool true) ∧ Kept u w') :=
        hide (fun u hu => sameFuncsF f.args f.locals f.code _ _ u (hc1.kept (hk.trans hu)) (hc2.kept (hk.trans hu)))
      clear hk x0 x1 x2 y0 y1 y2 hx hc1 hc2
      go_wp2_with fail
      go_cut [26] from 11 to 26 (fun s26 wx => s26 = .bool false ∧ Hid (Kept wr wx))
      case first =>
        go_region_with (go_at_call 31; refine ((unhide HSF) _ ?_).mono ?_; (repeat (first | exact Kept.refl _ | refine Kept.drew ?_ | refine Kept.alloc ?_ _)); rintro e w' ⟨rfl, hkk⟩)
        all_goals go_wp2_with fail
        all_goals go_meet
        all_goals exact ⟨rfl, hide (by first | exact hkk | exact (Kept.refl wr).drew.trans hkk)⟩
      case rest =>
        obtain ⟨rfl, HKx⟩ := hcut
        go_wp2
        go_roundw
        case rel => exact ⟨k + 1, by omega, by go_num, (unhide HKr).trans (unhide HKx)⟩
        case measure => simp [intOf]; omega
    · go_wp2
      go_ret
      exact ⟨rfl, unhide HKr⟩
open Go.RowKit Go.Maps
def showR (p : List Fn) : List UInt8 × Int := if progS p = 0 then (showT p, 0) else ([], progS p)
theorem show_no (w : World) (p : List Fn) (vp : Value) (hp : ProgAt w vp p) (hk : KindsAt w) (hz : progS p ≠ 0) :
    Calls Tryz.prog 5 #[vp] w fun e w' => e = .returned (.tuple #[.string ⟨#[]⟩, .int .i64 (progS p)]) ∧ Kept w w' := by
  have HC := hide (progCheck_any p vp w hp hk)
  obtain ⟨oa, cap, rfl, _⟩ := hp
  generalize progS p = er at *
  generalize p.length = n at *
  have hz2 : (er == 0) = false := by simpa using hz
  clear hk
  go_enter Tryz.func5, Tryz.ntmps5
  go_wp2_with fail
  refine (unhide HC).mono ?_
  rintro _ w1 ⟨rfl, k1⟩
  have HK := hide k1
  clear k1 HC
  go_wp2_with fail
  go_ret2
  exact ⟨rfl, unhide HK⟩
theorem show_any (w : World) (p : List Fn) (vp : Value) (hp : ProgAt w vp p) (he : EnvT w) (hk : KindsAt w) :
    Calls Tryz.prog 5 #[vp] w fun e w' => e = .returned (.tuple #[.string ⟨(showR p).1.toArray⟩, .int .i64 (showR p).2]) ∧ Kept w w' := by
  unfold showR
  by_cases hz : progS p = 0
  · rw [if_pos hz]
    have HC := progCheck_any p vp w hp hk
    rw [hz] at HC
    exact show_ok w p vp hp (right_okT hz) he.tab he.kinds (hide HC)
  · rw [if_neg hz]
    exact show_no w p vp hp hk hz
open Go.RowKit Go.ChangeShapes Go.WideShapes Go.ChangeAt
theorem laidT_at {H : Type} (i : Nat) (h : i < 17) : ([.agg [.lit (.string [112, 117, 115, 104]), .lit (.int .i64 1)], .agg [.lit (.string [112, 111, 112]), .lit (.int .i64 0)], .agg [.lit (.string [108, 111, 97, 100]), .lit (.int .i64 1)], .agg [.lit (.string [115, 116, 111, 114, 101]), .lit (.int .i64 1)], .agg [.lit (.string [97, 100, 100]), .lit (.int .i64 0)], .agg [.lit (.string [115, 117, 98]), .lit (.int .i64 0)], .agg [.lit (.string [109, 117, 108]), .lit (.int .i64 0)], .agg [.lit (.string [108, 101, 115, 115]), .lit (.int .i64 0)], .agg [.lit (.string [115, 97, 109, 101]), .lit (.int .i64 0)], .agg [.lit (.string [106, 117, 109, 112]), .lit (.int .i64 1)], .agg [.lit (.string [122, 101, 114, 111]), .lit (.int .i64 1)], .agg [.lit (.string [99, 97, 108, 108]), .lit (.int .i64 1)], .agg [.lit (.string [114, 101, 116, 117, 114, 110]), .lit (.int .i64 0)], .agg [.lit (.string [109, 97, 107, 101]), .lit (.int .i64 1)], .agg [.lit (.string [114, 101, 115, 117, 109, 101]), .lit (.int .i64 0)], .agg [.lit (.string [121, 105, 101, 108, 100]), .lit (.int .i64 0)], .agg [.lit (.string [112, 117, 116]), .lit (.int .i64 0)]] : List (DataW H))[i]? = some (.agg [.lit (.string (tkS.getD i ([], 0)).1), .lit (.int .i64 ((tkS.getD i ([], 0)).2 : Nat))]) := by
  have : i = 0 ∨ i = 1 ∨ i = 2 ∨ i = 3 ∨ i = 4 ∨ i = 5 ∨ i = 6 ∨ i = 7 ∨ i = 8 ∨ i = 9 ∨ i = 10 ∨ i = 11 ∨ i = 12 ∨ i = 13 ∨ i = 14 ∨ i = 15 ∨ i = 16 := by omega
  rcases this with rfl | rfl | rfl | rfl | rfl | rfl | rfl | rfl | rfl | rfl | rfl | rfl | rfl | rfl | rfl | rfl | rfl <;> rfl
theorem gTK : Tryz.prog.globalNamed "glebe/text.kinds" = some 0 := by kernel_rfl
theorem gTKType : (Tryz.prog.globals[0]?).map (·.type) = some 86 := by kernel_rfl
theorem cellsTK : Tryz.prog.cellsOf 85 = 2 := by kernel_rfl
theorem cellsStr : Tryz.prog.cellsOf 9 = 1 := by kernel_rfl
theorem cellsIntT : Tryz.prog.cellsOf 3 = 1 := by kernel_rfl
theorem typeTK : ∃ f0 f1 : Field, Tryz.prog.underlying 85 = some (.struct #[f0, f1]) ∧ f0.type = 9 ∧ f0.offset = 0 ∧ f1.type = 3 ∧ f1.offset = 1 := ⟨_, _, Tryz.underlying85, rfl, rfl, rfl, rfl⟩
theorem tk_of_reads {W : World} (h : Lib.VarReads Tryz.prog W "glebe/text.kinds" Rows.laid_glebe_text_kinds) : TKAt W := by
  obtain ⟨g', t', cs, fuel, p, hg', ht', hvar, hd⟩ := h
  obtain rfl := Option.some.inj (gTK.symm.trans hg')
  obtain rfl := Option.some.inj (gTKType.symm.trans ht')
  obtain ⟨xs, m, _, hx, _, hxl, hi⟩ := DataW.trod_array Tryz.underlying86 hd
  have hagg : (Rows.laid_glebe_text_kinds : DataW Unit) = .agg (xs.map (·.1)) := congrArg Prod.fst hx
  have hl : ∀ i, i < 17 → (xs[i]?).map (·.1) = some (.agg [.lit (.string (tkS.getD i ([], 0)).1), .lit (.int .i64 ((tkS.getD i ([], 0)).2 : Nat))]) := by
    intro i hi17
    rw [← List.getElem?_map, ← laidT_at i hi17]
    unfold Rows.laid_glebe_text_kinds at hagg
    rw [← DataW.agg.inj hagg]
  intro i hi17
  have h1 := hi i hi17
  obtain ⟨x, hxi, hx1⟩ := Option.map_eq_some_iff.1 (hl i hi17)
  rw [hxi, cellsTK] at h1
  obtain ⟨f0, f1, hu, t0, o0, t1, o1⟩ := typeTK
  obtain ⟨y0, y1, n', hy, _, g0, g1⟩ := trod_struct2 hu h1
  rw [t0, o0, cellsStr] at g0
  rw [t1, o1, cellsIntT] at g1
  obtain ⟨s, e0, r0, _⟩ := DataW.trod_string Tryz.underlying9 g0
  obtain ⟨z1, e1, r1, _⟩ := DataW.trod_int Tryz.underlying3 g1
  rw [hy, r0, r1] at hx1
  simp only [DataW.agg.injEq, List.cons.injEq, DataW.lit.injEq, Lit.string.injEq, Lit.int.injEq, true_and, and_true] at hx1
  obtain ⟨q0, rfl⟩ := hx1
  have hs : Value.string s = strV (tkS.getD i ([], 0)).1 := by rw [← q0]; cases s; simp [strV]
  rw [World.var?_cell gTK hvar, World.var?_cell gTK hvar, ← hs]
  constructor
  · have := congrArg (·[0]?) e0
    simpa [List.getElem?_take, List.getElem?_drop] using this
  · have := congrArg (·[0]?) e1
    simpa [List.getElem?_take, List.getElem?_drop, Nat.add_comm, Nat.add_left_comm] using this
theorem err_of_reads {W : World} {n nm : String} {d : DataW Unit} {g : Nat} {ti : TypeId} {ms : Array (String × TypeId)} (hg : Tryz.prog.globalNamed n = some g) (ht : (Tryz.prog.globals[g]?).map (·.type) = some ti) (hi : Tryz.prog.underlying ti = some (.interface ms)) (h : Lib.VarReads Tryz.prog W n (.iface nm d)) : ∃ t p, W.var? Tryz.prog n = some #[.iface t p] := by
  obtain ⟨g', t', cs, fuel, p, hg', ht', hvar, hd⟩ := h
  obtain rfl := Option.some.inj (hg.symm.trans hg')
  obtain rfl := Option.some.inj (ht.symm.trans ht')
  obtain ⟨_, u, v, e, _⟩ := iface_of_trod hi hd
  refine ⟨u, v, hvar.trans (congrArg some ?_)⟩
  cases cs
  simpa using e
def OpsOk (w : World) (N : Nat) (v : Value) : Prop := ∃ oa n cap, v = .slice oa n cap ∧ (0 < n → ∃ g o cur, oa = some ⟨g, o, none⟩ ∧ N ≤ g ∧ w.heap[g]? = some (.cells cur 44) ∧ o + n * 2 ≤ cur.size ∧ n ≤ 9223372036854775807)
def FnsOk (w : World) (N : Nat) (v : Value) : Prop := ∃ oa n cap, v = .slice oa n cap ∧ (0 < n → ∃ g cur, oa = some ⟨g, 0, none⟩ ∧ N ≤ g ∧ w.heap[g]? = some (.cells cur 42) ∧ n ≤ 9223372036854775807 ∧
  ∀ k, k < n → ∃ a b cv, cur[k * 3]? = some (.int .i64 a) ∧ cur[k * 3 + 1]? = some (.int .i64 b) ∧ cur[k * 3 + 2]? = some cv ∧ OpsOk w N cv)
theorem OpsOk.nil (w : World) (N : Nat) : OpsOk w N (.slice none 0 0) := ⟨none, 0, 0, rfl, fun h => by omega⟩
theorem FnsOk.nil (w : World) (N : Nat) : FnsOk w N (.slice none 0 0) := ⟨none, 0, 0, rfl, fun h => by omega⟩
def FnSame (c c' : Array Value) (k : Nat) : Prop := (c'[k * 3]? = c[k * 3]? ∧ c'[k * 3 + 1]? = c[k * 3 + 1]? ∧ c'[k * 3 + 2]? = c[k * 3 + 2]?) ∨
  (c'[k * 3]? = some (.int .i64 (-1)) ∧ c'[k * 3 + 1]? = some (.int .i64 0) ∧ c'[k * 3 + 2]? = some (.slice none 0 0))
def WrP (w w' : World) : Prop := ∀ (g : Nat) (c : Array Value) (t : TypeId), w.heap[g]? = some (.cells c t) → ∃ c', w'.heap[g]? = some (.cells c' t) ∧ c'.size = c.size ∧
  (t = 42 → ∀ k, FnSame c c' k) ∧ (t = 22 → c' = c)
theorem WrP.same {w w' : World} (h : ∀ (g : Nat) (o : Obj), w.heap[g]? = some o → w'.heap[g]? = some o) : WrP w w' := fun g c _ hg =>
  ⟨c, h g _ hg, rfl, fun _ _ => .inl ⟨rfl, rfl, rfl⟩, fun _ => rfl⟩
theorem WrP.kept {w w' : World} (h : Kept w w') : WrP w w' := WrP.same fun _ _ hg => lays_kept h hg
theorem OpsOk.wr {w w' : World} {N : Nat} {v : Value} (h : OpsOk w N v) (k : WrP w w') : OpsOk w' N v := by
  obtain ⟨oa, n, cap, rfl, h⟩ := h
  refine ⟨oa, n, cap, rfl, fun hn => ?_⟩
  obtain ⟨g, o, cur, e, hN, hg, hs, hb⟩ := h hn
  obtain ⟨c', hc, hz, _⟩ := k g cur _ hg
  exact ⟨g, o, c', e, hN, hc, by omega, hb⟩
theorem FnsOk.wr {w w' : World} {N : Nat} {v : Value} (h : FnsOk w N v) (k : WrP w w') : FnsOk w' N v := by
  obtain ⟨oa, n, cap, rfl, h⟩ := h
  refine ⟨oa, n, cap, rfl, fun hn => ?_⟩
  obtain ⟨g, cur, e, hN, hg, hb, hs⟩ := h hn
  obtain ⟨c', hc, hz, hf, _⟩ := k g cur _ hg
  refine ⟨g, c', e, hN, hc, hb, fun j hj => ?_⟩
  obtain ⟨a, b, cv, h1, h2, h3, h4⟩ := hs j hj
  rcases hf rfl j with ⟨q1, q2, q3⟩ | ⟨q1, q2, q3⟩
  · exact ⟨a, b, cv, q1.trans h1, q2.trans h2, q3.trans h3, h4.wr k⟩
  · exact ⟨_, _, _, q1, q2, q3, OpsOk.nil _ _⟩
theorem OpsOk.low {w : World} {N M : Nat} {v : Value} (h : OpsOk w N v) (hm : M ≤ N) : OpsOk w M v := by
  obtain ⟨oa, n, cap, rfl, h⟩ := h
  refine ⟨oa, n, cap, rfl, fun hn => ?_⟩
  obtain ⟨g, o, cur, e, hN, r⟩ := h hn
  exact ⟨g, o, cur, e, by omega, r⟩
theorem FnsOk.low {w : World} {N M : Nat} {v : Value} (h : FnsOk w N v) (hm : M ≤ N) : FnsOk w M v := by
  obtain ⟨oa, n, cap, rfl, h⟩ := h
  refine ⟨oa, n, cap, rfl, fun hn => ?_⟩
  obtain ⟨g, cur, e, hN, hg, hb, hs⟩ := h hn
  refine ⟨g, cur, e, by omega, hg, hb, fun j hj => ?_⟩
  obtain ⟨a, b, cv, h1, h2, h3, h4⟩ := hs j hj
  exact ⟨a, b, cv, h1, h2, h3, h4.low hm⟩
theorem heap_setP {w : World} {g : Nat} {c : Array Value} {t : TypeId} (h : w.heap[g]? = some (.cells c t)) (i : Nat) (u : Value) (b : Nat) :
    (w.setCell ⟨g, i, none⟩ u).heap[b]? = if b = g then some (.cells (c.setIfInBounds i u) t) else w.heap[b]? := by
  by_cases e : b = g
  · subst e; rw [if_pos rfl]; exact lays_set h i u
  · rw [if_neg e]; exact Below.heap_setCell w ⟨g, i, none⟩ u b e
theorem WrP.op {w : World} {g : Nat} {c : Array Value} (h : w.heap[g]? = some (.cells c 44)) (i : Nat) (u : Value) : WrP w (w.setCell ⟨g, i, none⟩ u) := by
  intro b c1 t hb
  rw [heap_setP h]
  by_cases e : b = g
  · subst e
    rw [h] at hb
    obtain ⟨rfl, rfl⟩ : c = c1 ∧ 44 = t := by simpa using hb
    rw [if_pos rfl]
    exact ⟨_, rfl, by simp, fun q => absurd q (by decide), fun q => absurd q (by decide)⟩
  · rw [if_neg e]
    exact ⟨c1, hb, rfl, fun _ _ => .inl ⟨rfl, rfl, rfl⟩, fun _ => rfl⟩
theorem WrP.trans {a b c : World} (h : WrP a b) (k : WrP b c) : WrP a c := fun g d t hg => by
  obtain ⟨d1, h1, h2, h3, h4⟩ := h g d t hg
  obtain ⟨d2, k1, k2, k3, k4⟩ := k g d1 t h1
  refine ⟨d2, k1, k2.trans h2, fun e j => ?_, fun e => (k4 e).trans (h4 e)⟩
  rcases k3 e j with ⟨q1, q2, q3⟩ | q
  · rcases h3 e j with ⟨r1, r2, r3⟩ | ⟨r1, r2, r3⟩
    · exact .inl ⟨q1.trans r1, q2.trans r2, q3.trans r3⟩
    · exact .inr ⟨q1.trans r1, q2.trans r2, q3.trans r3⟩
  · exact .inr q
abbrev setFn (w : World) (g j : Nat) : World := ((w.setCell ⟨g, j * 3, none⟩ (.int .i64 (-1))).setCell ⟨g, j * 3 + 1, none⟩ (.int .i64 0)).setCell ⟨g, j * 3 + 2, none⟩ (.slice none 0 0)
abbrev setOp (w : World) (g o : Nat) : World := (w.setCell ⟨g, o, none⟩ (.int .i64 (-1))).setCell ⟨g, o + 1, none⟩ (.int .i64 (-1))
theorem WrP.fn {w : World} {g : Nat} {c : Array Value} (h : w.heap[g]? = some (.cells c 42)) {j : Nat} (hj : j * 3 + 2 < c.size) : WrP w (setFn w g j) := by
  intro b c1 t hb
  have l4 := lays_set (lays_set (lays_set h (j * 3) (.int .i64 (-1))) (j * 3 + 1) (.int .i64 0)) (j * 3 + 2) (.slice none 0 0)
  by_cases e : b = g
  · subst e
    rw [h] at hb
    obtain ⟨rfl, rfl⟩ : c = c1 ∧ 42 = t := by simpa using hb
    refine ⟨_, l4, by simp, fun _ i => ?_, fun q => absurd q (by decide)⟩
    by_cases hi : i = j
    · subst hi
      right
      simp only [Array.getElem?_setIfInBounds, Array.size_setIfInBounds]
      refine ⟨?_, ?_, ?_⟩ <;> simp <;> omega
    · left
      simp only [Array.getElem?_setIfInBounds]
      refine ⟨?_, ?_, ?_⟩ <;> (repeat rw [if_neg (by omega)])
  · refine ⟨c1, ?_, rfl, fun _ _ => .inl ⟨rfl, rfl, rfl⟩, fun _ => rfl⟩
    rw [← hb]
    simp only [setFn]
    rw [Below.heap_setCell _ _ _ _ e, Below.heap_setCell _ _ _ _ e, Below.heap_setCell _ _ _ _ e]
def LPt (w0 w : World) (L : Nat) (cs : Array Value) : Prop := w.heap[L]? = some (.cells cs 22) ∧ w0.heap.size ≤ L ∧ Kept w0 w ∧ ∀ i, i < 2 → ∃ v, cs[i]? = some v ∧ FnsOk w w0.heap.size v
theorem LPt.wr {w0 w w' : World} {L : Nat} {cs : Array Value} (h : LPt w0 w L cs) (hk : Kept w0 w') (k : WrP w w') : LPt w0 w' L cs := by
  obtain ⟨h1, h2, _, h4⟩ := h
  obtain ⟨c', hc, _, _, he⟩ := k L cs _ h1
  refine ⟨by rw [hc, he rfl], h2, hk, fun i hi => ?_⟩
  obtain ⟨v, q1, q2⟩ := h4 i hi
  exact ⟨v, q1, q2.wr k⟩
theorem LPt.kept {w0 w w' : World} {L : Nat} {cs : Array Value} (h : LPt w0 w L cs) (hk : Kept w w') : LPt w0 w' L cs := h.wr (h.2.2.1.trans hk) (WrP.kept hk)
theorem LPt.make {w0 w : World} {L : Nat} {f0 f1 : Value} (h : w.heap[L]? = some (.cells #[f0, f1] 22)) (hL : w0.heap.size ≤ L) (hk : Kept w0 w) (a0 : FnsOk w w0.heap.size f0) (a1 : FnsOk w w0.heap.size f1) : LPt w0 w L #[f0, f1] := by
  refine ⟨h, hL, hk, fun i hi => ?_⟩
  match i, hi with
  | 0, _ => exact ⟨f0, rfl, a0⟩
  | 1, _ => exact ⟨f1, rfl, a1⟩
theorem LPt.prog {w0 w : World} {L : Nat} {cs : Array Value} (h : LPt w0 w L cs) {i : Nat} (hi : i < 2) : ∃ of nf cf, cs[i]? = some (.slice of nf cf) := by
  obtain ⟨h1, _, _, h4⟩ := h
  obtain ⟨v, q1, q2⟩ := h4 i hi
  obtain ⟨of, nf, cf, rfl, _⟩ := q2
  exact ⟨of, nf, cf, q1⟩
theorem LPt.fns {w0 w : World} {L : Nat} {cs : Array Value} (h : LPt w0 w L cs) {i : Nat} (hi : i < 2) {of : Option Addr} {nf cf : Nat} (hc : cs[i]? = some (.slice of nf cf)) {k : Nat} (hk : k < nf) :
    ∃ g cur, of = some ⟨g, 0, none⟩ ∧ w0.heap.size ≤ g ∧ w.heap[g]? = some (.cells cur 42) ∧ nf ≤ 9223372036854775807 ∧ k * 3 + 2 < cur.size ∧ ∃ a b oc nc cc, cur[k * 3]? = some (.int .i64 a) ∧ cur[k * 3 + 1]? = some (.int .i64 b) ∧ cur[k * 3 + 2]? = some (.slice oc nc cc) ∧ OpsOk w w0.heap.size (.slice oc nc cc) := by
  obtain ⟨_, _, _, h4⟩ := h
  obtain ⟨v, q1, q4⟩ := h4 i hi
  obtain rfl : v = .slice of nf cf := Option.some.inj (q1.symm.trans hc)
  obtain ⟨_, _, _, e, q⟩ := q4
  cases e
  obtain ⟨g, cur, rfl, hg, hh, hb, hs⟩ := q (by omega)
  obtain ⟨a, b, cv, r1, r2, r3, r4⟩ := hs k hk
  obtain ⟨oc, nc, cc, rfl, _⟩ := id r4
  exact ⟨g, cur, rfl, hg, hh, hb, (Array.getElem?_eq_some_iff.1 r3).1, a, b, oc, nc, cc, r1, r2, r3, r4⟩
theorem OpsOk.at {w : World} {N n c : Nat} {oc : Option Addr} (h : OpsOk w N (.slice oc n c)) {m : Nat} (hm : m < n) : ∃ g o cur x y, oc = some ⟨g, o, none⟩ ∧ N ≤ g ∧ w.heap[g]? = some (.cells cur 44) ∧ w.cell? ⟨g, o + m * 2, none⟩ = some x ∧ w.cell? ⟨g, o + m * 2 + 1, none⟩ = some y ∧ w.frozen? ⟨g, o + m * 2, none⟩ = false ∧ w.frozen? ⟨g, o + m * 2 + 1, none⟩ = false ∧ n ≤ 9223372036854775807 := by
  obtain ⟨_, _, _, e, q⟩ := h
  cases e
  obtain ⟨g, o, cur, rfl, hg, hh, hs, hb⟩ := q (by omega)
  exact ⟨g, o, cur, cur[o + m * 2]'(by omega), cur[o + m * 2 + 1]'(by omega), rfl, hg, hh, (cell_lays hh _).trans (Array.getElem?_eq_getElem (by omega)), (cell_lays hh _).trans (Array.getElem?_eq_getElem (by omega)), frozen_lays hh _, frozen_lays hh _, hb⟩
theorem other_kindP {w : World} {g b : Nat} {c d : Array Value} {t r : TypeId} (h : w.heap[g]? = some (.cells c t)) (k : w.heap[b]? = some (.cells d r)) (hn : t ≠ r) (i : Nat) (u : Value) : (w.setCell ⟨g, i, none⟩ u).heap[b]? = some (.cells d r) := by
  refine lays_other k (fun e => ?_) u
  simp only at e
  subst e
  rw [h] at k
  simp only [Option.some.injEq, Obj.cells.injEq] at k
  exact hn k.2.1
def XPt (w0 w : World) (L gf : Nat) (cs curf : Array Value) (cv : Value) : Prop := LPt w0 w L cs ∧ w.heap[gf]? = some (.cells curf 42) ∧ OpsOk w w0.heap.size cv
theorem XPt.kept {w0 w w' : World} {L gf : Nat} {cs curf : Array Value} {cv : Value} (h : XPt w0 w L gf cs curf cv) (hk : Kept w w') : XPt w0 w' L gf cs curf cv := ⟨h.1.kept hk, lays_kept hk h.2.1, h.2.2.wr (WrP.kept hk)⟩
theorem XPt.op {w0 w : World} {L gf g o : Nat} {cs curf cur : Array Value} {cv : Value} (h : XPt w0 w L gf cs curf cv) (hg : w.heap[g]? = some (.cells cur 44)) (hN : w0.heap.size ≤ g) : XPt w0 (setOp w g o) L gf cs curf cv := by
  obtain ⟨h1, h2, h3⟩ := h
  have l1 := lays_set hg o (.int .i64 (-1))
  have k := (WrP.op hg o (.int .i64 (-1))).trans (WrP.op l1 (o + 1) (.int .i64 (-1)))
  exact ⟨h1.wr ((h1.2.2.1.setCell (p := ⟨g, _, none⟩) hN _).setCell (p := ⟨g, _, none⟩) hN _) k, other_kindP l1 (other_kindP hg h2 (by decide) _ _) (by decide) _ _, h3.wr k⟩
theorem LPt.fn {w0 w : World} {L g j : Nat} {cs cur : Array Value} (h : LPt w0 w L cs) (hg : w.heap[g]? = some (.cells cur 42)) (hN : w0.heap.size ≤ g) (hj : j * 3 + 2 < cur.size) : LPt w0 (setFn w g j) L cs :=
  h.wr (((h.2.2.1.setCell (p := ⟨g, _, none⟩) hN _).setCell (p := ⟨g, _, none⟩) hN _).setCell (p := ⟨g, _, none⟩) hN _) (WrP.fn hg hj)
theorem CodZ.ok {b m : Nat} {w : World} {v : Value} {c : List (Int × Int)} (h : CodZ b m w v c) : OpsOk w b v := by
  obtain ⟨oa, cap, e, hl, hi⟩ := h
  refine ⟨oa, c.length, cap, e, fun hn => ?_⟩
  obtain ⟨g, cur, r1, r2, r3, _, r5⟩ := hi (c.length - 1) _ (List.getElem?_eq_getElem (by omega))
  have := (Array.getElem?_eq_some_iff.1 r5).1
  exact ⟨g, 0, cur, r1, r2.1, r3, by omega, by omega⟩
theorem PrR.shape {b m : Nat} {w : World} {v : Value} {p : List Fn} (h : PrR b m w v p) (hl : p.length ≤ 100000) : FnsOk w b v := by
  obtain ⟨h1, hm, c, hr, hc⟩ := h
  obtain ⟨oa, cap, e, _, hi⟩ := rowT_at hr
  refine ⟨oa, p.length, cap, e, fun hn => ?_⟩
  obtain ⟨_, q1, _⟩ := hc 0 _ (List.getElem?_eq_getElem hn)
  obtain ⟨g, cur, r1, r2, r3, r4⟩ := hi _ _ q1
  refine ⟨g, cur, r1, r2.1, r3, by omega, fun k hk => ?_⟩
  obtain ⟨cv, q1, q2, q3, q4, q5, q6⟩ := hc k _ (List.getElem?_eq_getElem hk)
  refine ⟨_, _, cv, r4 _ _ q1, r4 _ _ q2, r4 _ _ q3, ?_⟩
  by_cases hk1 : k + 1 = p.length
  · exact (CodZ.of (q5 hk1) q4).ok.low h1
  · exact (q6 (by omega)).ok
end Go.Proofs.YtjioipkfnekigaaGreatDoor
