/- TextQ, TextR0, DeskL, EngX, OpenG, Open, TextEnv0 -/
import Derived.Test.YtokhibfenccijaaGreatDoorKB42
import Derived.Test.YtokhibfenccijaaGreatDoorKB13
import Derived.Test.YtokhibfenccijaaGreatDoorKB39
import Derived.Test.YtokhibfenccijaaGreatDoorRows
import Derived.Test.YtokhibfenccijaaGreatDoorKB01
import Derived.ProofKit
import Derived.OpenShut
import Derived.Deep.Slices
import Derived.SizedLaws
import Derived.Deep.Strs
import Derived.Lib.LaidTab
import Derived.MakeChecks
import Derived.Lib.LaidU8
import Derived.LaidSub
set_option maxRecDepth 100000
set_option maxHeartbeats 8000000
namespace Go.Proofs.YtokhibfenccijaaGreatDoor
def lineW (wd : List UInt8) (l : List Int) : List UInt8 := Lib.join (wd :: l.map Lib.itoa) [32]
def opW (x : Int × Int) : List UInt8 := if (tkS.getD x.1.toNat ([], 0)).2 = 0 then lineW (tkS.getD x.1.toNat ([], 0)).1 [] else lineW (tkS.getD x.1.toNat ([], 0)).1 [x.2]
def linesOf (p : List Fn) : List (List UInt8) := p.flatMap fun f => lineW [102, 117, 110, 99] [f.args, f.locals] :: f.code.map opW
theorem opT_W (x : Int × Int) : opT x = opW x ++ [10] := by
  unfold opT opW
  split <;> rfl
theorem show_lines (p : List Fn) : showT p = (linesOf p).flatMap (· ++ [10]) := by
  have hc : ∀ c : List (Int × Int), c.flatMap opT = (c.map opW).flatMap (· ++ [10]) := fun c => by
    induction c with
    | nil => rfl
    | cons x c ih => simp [ih, opT_W]
  induction p with
  | nil => rfl
  | cons f p ih =>
    have : showT (f :: p) = fnT f ++ showT p := by simp [showT]
    rw [this, ih]
    have h2 : linesOf (f :: p) = (lineW [102, 117, 110, 99] [f.args, f.locals] :: f.code.map opW) ++ linesOf p := by simp [linesOf]
    rw [h2]
    simp [fnT, lineT, lineW, hc]
theorem itoa_no {z : Int} (h : 0 ≤ z) : (10 : UInt8) ∉ Lib.itoa z ∧ (32 : UInt8) ∉ Lib.itoa z := by
  have hi : Lib.itoa z = Lib.decDigits z.toNat := by unfold Lib.itoa; rw [if_neg (by omega)]
  rw [hi]
  constructor
  · intro hc
    have := dec_digits _ _ hc
    simp at this
  · intro hc
    have := dec_digits _ _ hc
    simp at this
theorem join_no {c d : UInt8} (hcd : c ≠ d) : ∀ {xs : List (List UInt8)}, (∀ x ∈ xs, c ∉ x) → c ∉ Lib.join xs [d]
  | [], _ => by simp [Lib.join_nil]
  | [x], h => by rw [Lib.join_one]; exact h x (by simp)
  | x :: y :: ys, h => by
    have ih := join_no hcd (xs := y :: ys) (fun z hz => h z (by simp [hz]))
    rw [Lib.join_cons]
    have : Lib.joinTail [d] (y :: ys) = d :: Lib.join (y :: ys) [d] := by rw [Lib.join_cons]; simp [Lib.joinTail]
    rw [this]
    intro hc
    rcases List.mem_append.1 hc with hc | hc
    · exact h x (by simp) hc
    · rcases List.mem_cons.1 hc with hc | hc
      · exact hcd hc
      · exact ih hc
theorem words_no {wd : List UInt8} {l : List Int} (hw : (10 : UInt8) ∉ wd ∧ (32 : UInt8) ∉ wd) (hl : ∀ z ∈ l, 0 ≤ z) : (∀ x ∈ wd :: l.map Lib.itoa, (10 : UInt8) ∉ x) ∧ ∀ x ∈ wd :: l.map Lib.itoa, (32 : UInt8) ∉ x := by
  constructor
  · intro x hx
    rcases List.mem_cons.1 hx with rfl | hx
    · exact hw.1
    · obtain ⟨z, hz, rfl⟩ := List.mem_map.1 hx
      exact (itoa_no (hl z hz)).1
  · intro x hx
    rcases List.mem_cons.1 hx with rfl | hx
    · exact hw.2
    · obtain ⟨z, hz, rfl⟩ := List.mem_map.1 hx
      exact (itoa_no (hl z hz)).2
theorem lineW_split {wd : List UInt8} {l : List Int} (hw : (10 : UInt8) ∉ wd ∧ (32 : UInt8) ∉ wd) (hl : ∀ z ∈ l, 0 ≤ z) : splitT 32 (lineW wd l) = wd :: l.map Lib.itoa ∧ (10 : UInt8) ∉ lineW wd l :=
  ⟨split_join (by simp) (words_no hw hl).2, join_no (by decide) (words_no hw hl).1⟩
theorem tk_no (k : Nat) : (10 : UInt8) ∉ (tkS.getD k ([], 0)).1 ∧ (32 : UInt8) ∉ (tkS.getD k ([], 0)).1 := by
  by_cases h : k < 17
  · revert h; revert k; decide
  · rw [show tkS.getD k ([], 0) = ([], 0) by simp [List.getD, List.getElem?_eq_none (show tkS.length ≤ k by simp [tkS]; omega)]]; simp
theorem tk_func (k : Nat) (h : k < 17) : (tkS.getD k ([], 0)).1 ≠ [102, 117, 110, 99] := by revert h; revert k; decide
theorem tk_kind (k : Nat) (h : k < 17) : kindT (tkS.getD k ([], 0)).1 = some k := by revert h; revert k; decide
theorem step_fn (p : List Fn) {a b : Int} (ha : 0 ≤ a ∧ a ≤ 999) (hb : 0 ≤ b ∧ b ≤ 999) : stepT p (splitT 32 (lineW [102, 117, 110, 99] [a, b])) = some (p ++ [⟨a, b, []⟩]) := by
  rw [(lineW_split (wd := [102, 117, 110, 99]) (l := [a, b]) (by decide) (by simp; omega)).1]
  have hn : numsT ([a, b].map Lib.itoa) = some [a, b] := numsT_itoa (by simp; omega)
  simp only [stepT, hn, if_true]
  rfl
theorem step_op (q : List Fn) (f : Fn) {x : Int × Int} (h1 : 0 ≤ x.1 ∧ x.1 < 17) (h2 : 0 ≤ x.2 ∧ x.2 ≤ 999) (h3 : (tkS.getD x.1.toNat ([], 0)).2 = 0 → x.2 = 0) :
    stepT (q ++ [f]) (splitT 32 (opW x)) = some (q ++ [⟨f.args, f.locals, f.code ++ [x]⟩]) := by
  obtain ⟨k, a⟩ := x
  obtain ⟨k, rfl⟩ := Int.eq_ofNat_of_zero_le h1.1
  simp only [Int.toNat_natCast] at h3 ⊢
  have hk : k < 17 := by omega
  have key : ∀ l : List Int, (∀ z ∈ l, 0 ≤ z ∧ z ≤ 999) → l.length = (tkS.getD k ([], 0)).2 → l.getLastD 0 = a → stepT (q ++ [f]) (splitT 32 (lineW (tkS.getD k ([], 0)).1 l)) = some (q ++ [⟨f.args, f.locals, f.code ++ [((k : Int), a)]⟩]) := fun l hl hll hla => by
    rw [(lineW_split (tk_no k) (fun z hz => (hl z hz).1)).1]
    have ho : opOfT (tkS.getD k ([], 0)).1 l = some ((k : Int), a) := by
      unfold opOfT
      rw [tk_kind k hk]
      simp only [hll, if_true, hla]
    simp only [stepT, numsT_itoa hl, if_neg (tk_func k hk), if_neg (show ¬ (q ++ [f] = []) by simp), ho]
    simp [addOpT]
  unfold opW
  simp only [Int.toNat_natCast]
  by_cases h0 : (tkS.getD k ([], 0)).2 = 0
  · rw [if_pos h0]
    exact key [] (by simp) (by rw [h0]; rfl) (by rw [h3 h0]; rfl)
  · rw [if_neg h0]
    exact key [a] (by simpa using h2) (by have := tk_nums k; rw [List.length_singleton]; omega) rfl
theorem foldT_app : ∀ (xs ys : List (List UInt8)) (p q : List Fn), foldT p xs = some q → foldT p (xs ++ ys) = foldT q ys
  | [], ys, p, q, h => by cases h; rfl
  | x :: xs, ys, p, q, h => by
    rw [List.cons_append]
    cases hq : stepT p (splitT 32 x) with
    | none => simp only [foldT, hq] at h; cases h
    | some p' =>
      simp only [foldT, hq] at h ⊢
      exact foldT_app xs ys p' q h
theorem fold_ops (q : List Fn) (a b : Int) : ∀ (c c0 : List (Int × Int)), (∀ x ∈ c, (0 ≤ x.1 ∧ x.1 < 17) ∧ (0 ≤ x.2 ∧ x.2 ≤ 999) ∧ ((tkS.getD x.1.toNat ([], 0)).2 = 0 → x.2 = 0)) → foldT (q ++ [⟨a, b, c0⟩]) (c.map opW) = some (q ++ [⟨a, b, c0 ++ c⟩])
  | [], c0, _ => by simp [foldT]
  | x :: c, c0, h => by
    obtain ⟨h1, h2, h3⟩ := h x (by simp)
    have hs := step_op q ⟨a, b, c0⟩ h1 h2 h3
    simp only [List.map_cons, foldT, hs]
    rw [fold_ops q a b c (c0 ++ [x]) (fun y hy => h y (by simp [hy]))]
    simp
theorem fold_lines : ∀ (p q : List Fn), (∀ f ∈ p, (0 ≤ f.args ∧ f.args ≤ 4) ∧ (0 ≤ f.locals ∧ f.locals ≤ 4) ∧ f.code.length ≤ 24 ∧ ∀ x ∈ f.code, (0 ≤ x.1 ∧ x.1 < 17) ∧ (0 ≤ x.2 ∧ x.2 ≤ 999) ∧ ((tkS.getD x.1.toNat ([], 0)).2 = 0 → x.2 = 0)) → foldT q (linesOf p) = some (q ++ p)
  | [], q, _ => by simp [linesOf, foldT]
  | f :: p, q, h => by
    obtain ⟨h1, h2, _, h4⟩ := h f (by simp)
    have e : linesOf (f :: p) = (lineW [102, 117, 110, 99] [f.args, f.locals] :: f.code.map opW) ++ linesOf p := by simp [linesOf]
    have hs := step_fn q (a := f.args) (b := f.locals) (by omega) (by omega)
    have h5 : foldT q (lineW [102, 117, 110, 99] [f.args, f.locals] :: f.code.map opW) = some (q ++ [f]) := by
      simp only [foldT, hs]
      rw [fold_ops q f.args f.locals f.code [] h4]
      rfl
    rw [e, foldT_app _ _ _ _ h5, fold_lines p (q ++ [f]) (fun g hg => h g (by simp [hg]))]
    simp
theorem lines_no {p : List Fn} (h : OkT p) : ∀ x ∈ linesOf p, (10 : UInt8) ∉ x := by
  intro x hx
  obtain ⟨f, hf, hx⟩ := List.mem_flatMap.1 hx
  obtain ⟨h1, h2, _, h4⟩ := h.fn f hf
  rcases List.mem_cons.1 hx with rfl | hx
  · exact (lineW_split (by decide) (by simp; omega)).2
  · obtain ⟨y, hy, rfl⟩ := List.mem_map.1 hx
    obtain ⟨_, h6, _⟩ := h4 y hy
    unfold opW
    split
    · exact (lineW_split (tk_no _) (by simp)).2
    · exact (lineW_split (tk_no _) (by simp; omega)).2
theorem whole_of_show {p : List Fn} (h : OkT p) : wholeT (showT p) = some p := by
  have hf := fold_lines p [] h.fn
  simp only [List.nil_append] at hf
  unfold wholeT
  have hl : linesT (showT p) = some (linesOf p) := by
    rw [show_lines]
    by_cases h0 : linesOf p = []
    · rw [h0]; rfl
    · rw [flat_join 10 h0]
      unfold linesT
      rw [if_neg (by simp), if_pos (by simp), List.dropLast_concat, split_join h0 (lines_no h)]
  rw [hl]
  exact hf
theorem itoa_few {z : Int} (h : 0 ≤ z ∧ z ≤ 999) : (Lib.itoa z).length ≤ 3 := by
  have hi : Lib.itoa z = Lib.decDigits z.toNat := by unfold Lib.itoa; rw [if_neg (by omega)]
  rw [hi]
  exact dec_len z.toNat 3 (by omega) (by omega)
theorem line_few (wd : List UInt8) (l : List Int) (h : wd.length ≤ 6) (hl : l.length ≤ 2) (hz : ∀ z ∈ l, 0 ≤ z ∧ z ≤ 999) : (lineT wd l).length ≤ 22 := by
  have := join_len (wd :: l.map Lib.itoa) 6 (fun x hx => by
    rcases List.mem_cons.1 hx with rfl | hx
    · exact h
    · obtain ⟨z, hz', rfl⟩ := List.mem_map.1 hx
      have := itoa_few (hz z hz')
      omega)
  simp only [List.length_cons, List.length_map] at this
  have h2 : (l.length + 1) * (6 + 1) ≤ 3 * 7 := Nat.mul_le_mul (by omega) (by omega)
  simp only [lineT, List.length_append, List.length_cons, List.length_nil]
  omega
theorem show_len {p : List Fn} (h : OkT p) : (showT p).length ≤ 8192 := by
  have hf : ∀ f ∈ p, (fnT f).length ≤ 550 := fun f hf => by
    obtain ⟨h1, h2, h3, h4⟩ := h.fn f hf
    have q1 := line_few [102, 117, 110, 99] [f.args, f.locals] (by simp) (by simp) (by simp; omega)
    have q2 := flatT_len opT 22 f.code (fun x hx => by
      have := tk_len x.1.toNat
      unfold opT
      split
      · exact line_few _ _ (by omega) (by simp) (by simp)
      · exact line_few _ _ (by omega) (by simp) (by simp; exact (h4 x hx).2.1))
    have : f.code.length * 22 ≤ 24 * 22 := Nat.mul_le_mul_right _ h3
    simp only [fnT, List.length_append]
    omega
  have := flatT_len fnT 550 p hf
  have h6 : p.length * 550 ≤ 5 * 550 := Nat.mul_le_mul_right _ h.len
  unfold showT
  omega
theorem read_show {p : List Fn} (h : progS p = 0) : readR (showT p) = (p, 0) := by
  unfold readR
  rw [if_pos (show_len (right_okT h)), whole_of_show (right_okT h)]
  simp only [h, if_true]
open Go.RowKit Go.Maps
def showR (p : List Fn) : List UInt8 × Int := if progS p = 0 then (showT p, 0) else ([], progS p)
theorem show_no (w : World) (p : List Fn) (vp : Value) (hp : ProgAt w vp p) (hk : KindsAt w) (hz : progS p ≠ 0) :
    Calls Tryz.prog 9 #[vp] w fun e w' => e = .returned (.tuple #[.string ⟨#[]⟩, .int .i64 (progS p)]) ∧ Kept w w' := by
  have HC := hide (progCheck_any p vp w hp hk)
  obtain ⟨oa, cap, rfl, _⟩ := hp
  generalize progS p = er at *
  generalize p.length = n at *
  have hz2 : (er == 0) = false := by simpa using hz
  clear hk
  go_enter Tryz.func9, Tryz.ntmps9
  go_wp2_with fail
  refine (unhide HC).mono ?_
  rintro _ w1 ⟨rfl, k1⟩
  have HK := hide k1
  clear k1 HC
  go_wp2_with fail
  go_ret2
  exact ⟨rfl, unhide HK⟩
theorem show_any (w : World) (p : List Fn) (vp : Value) (hp : ProgAt w vp p) (he : EnvT w) (hk : KindsAt w) :
    Calls Tryz.prog 9 #[vp] w fun e w' => e = .returned (.tuple #[.string ⟨(showR p).1.toArray⟩, .int .i64 (showR p).2]) ∧ Kept w w' := by
  unfold showR
  by_cases hz : progS p = 0
  · rw [if_pos hz]
    have HC := progCheck_any p vp w hp hk
    rw [hz] at HC
    exact show_ok w p vp hp (right_okT hz) he.tab he.kinds (hide HC)
  · rw [if_neg hz]
    exact show_no w p vp hp hk hz
theorem ints_slice {w : World} {v : Value} {l : List Int} (h : IntsAt w v l) : ∃ oa n cap, v = .slice oa n cap ∧ IntsW w (.slice oa n cap) l := by
  have hw := h.wide
  obtain ⟨oa, cap, rfl, _⟩ := id hw
  exact ⟨oa, _, cap, rfl, hw⟩
theorem playH (w : World) (p : List Fn) (hz : progS p = 0) (hE : EnvT w) (hk : KindsAt w) : PlayH w p (opsOf p) (RgD p) := by
  refine ⟨fun u D vp s hu hD hp hd hr => ?_, fun u vp hu hp => begin_st p vp u hp (hk.kept hu) hz, ⟨begin_right hz, NumI.begin p⟩, fun s ws hr => ?_, fun s ws z hr hq => ?_, fun s ws hr => ?_⟩
  · have hT : ∀ u', Kept u u' → TabW u' := fun u' h' => hE.tab.kept (hu.trans h')
    have hK : ∀ u', Kept u u' → KindsAt u' := fun u' h' => hk.kept (hu.trans h')
    have hCK : ∀ u' v, Kept u u' → StAt u' v s → Hid (∀ x, ProgAt x vp p → StAt x v s → KindsAt x → Calls Tryz.prog 59 #[vp, v] x fun e w' => e = .returned (.int .i64 (stErrS p s)) ∧ Kept x w') := fun u' v _ _ => hide fun x h1 h2 h3 => stCheck_any p s vp v x h1 h2 h3
    have hlim := right_lims hr.1
    refine ⟨fun u' h' => ?_, fun u' h' => ?_, fun u' h' => ?_, fun u' h' => ?_, fun u' h' => ?_, fun u' n h' => ?_, fun u' n h' => ?_, hd, hE.tab.kept hu, hE.errs.kept hu⟩
    · exact dOut u' D vp s (hd.kept h') ⟨by omega, hr.2.out⟩ (hT u' h')
    · refine dLine u' D vp s (lineC p s) (hd.kept h') (line_tell hr.1) (hT u' h') (hide fun x v hx hs => ?_)
      refine (chainLine_any p s vp v x (hp.kept (h'.trans hx)) hs (hK x (h'.trans hx)) (hCK x v (h'.trans hx) hs)).mono ?_
      rintro e w' ⟨v', rfl, h2, h3⟩
      obtain ⟨oa, n, cap, rfl, h4⟩ := ints_slice h2
      exact ⟨oa, n, cap, by rw [hr.1], h4, h3⟩
    · refine dKinds u' D vp s (fun k => kindC p s k) (hd.kept h') (by omega) (fun k => kind_tell p s k) (hT u' h') (hide fun x v k hx hs hkk => ?_)
      have := chainKind_any p s (k : Int) vp v x (hp.kept (h'.trans hx)) hs (hK x (h'.trans hx)) (hCK x v (h'.trans hx) hs)
      have he : kindE p s (k : Int) = (kindC p s k, 0) := by
        unfold kindE
        rw [if_pos hr.1, if_pos ⟨by omega, by omega⟩, Int.toNat_natCast]
      rwa [he] at this
    · refine dTrim u' D vp s (taS p) (hd.kept h') (trim_q hz) (hT u' h') (hide fun x hx => ?_)
      refine (trimAll_any p vp x (hp.kept (h'.trans hx)) (hK x (h'.trans hx))).mono ?_
      rintro e w' ⟨v', rfl, h2, h3⟩
      obtain ⟨oa, cap, rfl, _⟩ := id h2
      exact ⟨oa, _, cap, by rw [hz], h2, h3⟩
    · exact dAgain u' D vp s (beginS p) (hd.kept h') (hide fun x hx => begin_st p vp x (hp.kept (h'.trans hx)) (hK x (h'.trans hx)) hz)
    · obtain ⟨he, hkk⟩ := rn_err hr.1 n
      have hI : I64 (rnS p s n).2.2 := by
        unfold ErrN at he
        unfold I64
        omega
      refine (dStep u' D vp s (rnS p s n).1 n (rnS p s n).2.1 (rnS p s n).2.2 (hd.kept h') (by unfold I64; omega) hI (fun x hx => hE.tab.kept (KeptX.kept (hu.trans h') hD hx)) (hide fun x v hx hs => run_st p s vp v n x (hp.kept (h'.trans hx)) hs (hK x (h'.trans hx)) hr)).mono ?_
      rintro e w' ⟨h3, h4⟩
      unfold withD
      rw [if_pos rfl]
      by_cases e3 : ((opsOf p).run s n).2.2 = 3
      · rw [if_pos e3]; exact h3 e3
      · rw [if_neg e3]; exact h4 e3
    · have hg := hgt_tell hz n
      have HL : ∀ x, Kept u' x → Calls Tryz.prog 57 #[vp, .int .i64 n] x (NumsP (hgtS p n).1 (hgtS p n).2 x) := fun x hx => by
        refine (heights_any p vp n x (hp.kept (h'.trans hx)) (hK x (h'.trans hx))).mono ?_
        rintro e w' ⟨v', rfl, h2, h3⟩
        obtain ⟨oa, m, cap, rfl, h4⟩ := ints_slice h2
        exact ⟨oa, m, cap, rfl, h4, h3⟩
      have h0 := HL u' (Kept.refl u')
      have hne : ([104, 101, 105, 103, 104, 116, 115] : List UInt8) ≠ [115, 116, 101, 112] := by decide
      unfold withD
      rw [if_neg hne, if_pos rfl]
      by_cases e3 : ((opsOf p).hgt n).2 = 0
      · rw [if_pos e3]
        have e3' : (hgtS p n).2 = 0 := e3
        rw [e3'] at h0
        exact dHeights u' D vp s n (hgtS p n).1 (hd.kept h') hg.1 (hT u' h') (hide h0)
      · rw [if_neg e3]
        exact dHeights_no u' D vp s n (hgtS p n).2 (hgtS p n).1 (hd.kept h') e3 (hide h0)
  · have := do_facts hz hr ws
    unfold ansD
    cases hq : doD (opsOf p) s ws with
    | inl x => rw [hq] at this; exact this.1
    | inr z => exact hr
  · have := do_facts hz hr ws
    rw [hq] at this
    exact this
  · have := do_facts hz hr ws
    unfold ansD
    cases hq : doD (opsOf p) s ws with
    | inl x =>
      rw [hq] at this
      obtain ⟨_, h1, h2⟩ := this
      obtain ⟨s', l⟩ := x
      by_cases h0 : l = []
      · simp [h0, Lib.join_one]
      · simp only [if_neg h0]
        have h2' : (Lib.join l [32]).length ≤ 90000 := h2
        refine ⟨h1, by omega, ?_⟩
        cases l with
        | nil => exact absurd rfl h0
        | cons => simp
    | inr z =>
      rw [hq] at this
      have hf := fault_few z this
      exact ⟨by simp only; omega, by simp only; omega, by simp [faultD]⟩
theorem play_right (w : World) (p : List Fn) (T : List UInt8) (ls : List (List UInt8)) (hz : progS p = 0) (hE : EnvT w) (hk : KindsAt w) (hT : T.length ≤ 8192) (hc : Lib.countByte T 10 ≤ 40) (hls : linesT T = some ls) :
    Calls Tryz.prog 5 #[.string ⟨(showT p).toArray⟩, .string ⟨T.toArray⟩] w fun e w' => e = .returned (.tuple #[.string ⟨(linesD (opsOf p) (beginS p) ls).2.toArray⟩, .int .i64 0]) ∧ Kept w w' := by
  refine play_ok w (showT p) T p (opsOf p) (RgD p) ls hE (playH w p hz hE hk) (hide fun u hu => ?_) hT hc hls
  exact (read_any u (showT p) (hE.kept hu) (hk.kept hu)).mono fun _ _ ⟨oa, n, cap, h1, _, h3, h4, _⟩ => by
    rw [read_show hz] at h1 h3
    exact ⟨oa, n, cap, h1, h3, h4⟩
open Go.RowKit
def allS (p : List Fn) (fuel : Int) : List Int × Nat × Int :=
  if inB fuel 0 500 = true then if progS p = 0 then ((rnS p (beginS p) fuel).1.out, (rnS p (beginS p) fuel).2.1, (rnS p (beginS p) fuel).2.2) else ([], 0, progS p) else ([], 0, 3)
def AlPost (r : List Int × Nat × Int) (w : World) (e : Ending) (w' : World) : Prop :=
  ∃ v, e = .returned (.tuple #[v, .int .i64 r.2.1, .int .i64 r.2.2]) ∧ w'.ownsRow w.heap.size 3 1 v r.1.length (ints r.1) ∧ Kept w w'
theorem all_far (vp : Value) (fuel : Int) (w : World) (hin : inB fuel 0 500 = false) : Calls Tryz.prog 10 #[vp, .int .i64 fuel] w (AlPost ([], 0, 3) w) := by
  go_enter Tryz.func10, Tryz.ntmps10
  go_wp2_with (go_at_call 28; refine (isFuel_any _ _).mono ?_; rw [hin]; rintro e w' ⟨rfl, rfl⟩)
  refine bodyPost_ret (v := .tuple #[.slice none 0 0, .int .i64 0, .int .i64 3]) (by simp [results, Tryz.results10, go_sem]) rfl ?_
  exact ⟨_, rfl, World.ownsRow_nil _ _ _ _, Kept.refl _⟩
theorem all_bad (vp : Value) (fuel : Int) (w : World) (er : Int) (he : er ≠ 0) (hin : inB fuel 0 500 = true)
    (HB : Hid (Calls Tryz.prog 29 #[vp] w fun e w' => ∃ v, e = .returned (.tuple #[v, .int .i64 er]) ∧ (∃ oa n cap c oo m co, v = .agg #[.slice oa n cap, .int .i64 c, .slice oo m co]) ∧ Kept w w')) : Calls Tryz.prog 10 #[vp, .int .i64 fuel] w (AlPost ([], 0, er) w) := by
  go_enter Tryz.func10, Tryz.ntmps10
  go_wp2_with (first | (go_at_call 28; refine (isFuel_any _ _).mono ?_; rw [hin]; rintro e w' ⟨rfl, rfl⟩) | (go_at_call 29; refine (unhide HB).mono ?_; rintro e w1 ⟨v, rfl, ⟨oa, n, cap, c, oo, m, co, rfl⟩, hk1⟩; have HK1 := hide hk1; clear hk1 HB))
  refine bodyPost_ret (v := .tuple #[.slice none 0 0, .int .i64 0, .int .i64 er]) (by simp [results, Tryz.results10, go_sem]) rfl ?_
  exact ⟨_, rfl, World.ownsRow_nil _ _ _ _, (unhide HK1).alloc _⟩
theorem all_go (s : St) (r : St × Nat × Int) (vp : Value) (fuel : Int) (w : World) (hin : inB fuel 0 500 = true)
    (HB : Hid (Calls Tryz.prog 29 #[vp] w fun e w' => ∃ v, e = .returned (.tuple #[v, .int .i64 0]) ∧ StAt w' v s ∧ Kept w w'))
    (HRU : Hid (∀ u v, Kept w u → StAt u v s → Calls Tryz.prog 30 #[vp, v, .int .i64 fuel] u (RnPost r u))) : Calls Tryz.prog 10 #[vp, .int .i64 fuel] w (AlPost (r.1.out, r.2.1, r.2.2) w) := by
  go_enter Tryz.func10, Tryz.ntmps10
  go_wp2_with (go_at_call 28; refine (isFuel_any _ _).mono ?_; rw [hin]; rintro e w' ⟨rfl, rfl⟩; refine unhide ?_)
  refine hide ?_
  go_wp2_with fail
  refine (unhide HB).mono ?_
  rintro e w1 ⟨v, rfl, hs, hk1⟩
  have HS := hide hs
  obtain ⟨vf, vo, rfl, ⟨oa, cap, rfl, _, _⟩, ⟨oo, co, rfl, _, _⟩⟩ := hs
  have hgo := fun o => (unhide HRU) (w1.alloc o) _ (hk1.alloc o) ((unhide HS).kept ((Kept.refl w1).alloc o))
  have HGO := hide hgo
  have HK1 := hide hk1
  clear hgo hk1 HB HRU HS
  generalize s.fibers.length = N at *
  generalize s.out.length = M at *
  generalize s.now = c at *
  go_wp2_with fail
  refine ((unhide HGO) _).mono ?_
  rintro e w2 ⟨V, rfl, ho, hk2⟩
  obtain ⟨xs, hr, _⟩ := ho.piece .fibers trivial
  obtain ⟨o1, c1, e1, _⟩ := row_slice hr
  have hr2 : World.ownsRow _ _ _ _ _ _ _ := ho.piece .out trivial
  obtain ⟨o2, c2, e2, _⟩ := row_slice hr2
  have l2 := lays_kept hk2 (lays_new (w := w1) (o := .cells #[.slice oa N cap, .int .i64 c, .slice oo M co] 44) rfl)
  have a0 := cell_lays l2 0
  have a1 := cell_lays l2 1
  have a2 := cell_lays l2 2
  have f0 := frozen_lays l2 0
  have f1 := frozen_lays l2 1
  have f2 := frozen_lays l2 2
  have hz : (w1.alloc (.cells #[.slice oa N cap, .int .i64 c, .slice oo M co] 44)).heap.size = w1.heap.size + 1 := by simp
  have hne : (V .out).ownBlock ≠ some w1.heap.size := fun e => by have := (hr2.lt _ e).1; omega
  have t2 := ownsRow_setCell_other (ownsRow_setCell_other (ownsRow_setCell_other (row_base (base := w.heap.size) hr2 (by have := (unhide HK1).size; omega)) (a := ⟨w1.heap.size, 0, none⟩) hne (V .fibers)) (a := ⟨w1.heap.size, 1, none⟩) hne (.int .i64 r.1.now)) (a := ⟨w1.heap.size, 2, none⟩) hne (V .out)
  have hk5 := (((((unhide HK1).alloc (.cells #[.slice oa N cap, .int .i64 c, .slice oo M co] 44)).trans hk2).setCell (p := ⟨w1.heap.size, 0, none⟩) (unhide HK1).size (V .fibers)).setCell (p := ⟨w1.heap.size, 1, none⟩) (unhide HK1).size (.int .i64 r.1.now)).setCell (p := ⟨w1.heap.size, 2, none⟩) (unhide HK1).size (V .out)
  rw [e1, e2] at t2 hk5 ⊢
  have HT := hide (And.intro t2 hk5)
  clear t2 hk5 hz hne hr hr2 e1 e2 l2 ho hk2 HGO HK1
  generalize hL : r.1.out.length = L at *
  generalize r.1.fibers.length = N1 at *
  generalize r.1.now = rn at *
  go_wp2
  refine bodyPost_ret (v := .tuple #[.slice o2 L c2, .int .i64 r.2.1, .int .i64 r.2.2]) (by simp [results, Tryz.results10, go_sem]) rfl ?_
  exact ⟨_, rfl, by rw [hL]; exact (unhide HT).1, (unhide HT).2⟩
theorem runAll_any (p : List Fn) (vp : Value) (fuel : Int) (w : World) (hp : ProgAt w vp p) (hkd : KindsAt w) : Calls Tryz.prog 10 #[vp, .int .i64 fuel] w (AlPost (allS p fuel) w) := by
  have HB := stBegin_any p vp w hp hkd
  unfold allS
  by_cases hin : inB fuel 0 500 = true
  · rw [if_pos hin]
    by_cases h0 : progS p = 0
    · rw [if_pos h0]
      refine all_go (beginS p) _ vp fuel w hin (hide (HB.mono ?_)) (hide (fun u v hu hs => runRun_any p _ vp v fuel u (hp.kept hu) hs (hkd.kept hu)))
      rintro e w' ⟨v, rfl, hs, hk⟩
      rw [if_pos h0] at hs
      exact ⟨v, by rw [h0], hs, hk⟩
    · rw [if_neg h0]
      refine all_bad vp fuel w _ h0 hin (hide (HB.mono ?_))
      rintro e w' ⟨v, rfl, hs, hk⟩
      obtain ⟨vf, vo, rfl, ⟨oa, cap, rfl, _, _⟩, ⟨oo, co, rfl, _, _⟩⟩ := hs
      exact ⟨_, rfl, ⟨_, _, _, _, _, _, _, rfl⟩, hk⟩
  · rw [if_neg hin]
    exact all_far vp fuel w (by simpa using hin)
end Go.Proofs.YtokhibfenccijaaGreatDoor
namespace Go.Proofs.YtokhibfenccijaaGreatDoor
open Go.RowKit Go.ChangeShapes Go.WideShapes Go.ChangeAt
theorem own : ownKnob Tryz.prog.godebug = none := by kernel_rfl
theorem laidOut : laidOutB Tryz.prog = true := by kernel_rfl
theorem cellsInt : Tryz.prog.cellsOf 3 = 1 := by kernel_rfl
theorem reach_eq : reachBytes = 140737488351232 := rfl
section
variable {H : Type} {enc : TypeId × Value → H} {w : World} {base : Nat} {spare : Nat → Bool} {held : Bool}
theorem spot_none {a : Addr} {v : Value} (h : w.cell? a = some v) : a.spot = none := by
  unfold World.cell? at h
  split at h
  · split at h
    · cases h
    · rename_i hs; simpa using hs
  · cases h
theorem add_of_spot {a : Addr} (h : a.spot = none) (n : Nat) : a.add n = ⟨a.block, a.off + n, none⟩ := by
  unfold Addr.add
  split
  · rename_i e; subst e; cases a; simp_all
  · rfl
theorem weightsAll_mem {P : Program} {e : TypeId} : ∀ {l : List (DataW H)} {d : DataW H}, d ∈ l → ∀ n ∈ d.weights P e, n ∈ DataW.weightsAll P e l
  | d' :: r, d, hd, n, hn => by
    simp only [DataW.weightsAll, List.mem_append]
    rcases List.mem_cons.1 hd with rfl | h
    · exact Or.inl hn
    · exact Or.inr (weightsAll_mem h n hn)
end
theorem trodAll_below {H : Type} {enc : TypeId × Value → H} {W W' : World} (hb : Kept W W') : ∀ {ts : List TypeId} {vs : List Value} {ds : List (DataW H)} {ps : List MemPlace}, (∀ t, t ∈ ts → Tryz.prog.readableRec t = true ∧ t < Tryz.prog.types.size) →
    DataW.TrodAll enc Tryz.prog W 0 (fun _ => true) true ts vs ds ps → (∀ x, x ∈ ps → x.block < W.heap.size) → DataW.TrodAll enc Tryz.prog W' 0 (fun b => decide (b < W.heap.size)) true ts vs ds ps
  | [], vs, ds, ps, _, h, _ => by
    obtain ⟨rfl, rfl, rfl⟩ := trodAll_nil h
    exact trodAll_mk0
  | t :: ts, vs, ds, ps, hr, h, hl => by
    obtain ⟨v, vs', d, ds', p, q, rfl, rfl, rfl, h0, h1⟩ := trodAll_cons h
    obtain ⟨r1, r2⟩ := hr t (by simp)
    exact trodAll_cons_mk (Below.trod laidOut r1 r2 h0 hb (fun x hx => hl x (by simp [hx]))) (trodAll_below hb (fun t ht => hr t (by simp [ht])) h1 (fun x hx => hl x (by simp [hx])))
end Go.Proofs.YtokhibfenccijaaGreatDoor
namespace Go.Proofs.YtokhibfenccijaaGreatDoor
open Go.RowKit Go.ChangeShapes Go.WideShapes Go.ChangeAt
theorem cellsOp : Tryz.prog.cellsOf 72 = 2 := by kernel_rfl
theorem cellsOps : Tryz.prog.cellsOf 67 = 1 := by kernel_rfl
theorem cellsFunc : Tryz.prog.cellsOf 69 = 3 := by kernel_rfl
theorem cellsKind : Tryz.prog.cellsOf 154 = 3 := by kernel_rfl
theorem bytesOp : Tryz.prog.bytesOf 72 = 16 := by kernel_rfl
theorem bytesFunc : Tryz.prog.bytesOf 69 = 40 := by kernel_rfl
theorem typeOp : ∃ f0 f1 : Field, Tryz.prog.underlying 72 = some (.struct #[f0, f1]) ∧ f0.type = 3 ∧ f0.offset = 0 ∧ f1.type = 3 ∧ f1.offset = 1 := ⟨_, _, Tryz.underlying72, rfl, rfl, rfl, rfl⟩
theorem typeFunc : ∃ f0 f1 f2 : Field, Tryz.prog.underlying 69 = some (.struct #[f0, f1, f2]) ∧ f0.type = 3 ∧ f0.offset = 0 ∧ f1.type = 3 ∧ f1.offset = 1 ∧ f2.type = 67 ∧ f2.offset = 2 := ⟨_, _, _, Tryz.underlying69, rfl, rfl, rfl, rfl, rfl, rfl⟩
theorem typeKind : ∃ f0 f1 f2 : Field, Tryz.prog.underlying 154 = some (.struct #[f0, f1, f2]) ∧ f0.type = 3 ∧ f0.offset = 0 ∧ f1.type = 3 ∧ f1.offset = 1 ∧ f2.type = 3 ∧ f2.offset = 2 := ⟨_, _, _, Tryz.underlying154, rfl, rfl, rfl, rfl, rfl, rfl⟩
section
variable {H : Type} {enc : TypeId × Value → H} {w : World} {base : Nat} {spare : Nat → Bool} {held : Bool}
theorem trod_op {fuel : Nat} {cs : List Value} {x : DataW H × List MemPlace} (h : DataW.trod enc Tryz.prog w base spare held fuel 72 cs = some x) :
    ∃ k a : Int, cs = [.int .i64 k, .int .i64 a] ∧ x = (.agg [.lit (.int .i64 k), .lit (.int .i64 a)], []) ∧ (Lit.int .i64 k).wf = true ∧ (Lit.int .i64 a).wf = true := by
  obtain ⟨f0, f1, hu, t0, o0, t1, o1⟩ := typeOp
  obtain ⟨y0, y1, n, hx, hl, h0, h1⟩ := trod_struct2 hu h
  rw [t0, o0, cellsInt] at h0
  rw [t1, o1, cellsInt] at h1
  obtain ⟨k, e0, r0, w0⟩ := DataW.trod_int Tryz.underlying3 h0
  obtain ⟨a, e1, r1, w1⟩ := DataW.trod_int Tryz.underlying3 h1
  rw [cellsOp] at hl
  match cs, hl with
  | [c0, c1], _ =>
    simp at e0 e1
    subst e0 e1
    subst r0 r1
    exact ⟨k, a, rfl, by simpa using hx, w0, w1⟩
theorem open_code {fuel : Nat} {v : Value} {x : DataW H × List MemPlace} (h : DataW.trod enc Tryz.prog w base spare held fuel 67 [v] = some x) (hw : ∀ n, n ∈ x.1.weights Tryz.prog 67 → n ≤ reachBytes) : ∃ c, CodeAt w v c := by
  rcases Deep.open_slice Tryz.underlying67 h with ⟨e, _⟩ | ⟨a, len, cap, m, n, D, Pl, e, _, hlc, _, hm, hx, hi⟩
  · simp at e
    subst e
    exact ⟨[], none, 0, rfl, by simp, fun i x h => by simp at h⟩
  · simp at e
    subst e
    have hlm : len ≤ m := by rw [hm]; split <;> omega
    have hlen : len * 16 ≤ 140737488351232 := by
      have := hw ((((List.range len).map D).length + ((List.range (m - len)).map fun j => D (len + j)).length) * Tryz.prog.bytesOf 72) (by rw [hx]; simp [DataW.weights, Tryz.underlying67])
      rw [bytesOp, reach_eq] at this
      simp at this
      omega
    have hall : ∀ i, i < len → ∃ y : Int × Int, w.cell? (a.add (i * 2)) = some (.int .i64 y.1) ∧ w.cell? (a.add (i * 2 + 1)) = some (.int .i64 y.2) := by
      intro i hil
      obtain ⟨cs', hc, ht⟩ := hi i (by omega)
      rw [cellsOp] at hc
      obtain ⟨_, _, hcell⟩ := World.cells?_some hc
      obtain ⟨k, av, rfl, _⟩ := trod_op ht
      refine ⟨(k, av), ?_, ?_⟩
      · have := hcell 0 (by omega); rw [Deep.add_add] at this; simpa using this
      · have := hcell 1 (by omega); rw [Deep.add_add] at this; simpa using this
    obtain ⟨g, hg⟩ := Deep.choose_lt hall
    refine ⟨(List.range len).map g, some a, cap, by simp, by simp; omega, fun i y hy => ?_⟩
    rw [List.getElem?_map, Option.map_eq_some_iff] at hy
    obtain ⟨j, hj, rfl⟩ := hy
    have hjl : i < len := by simpa using (List.getElem?_eq_some_iff.1 hj).1
    obtain rfl : i = j := by simpa [hjl] using hj
    have hs : a.spot = none := by
      have := (hg 0 (by omega)).1
      simp only [Nat.zero_mul] at this
      exact spot_none (by simpa [Addr.add] using this)
    refine ⟨a.block, a.off, by cases a; simp_all, ?_, ?_⟩
    · have := (hg i hjl).1; rwa [add_of_spot hs] at this
    · have := (hg i hjl).2; rwa [add_of_spot hs, ← Nat.add_assoc] at this
theorem open_prog {fuel : Nat} {v : Value} {x : DataW H × List MemPlace} (h : DataW.trod enc Tryz.prog w base spare held fuel 27 [v] = some x) (hw : ∀ n, n ∈ x.1.weights Tryz.prog 27 → n ≤ reachBytes) : ∃ p, ProgAt w v p := by
  rcases Deep.open_slice Tryz.underlying27 h with ⟨e, _⟩ | ⟨a, len, cap, m, n, D, Pl, e, _, hlc, _, hm, hx, hi⟩
  · simp at e
    subst e
    exact ⟨[], none, 0, rfl, by simp, fun i x h => by simp at h⟩
  · simp at e
    subst e
    have hlm : len ≤ m := by rw [hm]; split <;> omega
    have hlen : len * 40 ≤ 140737488351232 := by
      have := hw ((((List.range len).map D).length + ((List.range (m - len)).map fun j => D (len + j)).length) * Tryz.prog.bytesOf 69) (by rw [hx]; simp [DataW.weights, Tryz.underlying27])
      rw [bytesFunc, reach_eq] at this
      simp at this
      omega
    have hall : ∀ i, i < len → ∃ y : Fn × Value, w.cell? (a.add (i * 3)) = some (.int .i64 y.1.args) ∧ w.cell? (a.add (i * 3 + 1)) = some (.int .i64 y.1.locals) ∧ w.cell? (a.add (i * 3 + 2)) = some y.2 ∧ CodeAt w y.2 y.1.code := by
      intro i hil
      obtain ⟨cs', hc, ht⟩ := hi i (by omega)
      rw [cellsFunc] at hc
      obtain ⟨_, hcl, hcell⟩ := World.cells?_some hc
      obtain ⟨f0, f1, f2, hu, t0, o0, t1, o1, t2, o2⟩ := typeFunc
      obtain ⟨y0, y1, y2, n', hy, _, g0, g1, g2⟩ := Deep.trod_struct3 hu ht
      rw [t0, o0, cellsInt] at g0
      rw [t1, o1, cellsInt] at g1
      rw [t2, o2, cellsOps] at g2
      obtain ⟨ar, e0, r0, _⟩ := DataW.trod_int Tryz.underlying3 g0
      obtain ⟨lo, e1, r1, _⟩ := DataW.trod_int Tryz.underlying3 g1
      match cs', hcl with
      | [c0, c1, c2], _ =>
        simp at e0 e1
        subst e0 e1
        simp only [List.drop, List.take] at g2
        have hD : D i = .agg [y0.1, y1.1, y2.1] := congrArg Prod.fst hy
        obtain ⟨c, hcode⟩ := open_code g2 (fun q hq => hw q (by
          rw [hx]
          simp only [DataW.weights, Tryz.underlying27, List.mem_cons, List.mem_append]
          refine Or.inr (Or.inl (weightsAll_mem (d := D i) (List.mem_map.2 ⟨i, by simpa using hil, rfl⟩) q ?_))
          rw [hD]
          simp only [DataW.weights, hu, DataW.weightsEach, List.map_cons, List.map_nil, t0, t1, t2, List.mem_append]
          exact Or.inr (Or.inr (Or.inl hq))))
        refine ⟨(⟨ar, lo, c⟩, c2), ?_, ?_, ?_, hcode⟩
        · have := hcell 0 (by omega); rw [Deep.add_add] at this; simpa using this
        · have := hcell 1 (by omega); rw [Deep.add_add] at this; simpa using this
        · have := hcell 2 (by omega); rw [Deep.add_add] at this; simpa using this
    have : Inhabited (Fn × Value) := ⟨(Fn.zero, .nilIface)⟩
    obtain ⟨g, hg⟩ := Deep.choose_lt hall
    refine ⟨(List.range len).map fun i => (g i).1, some a, cap, by simp, by simp; omega, fun i y hy => ?_⟩
    rw [List.getElem?_map, Option.map_eq_some_iff] at hy
    obtain ⟨j, hj, rfl⟩ := hy
    have hjl : i < len := by simpa using (List.getElem?_eq_some_iff.1 hj).1
    obtain rfl : i = j := by simpa [hjl] using hj
    have hs : a.spot = none := by
      have := (hg 0 (by omega)).1
      simp only [Nat.zero_mul] at this
      exact spot_none (by simpa [Addr.add] using this)
    obtain ⟨k0, k1, k2, k3⟩ := hg i hjl
    refine ⟨a.block, a.off, (g i).2, by cases a; simp_all, ?_, ?_, ?_, k3⟩
    · rwa [add_of_spot hs] at k0
    · rwa [add_of_spot hs, ← Nat.add_assoc] at k1
    · rwa [add_of_spot hs, ← Nat.add_assoc] at k2
end
theorem gKinds : Tryz.prog.globalNamed "glebe/op.kinds" = some 2 := by kernel_rfl
theorem gKindsType : (Tryz.prog.globals[2]?).map (·.type) = some 155 := by kernel_rfl
theorem laid_at {H : Type} (i : Nat) (h : i < 17) : ([.agg [.lit (.int .i64 0), .lit (.int .i64 1), .lit (.int .i64 1)], .agg [.lit (.int .i64 1), .lit (.int .i64 0), .lit (.int .i64 0)], .agg [.lit (.int .i64 0), .lit (.int .i64 1), .lit (.int .i64 2)], .agg [.lit (.int .i64 1), .lit (.int .i64 0), .lit (.int .i64 2)], .agg [.lit (.int .i64 2), .lit (.int .i64 1), .lit (.int .i64 0)], .agg [.lit (.int .i64 2), .lit (.int .i64 1), .lit (.int .i64 0)], .agg [.lit (.int .i64 2), .lit (.int .i64 1), .lit (.int .i64 0)], .agg [.lit (.int .i64 2), .lit (.int .i64 1), .lit (.int .i64 0)], .agg [.lit (.int .i64 2), .lit (.int .i64 1), .lit (.int .i64 0)], .agg [.lit (.int .i64 0), .lit (.int .i64 0), .lit (.int .i64 3)], .agg [.lit (.int .i64 1), .lit (.int .i64 0), .lit (.int .i64 3)], .agg [.lit (.int .i64 0), .lit (.int .i64 1), .lit (.int .i64 4)], .agg [.lit (.int .i64 1), .lit (.int .i64 0), .lit (.int .i64 0)], .agg [.lit (.int .i64 0), .lit (.int .i64 1), .lit (.int .i64 4)], .agg [.lit (.int .i64 2), .lit (.int .i64 1), .lit (.int .i64 0)], .agg [.lit (.int .i64 1), .lit (.int .i64 1), .lit (.int .i64 0)], .agg [.lit (.int .i64 1), .lit (.int .i64 0), .lit (.int .i64 0)]] : List (DataW H))[i]? = some (.agg [.lit (.int .i64 (tk i)), .lit (.int .i64 (lv i)), .lit (.int .i64 (opd i))]) := by
  have : i = 0 ∨ i = 1 ∨ i = 2 ∨ i = 3 ∨ i = 4 ∨ i = 5 ∨ i = 6 ∨ i = 7 ∨ i = 8 ∨ i = 9 ∨ i = 10 ∨ i = 11 ∨ i = 12 ∨ i = 13 ∨ i = 14 ∨ i = 15 ∨ i = 16 := by omega
  rcases this with rfl | rfl | rfl | rfl | rfl | rfl | rfl | rfl | rfl | rfl | rfl | rfl | rfl | rfl | rfl | rfl | rfl <;> rfl
theorem kinds_of_laid {W : World} (h : laidMetH Tryz.prog [("glebe/op.kinds", Rows.laid_glebe_op_kinds)] W) : KindsAt W := by
  obtain ⟨ps, ⟨g', t', cs, fuel, p, q, hg', ht', hvar, hd, _, _⟩, _⟩ := (h : laidMet Tryz.prog [("glebe/op.kinds", Rows.laid_glebe_op_kinds)] W)
  obtain rfl := Option.some.inj (gKinds.symm.trans hg')
  obtain rfl := Option.some.inj (gKindsType.symm.trans ht')
  obtain ⟨xs, m, _, hx, _, hxl, hi⟩ := DataW.trod_array Tryz.underlying155 hd
  have hagg : (Rows.laid_glebe_op_kinds : DataW Unit) = .agg (xs.map (·.1)) := congrArg Prod.fst hx
  have hl : ∀ i, i < 17 → (xs[i]?).map (·.1) = some (.agg [.lit (.int .i64 (tk i)), .lit (.int .i64 (lv i)), .lit (.int .i64 (opd i))]) := by
    intro i hi17
    rw [← List.getElem?_map, ← laid_at i hi17]
    unfold Rows.laid_glebe_op_kinds at hagg
    rw [← DataW.agg.inj hagg]
  have hc : ∀ i, i < 17 → cs[i * 3]? = some (.int .i64 (tk i)) ∧ cs[i * 3 + 1]? = some (.int .i64 (lv i)) ∧ cs[i * 3 + 2]? = some (.int .i64 (opd i)) := by
    intro i hi17
    have h1 := hi i hi17
    obtain ⟨x, hxi, hx1⟩ := Option.map_eq_some_iff.1 (hl i hi17)
    rw [hxi, cellsKind] at h1
    obtain ⟨f0, f1, f2, hu, t0, o0, t1, o1, t2, o2⟩ := typeKind
    obtain ⟨y0, y1, y2, n', hy, _, g0, g1, g2⟩ := Deep.trod_struct3 hu h1
    rw [t0, o0, cellsInt] at g0
    rw [t1, o1, cellsInt] at g1
    rw [t2, o2, cellsInt] at g2
    obtain ⟨z0, e0, r0, _⟩ := DataW.trod_int Tryz.underlying3 g0
    obtain ⟨z1, e1, r1, _⟩ := DataW.trod_int Tryz.underlying3 g1
    obtain ⟨z2, e2, r2, _⟩ := DataW.trod_int Tryz.underlying3 g2
    rw [hy, r0, r1, r2] at hx1
    simp at hx1
    obtain ⟨rfl, rfl, rfl⟩ := hx1
    refine ⟨?_, ?_, ?_⟩
    · have := congrArg (·[0]?) e0
      simpa [List.getElem?_take, List.getElem?_drop] using this
    · have := congrArg (·[0]?) e1
      simpa [List.getElem?_take, List.getElem?_drop, Nat.add_comm, Nat.add_left_comm] using this
    · have := congrArg (·[0]?) e2
      simpa [List.getElem?_take, List.getElem?_drop, Nat.add_comm, Nat.add_left_comm] using this
  intro k hk
  rw [World.var?_cell gKinds hvar k]
  obtain ⟨h0, h1, h2⟩ := hc (k / 3) (by omega)
  have : k = k / 3 * 3 ∨ k = k / 3 * 3 + 1 ∨ k = k / 3 * 3 + 2 := by omega
  rcases this with e | e | e
  · rw [e, h0]; unfold tk; rw [← e]
  · rw [e, h1]; unfold lv; rw [← e]
  · rw [e, h2]; unfold opd; rw [← e]
end Go.Proofs.YtokhibfenccijaaGreatDoor
namespace Go.Proofs.YtokhibfenccijaaGreatDoor
open Go.RowKit Go.ChangeShapes Go.WideShapes Go.ChangeAt
theorem laidT_at {H : Type} (i : Nat) (h : i < 17) : ([.agg [.lit (.string [112, 117, 115, 104]), .lit (.int .i64 1)], .agg [.lit (.string [112, 111, 112]), .lit (.int .i64 0)], .agg [.lit (.string [108, 111, 97, 100]), .lit (.int .i64 1)], .agg [.lit (.string [115, 116, 111, 114, 101]), .lit (.int .i64 1)], .agg [.lit (.string [97, 100, 100]), .lit (.int .i64 0)], .agg [.lit (.string [115, 117, 98]), .lit (.int .i64 0)], .agg [.lit (.string [109, 117, 108]), .lit (.int .i64 0)], .agg [.lit (.string [108, 101, 115, 115]), .lit (.int .i64 0)], .agg [.lit (.string [115, 97, 109, 101]), .lit (.int .i64 0)], .agg [.lit (.string [106, 117, 109, 112]), .lit (.int .i64 1)], .agg [.lit (.string [122, 101, 114, 111]), .lit (.int .i64 1)], .agg [.lit (.string [99, 97, 108, 108]), .lit (.int .i64 1)], .agg [.lit (.string [114, 101, 116, 117, 114, 110]), .lit (.int .i64 0)], .agg [.lit (.string [109, 97, 107, 101]), .lit (.int .i64 1)], .agg [.lit (.string [114, 101, 115, 117, 109, 101]), .lit (.int .i64 0)], .agg [.lit (.string [121, 105, 101, 108, 100]), .lit (.int .i64 0)], .agg [.lit (.string [112, 117, 116]), .lit (.int .i64 0)]] : List (DataW H))[i]? = some (.agg [.lit (.string (tkS.getD i ([], 0)).1), .lit (.int .i64 ((tkS.getD i ([], 0)).2 : Nat))]) := by
  have : i = 0 ∨ i = 1 ∨ i = 2 ∨ i = 3 ∨ i = 4 ∨ i = 5 ∨ i = 6 ∨ i = 7 ∨ i = 8 ∨ i = 9 ∨ i = 10 ∨ i = 11 ∨ i = 12 ∨ i = 13 ∨ i = 14 ∨ i = 15 ∨ i = 16 := by omega
  rcases this with rfl | rfl | rfl | rfl | rfl | rfl | rfl | rfl | rfl | rfl | rfl | rfl | rfl | rfl | rfl | rfl | rfl <;> rfl
theorem gTK : Tryz.prog.globalNamed "glebe/text.kinds" = some 0 := by kernel_rfl
theorem gTKType : (Tryz.prog.globals[0]?).map (·.type) = some 108 := by kernel_rfl
theorem cellsTK : Tryz.prog.cellsOf 107 = 2 := by kernel_rfl
theorem cellsStr : Tryz.prog.cellsOf 9 = 1 := by kernel_rfl
theorem cellsIntT : Tryz.prog.cellsOf 3 = 1 := by kernel_rfl
theorem typeTK : ∃ f0 f1 : Field, Tryz.prog.underlying 107 = some (.struct #[f0, f1]) ∧ f0.type = 9 ∧ f0.offset = 0 ∧ f1.type = 3 ∧ f1.offset = 1 := ⟨_, _, Tryz.underlying107, rfl, rfl, rfl, rfl⟩
theorem tk_of_reads {W : World} (h : Lib.VarReads Tryz.prog W "glebe/text.kinds" Rows.laid_glebe_text_kinds) : TKAt W := by
  obtain ⟨g', t', cs, fuel, p, hg', ht', hvar, hd⟩ := h
  obtain rfl := Option.some.inj (gTK.symm.trans hg')
  obtain rfl := Option.some.inj (gTKType.symm.trans ht')
  obtain ⟨xs, m, _, hx, _, hxl, hi⟩ := DataW.trod_array Tryz.underlying108 hd
  have hagg : (Rows.laid_glebe_text_kinds : DataW Unit) = .agg (xs.map (·.1)) := congrArg Prod.fst hx
  have hl : ∀ i, i < 17 → (xs[i]?).map (·.1) = some (.agg [.lit (.string (tkS.getD i ([], 0)).1), .lit (.int .i64 ((tkS.getD i ([], 0)).2 : Nat))]) := by
    intro i hi17
    rw [← List.getElem?_map, ← laidT_at i hi17]
    unfold Rows.laid_glebe_text_kinds at hagg
    rw [← DataW.agg.inj hagg]
  intro i hi17
  have h1 := hi i hi17
  obtain ⟨x, hxi, hx1⟩ := Option.map_eq_some_iff.1 (hl i hi17)
  rw [hxi, cellsTK] at h1
  obtain ⟨f0, f1, hu, t0, o0, t1, o1⟩ := typeTK
  obtain ⟨y0, y1, n', hy, _, g0, g1⟩ := trod_struct2 hu h1
  rw [t0, o0, cellsStr] at g0
  rw [t1, o1, cellsIntT] at g1
  obtain ⟨s, e0, r0, _⟩ := DataW.trod_string Tryz.underlying9 g0
  obtain ⟨z1, e1, r1, _⟩ := DataW.trod_int Tryz.underlying3 g1
  rw [hy, r0, r1] at hx1
  simp only [DataW.agg.injEq, List.cons.injEq, DataW.lit.injEq, Lit.string.injEq, Lit.int.injEq, true_and, and_true] at hx1
  obtain ⟨q0, rfl⟩ := hx1
  have hs : Value.string s = strV (tkS.getD i ([], 0)).1 := by rw [← q0]; cases s; simp [strV]
  rw [World.var?_cell gTK hvar, World.var?_cell gTK hvar, ← hs]
  constructor
  · have := congrArg (·[0]?) e0
    simpa [List.getElem?_take, List.getElem?_drop] using this
  · have := congrArg (·[0]?) e1
    simpa [List.getElem?_take, List.getElem?_drop, Nat.add_comm, Nat.add_left_comm] using this
theorem err_of_reads {W : World} {n nm : String} {d : DataW Unit} {g : Nat} {ti : TypeId} {ms : Array (String × TypeId)} (hg : Tryz.prog.globalNamed n = some g) (ht : (Tryz.prog.globals[g]?).map (·.type) = some ti) (hi : Tryz.prog.underlying ti = some (.interface ms)) (h : Lib.VarReads Tryz.prog W n (.iface nm d)) : ∃ t p, W.var? Tryz.prog n = some #[.iface t p] := by
  obtain ⟨g', t', cs, fuel, p, hg', ht', hvar, hd⟩ := h
  obtain rfl := Option.some.inj (hg.symm.trans hg')
  obtain rfl := Option.some.inj (ht.symm.trans ht')
  obtain ⟨_, u, v, e, _⟩ := iface_of_trod hi hd
  refine ⟨u, v, hvar.trans (congrArg some ?_)⟩
  cases cs
  simpa using e
end Go.Proofs.YtokhibfenccijaaGreatDoor
