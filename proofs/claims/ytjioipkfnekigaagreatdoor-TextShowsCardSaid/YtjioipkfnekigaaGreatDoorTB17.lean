/- TextT, OpAr, TextW, TextY, TextZ, TextZa -/
import Derived.Test.YtjioipkfnekigaaGreatDoorTB16
import Derived.Test.YtjioipkfnekigaaGreatDoorTB07
import Derived.Test.YtjioipkfnekigaaGreatDoorTB02
import Derived.Test.YtjioipkfnekigaaGreatDoorTB01
import Derived.Test.YtjioipkfnekigaaGreatDoorTB05
import Derived.Test.YtjioipkfnekigaaGreatDoorTB03
set_option maxRecDepth 100000
set_option maxHeartbeats 8000000
namespace Go.Proofs.YtjioipkfnekigaaGreatDoor
def digF : Nat → List UInt8 → Option Nat
  | n, [] => some n
  | n, c :: l => if c.toNat < 48 ∨ 57 < c.toNat then none else digF (10 * n + (c.toNat - 48)) l
def numF (l : List UInt8) : Int := if 1 ≤ l.length ∧ l.length ≤ 6 then match digF 0 l with
  | some n => if Lib.itoa (n : Int) = l then (n : Int) else -1
  | none => -1 else -1
def stepF (p : List Fn) (ws : List (List UInt8)) : List Fn := if ws.getD 0 [] = [102, 117, 110, 99] then p ++ [⟨numF (ws.getD 1 []), numF (ws.getD 2 []), []⟩]
  else match kindT (ws.getD 0 []) with
    | some k => addOpT p ((k : Int), max 0 (numF (ws.getD 1 [])))
    | none => p
def fromT (l : List UInt8) : List Fn := (splitT 10 l).foldl (fun p x => stepF p (splitT 32 x ++ [[], []])) []
theorem digF_app : ∀ (l : List UInt8) (n v : Nat) (c : UInt8), digF n l = some v → digF n (l ++ [c]) = digF v [c]
  | [], n, v, c, h => by cases h; rfl
  | x :: l, n, v, c, h => by
    rw [List.cons_append]
    unfold digF at h ⊢
    split at h
    · cases h
    · rename_i h1
      rw [if_neg h1]
      exact digF_app l _ v c h
theorem digF_dec (n : Nat) : digF 0 (Lib.decDigits n) = some n := by
  induction n using Nat.strongRecOn with
  | ind n ih =>
    unfold Lib.decDigits
    split
    · rename_i h
      unfold digF
      rw [digit_nat h, if_neg (by omega)]
      simp [digF]
    · rename_i h
      rw [digF_app _ 0 (n / 10) _ (ih (n / 10) (by omega))]
      unfold digF
      rw [digit_nat (by omega), if_neg (by omega)]
      simp only [digF, Option.some.injEq]
      omega
theorem numF_itoa {z : Int} (h : 0 ≤ z ∧ z ≤ 999) : numF (Lib.itoa z) = z := by
  have hf := itoa_few h
  obtain ⟨k, rfl⟩ := Int.eq_ofNat_of_zero_le h.1
  have hi : Lib.itoa (k : Int) = Lib.decDigits k := by unfold Lib.itoa; rw [if_neg (by omega), Int.toNat_natCast]
  have hne := dec_ne k
  unfold numF
  rw [hi] at hf ⊢
  have : 1 ≤ (Lib.decDigits k).length := by
    cases hq : Lib.decDigits k with
    | nil => exact absurd hq hne
    | cons c r => simp
  rw [if_pos ⟨this, by omega⟩, digF_dec]
  simp only
  rw [if_pos hi]
theorem stepF_fn (p : List Fn) {a b : Int} (ha : 0 ≤ a ∧ a ≤ 999) (hb : 0 ≤ b ∧ b ≤ 999) : stepF p (splitT 32 (lineW [102, 117, 110, 99] [a, b]) ++ [[], []]) = p ++ [⟨a, b, []⟩] := by
  rw [(lineW_split (wd := [102, 117, 110, 99]) (l := [a, b]) (by decide) (by simp; omega)).1]
  simp [stepF, numF_itoa ha, numF_itoa hb]
theorem numF_nil : numF [] = -1 := rfl
theorem stepF_op (q : List Fn) (f : Fn) {x : Int × Int} (h1 : 0 ≤ x.1 ∧ x.1 < 17) (h2 : 0 ≤ x.2 ∧ x.2 ≤ 999) (h3 : (tkS.getD x.1.toNat ([], 0)).2 = 0 → x.2 = 0) :
    stepF (q ++ [f]) (splitT 32 (opW x) ++ [[], []]) = q ++ [⟨f.args, f.locals, f.code ++ [x]⟩] := by
  obtain ⟨k, a⟩ := x
  obtain ⟨k, rfl⟩ := Int.eq_ofNat_of_zero_le h1.1
  simp only [Int.toNat_natCast] at h3 ⊢
  have hk : k < 17 := by omega
  have e0 : ∀ l : List Int, (((tkS.getD k ([], 0)).1 :: l.map Lib.itoa) ++ [[], []]).getD 0 [] = (tkS.getD k ([], 0)).1 := fun l => by simp
  unfold opW
  simp only [Int.toNat_natCast]
  by_cases h0 : (tkS.getD k ([], 0)).2 = 0
  · rw [if_pos h0, (lineW_split (tk_no k) (by simp)).1]
    unfold stepF
    rw [e0, if_neg (tk_func k hk), tk_kind k hk, h3 h0]
    simp [addOpT, numF_nil]
    omega
  · rw [if_neg h0, (lineW_split (tk_no k) (by simpa using h2.1)).1]
    unfold stepF
    rw [e0, if_neg (tk_func k hk), tk_kind k hk]
    simp [addOpT, numF_itoa h2]
    omega
def foldF (p : List Fn) (ls : List (List UInt8)) : List Fn := ls.foldl (fun p x => stepF p (splitT 32 x ++ [[], []])) p
theorem foldF_ops (q : List Fn) (a b : Int) : ∀ (c c0 : List (Int × Int)), (∀ x ∈ c, (0 ≤ x.1 ∧ x.1 < 17) ∧ (0 ≤ x.2 ∧ x.2 ≤ 999) ∧ ((tkS.getD x.1.toNat ([], 0)).2 = 0 → x.2 = 0)) → foldF (q ++ [⟨a, b, c0⟩]) (c.map opW) = q ++ [⟨a, b, c0 ++ c⟩]
  | [], c0, _ => by simp [foldF]
  | x :: c, c0, h => by
    obtain ⟨h1, h2, h3⟩ := h x (by simp)
    have hs := stepF_op q ⟨a, b, c0⟩ h1 h2 h3
    have ih := foldF_ops q a b c (c0 ++ [x]) (fun y hy => h y (by simp [hy]))
    unfold foldF at ih ⊢
    rw [List.map_cons, List.foldl_cons, hs, ih]
    simp
theorem foldF_lines : ∀ (p q : List Fn), (∀ f ∈ p, (0 ≤ f.args ∧ f.args ≤ 4) ∧ (0 ≤ f.locals ∧ f.locals ≤ 4) ∧ f.code.length ≤ 24 ∧ ∀ x ∈ f.code, (0 ≤ x.1 ∧ x.1 < 17) ∧ (0 ≤ x.2 ∧ x.2 ≤ 999) ∧ ((tkS.getD x.1.toNat ([], 0)).2 = 0 → x.2 = 0)) → foldF q (linesOf p) = q ++ p
  | [], q, _ => by simp [linesOf, foldF]
  | f :: p, q, h => by
    obtain ⟨h1, h2, _, h4⟩ := h f (by simp)
    have e : linesOf (f :: p) = (lineW [102, 117, 110, 99] [f.args, f.locals] :: f.code.map opW) ++ linesOf p := by simp [linesOf]
    have hs := stepF_fn q (a := f.args) (b := f.locals) (by omega) (by omega)
    have h5 : foldF q (lineW [102, 117, 110, 99] [f.args, f.locals] :: f.code.map opW) = q ++ [f] := by
      have h6 := foldF_ops q f.args f.locals f.code [] h4
      unfold foldF at h6 ⊢
      rw [List.foldl_cons, hs, h6]
      rfl
    have ih := foldF_lines p (q ++ [f]) (fun g hg => h g (by simp [hg]))
    rw [e]
    unfold foldF at h5 ih ⊢
    rw [List.foldl_append, h5, ih]
    simp
theorem kindT_nil : kindT [] = none := by decide
theorem from_show {p : List Fn} (h : OkT p) : fromT (showT p) = p := by
  have hf := foldF_lines p [] h.fn
  rw [List.nil_append] at hf
  have hl : splitT 10 (showT p) = linesOf p ++ [[]] := by
    have e : showT p = Lib.join (linesOf p ++ [[]]) [10] := by
      rw [show_lines]
      generalize linesOf p = ls
      induction ls with
      | nil => simp [Lib.join_one]
      | cons x ls ih =>
        rw [List.flatMap_cons, ih, List.cons_append, Lib.join_cons]
        cases ls with
        | nil => simp [Lib.joinTail, Lib.join_one]
        | cons y ls => simp [Lib.joinTail, Lib.join_cons]
    rw [e]
    exact split_join (by simp) (fun x hx => by
      rcases List.mem_append.1 hx with hx | hx
      · exact lines_no h x hx
      · simp at hx; subst hx; simp)
  unfold fromT
  unfold foldF at hf
  rw [hl, List.foldl_append, hf]
  simp [stepF, splitT, kindT_nil]
def fromR (l : List UInt8) : List Fn × Bool := if progS (fromT l) = 0 ∧ showT (fromT l) = l then (fromT l, true) else ([], false)
theorem from_read {l : List UInt8} (hl : l.length ≤ 8192) : readR l = ((fromR l).1, if (fromR l).2 = true then 0 else 1) := by
  unfold fromR
  by_cases h : progS (fromT l) = 0 ∧ showT (fromT l) = l
  · rw [if_pos h]
    have := read_show h.1
    rw [h.2] at this
    rw [this]
    rfl
  · rw [if_neg h]
    have hn : (readR l).2 ≠ 0 := fun h0 => by
      obtain ⟨q1, q2⟩ := read_ok h0
      have := from_show (right_okT q1)
      rw [q2] at this
      exact h (by rw [this]; exact ⟨q1, q2⟩)
    unfold readR at hn ⊢
    rw [if_pos hl] at hn ⊢
    split at hn
    · split at hn
      · exact absurd rfl hn
      · rename_i h1; simp [h1]
    · rfl
open Go.RowKit
theorem within_any (i l n : Int) (w : World) :
    Calls Tryz.prog 37 #[.int .i64 i, .int .i64 l, .int .i64 n] w fun e w' => e = .returned (.bool (inB i l n)) ∧ w = w' := by
  by_cases h1 : l ≤ i
  · by_cases h2 : i ≤ n
    · rw [inB_true h1 h2]
      go_enter Tryz.func37, Tryz.ntmps37
      go_wp2
      go_ret
      exact ⟨rfl, rfl⟩
    · rw [inB_false (by omega)]
      go_enter Tryz.func37, Tryz.ntmps37
      go_wp2
      go_ret
      exact ⟨rfl, rfl⟩
  · rw [inB_false (by omega)]
    go_enter Tryz.func37, Tryz.ntmps37
    go_wp2
    go_ret
    exact ⟨rfl, rfl⟩
open Go.RowKit Go.Maps
theorem digF_lt : ∀ (l : List UInt8) (n v k : Nat), digF n l = some v → n < 10 ^ k → v < 10 ^ (k + l.length)
  | [], n, v, k, h, hn => by cases h; simpa using hn
  | c :: l, n, v, k, h, hn => by
    unfold digF at h
    split at h
    · cases h
    · rename_i hc
      have h1 : 10 * n + (c.toNat - 48) < 10 ^ (k + 1) := by rw [Nat.pow_succ]; omega
      have := digF_lt l _ v (k + 1) h h1
      rw [List.length_cons, show k + (l.length + 1) = k + 1 + l.length by omega]
      exact this
theorem digF_take : ∀ (l : List UInt8) (n k v : Nat) (c : UInt8), digF n (l.take k) = some v → l[k]? = some c → digF n (l.take (k + 1)) = digF v [c] ∧ ((c.toNat < 48 ∨ 57 < c.toNat) → digF n l = none)
  | [], n, k, v, c, _, h => by simp at h
  | x :: l, n, 0, v, c, h, hc => by
    simp only [List.take_zero, digF, Option.some.injEq] at h
    subst h
    simp only [List.getElem?_cons_zero, Option.some.injEq] at hc
    subst hc
    refine ⟨by simp, fun hb => ?_⟩
    unfold digF
    rw [if_pos hb]
  | x :: l, n, k + 1, v, c, h, hc => by
    rw [List.take_succ_cons] at h ⊢
    rw [List.getElem?_cons_succ] at hc
    unfold digF at h
    split at h
    · cases h
    · rename_i hx
      obtain ⟨q1, q2⟩ := digF_take l _ k v c h hc
      refine ⟨by rw [digF, if_neg hx]; exact q1, fun hb => by rw [digF, if_neg hx]; exact q2 hb⟩
theorem index_at {l : List UInt8} {k : Nat} {c : UInt8} (h : l[k]? = some c) (u : World) : (Instr.index 9 (.string ⟨l.toArray⟩) (.int .i64 (k : Int))).run Tryz.prog u = .ok (.int .u8 (c.toNat : Nat)) u := by
  obtain ⟨h1, h2⟩ := List.getElem?_eq_some_iff.1 h
  have hsz : (ByteArray.mk l.toArray).size = l.length := by simp [ByteArray.size]
  rw [run_index_string _ _ _ _ _ Tryz.underlying9, dif_pos ⟨by omega, by rw [hsz]; omega⟩]
  subst h2
  rfl
theorem num_any (w : World) (l : List UInt8) (hl0 : l.length ≤ 100000) : Calls Tryz.prog 30 #[.string ⟨l.toArray⟩] w fun e w' => e = .returned (.int .i64 (numF l)) ∧ Kept w w' := by
  have hsz : (ByteArray.mk l.toArray).size = l.length := by simp [ByteArray.size]
  have HC := hide (within_any (l.length : Int) 1 6 w)
  by_cases hl : 1 ≤ l.length ∧ l.length ≤ 6
  · rw [inB_true (by omega) (by omega)] at HC
    have HL' := hide hl
    obtain ⟨_, hl6⟩ := hl
    have HB : Hid (∀ (k : Nat) (c : UInt8), l[k]? = some c → ∀ u, (Instr.index 9 (.string ⟨l.toArray⟩) (.int .i64 (k : Int))).run Tryz.prog u = .ok (.int .u8 (c.toNat : Nat)) u) := hide (fun k c h u => index_at h u)
    generalize hS : (ByteArray.mk l.toArray) = S at *
    have HS := hide hS
    clear hS
    go_enter Tryz.func30, Tryz.ntmps30
    go_wp2_with fail
    refine (unhide HC).mono ?_
    rintro _ _ ⟨rfl, rfl⟩
    clear HC
    go_wp2_with fail
    have H0 : Hid (digF 0 (l.take 0) = some 0) := hide rfl
    generalize hL : l.length = L at *
    have HLL := hide hL
    clear hL
    go_loopw [3, 4] (fun s3 s4 wr => ∃ (k v : Nat), k ≤ L ∧ s3 = .int .i64 (v : Int) ∧ s4 = .int .i64 (k : Int) ∧ wr = w ∧ Hid (digF 0 (l.take k) = some v)) (fun _ s4 _ => L - (intOf s4).toNat)
    case atStart => exact ⟨0, 0, Nat.zero_le _, rfl, rfl, rfl, H0⟩
    case round =>
      obtain ⟨k, v, hkn, rfl, rfl, rfl, HW⟩ := hrel
      clear H0
      have hv6 : v < 1000000 := by
        have := digF_lt _ 0 v 0 (unhide HW) (by simp)
        have h2 : 10 ^ (0 + (l.take k).length) ≤ 10 ^ 6 := Nat.pow_le_pow_right (by omega) (by simp; omega)
        have h3 : (10 : Nat) ^ 6 = 1000000 := rfl
        omega
      by_cases hk : k < L
      · obtain ⟨c, hc⟩ : ∃ c, l[k]? = some c := ⟨_, List.getElem?_eq_getElem (by rw [unhide HLL]; exact hk)⟩
        have hix := (unhide HB) k c hc
        obtain ⟨q1, q2⟩ := digF_take l 0 k v c (unhide HW) hc
        have hk0 : (0 : Int) ≤ (k : Int) := by omega
        have hk1 : (k : Int) < (L : Int) := by omega
        have HQ1 := hide q1
        have HQ2 := hide q2
        have hN6 : c.toNat < 256 := c.toNat_lt
        generalize hNN : c.toNat = N at *
        have HNN := hide hNN
        clear q1 q2 hc HW HB hNN
        by_cases hbad : N < 48 ∨ 57 < N
        · have HR : Hid (numF l = -1) := hide (by
            unfold numF
            rw [(unhide HQ2) hbad]
            split <;> rfl)
          by_cases h48 : N < 48
          · have e1 : (N : Int) < 48 := by omega
            clear hbad
            go_wp2_with fail
            go_ret
            exact ⟨by rw [unhide HR]; rfl, Kept.refl _⟩
          · have e1 : ¬ (N : Int) < 48 := by omega
            have e2 : (57 : Int) < (N : Int) := by omega
            clear hbad
            go_wp2_with fail
            go_ret
            exact ⟨by rw [unhide HR]; rfl, Kept.refl _⟩
        · have e1 : ¬ (N : Int) < 48 := by omega
          have e2 : ¬ (57 : Int) < (N : Int) := by omega
          have HN : Hid (digF 0 (l.take (k + 1)) = some (10 * v + (N - 48))) := hide (by
            rw [unhide HQ1]
            unfold digF
            rw [unhide HNN, if_neg hbad]
            rfl)
          have HZ : Hid (10 * (v : Int) + ((N : Int) - 48) = ((10 * v + (N - 48) : Nat) : Int)) := hide (by omega)
          have hv0 : (0 : Int) ≤ (v : Int) := by omega
          have hv1 : (v : Int) < 1000000 := by omega
          have hN0 : (N : Int) < 256 := by omega
          clear hbad HQ1 HQ2 HNN
          go_wp2_with fail
          go_roundw
          case rel => exact ⟨k + 1, 10 * v + (N - 48), by omega, by first | rw [← unhide HZ] | (congr 1; have := unhide HZ; omega), by go_num, trivial, HN⟩
          case measure => simp [intOf]; omega
      · obtain rfl : k = L := by omega
        have hW : digF 0 l = some v := by
          have := unhide HW
          rwa [← unhide HLL, List.take_length] at this
        have hv0 : (0 : Int) ≤ (v : Int) := by omega
        have HD := hide (digits_any hv0 (by omega) wr)
        have HR : Hid (numF l = if Lib.itoa (v : Int) = l then (v : Int) else -1) := hide (by
          unfold numF
          rw [if_pos (by rw [unhide HLL]; exact unhide HL'), hW])
        clear hW HW HB
        by_cases hq : Lib.itoa (v : Int) = l
        · have he : ((ByteArray.mk (Lib.itoa (v : Int)).toArray).toList == S.toList) = true := by rw [← unhide HS, hq]; simp
          have HR2 : Hid (numF l = v) := hide (by rw [unhide HR, if_pos hq])
          unfold strV at HD
          generalize (ByteArray.mk (Lib.itoa (v : Int)).toArray) = T at *
          clear HR hq
          go_wp2_with fail
          refine (unhide HD).mono ?_
          rintro _ w2 ⟨rfl, k2⟩
          have HK := hide k2
          clear k2 HD
          go_wp2_with fail
          go_ret
          exact ⟨by rw [unhide HR2]; rfl, unhide HK⟩
        · have he : ((ByteArray.mk (Lib.itoa (v : Int)).toArray).toList == S.toList) = false := by rw [← unhide HS, ByteArray.toList_mk, ByteArray.toList_mk]; simpa using hq
          have HR2 : Hid (numF l = -1) := hide (by rw [unhide HR, if_neg hq])
          unfold strV at HD
          generalize (ByteArray.mk (Lib.itoa (v : Int)).toArray) = T at *
          clear HR hq
          go_wp2_with fail
          refine (unhide HD).mono ?_
          rintro _ w2 ⟨rfl, k2⟩
          have HK := hide k2
          clear k2 HD
          go_wp2_with fail
          go_ret
          exact ⟨by rw [unhide HR2]; rfl, unhide HK⟩
  · rw [inB_false (by omega)] at HC
    have hnf : numF l = -1 := by unfold numF; rw [if_neg hl]
    rw [hnf]
    generalize (ByteArray.mk l.toArray) = S at *
    generalize l.length = n at *
    clear hnf hl
    go_enter Tryz.func30, Tryz.ntmps30
    go_wp2_with fail
    refine (unhide HC).mono ?_
    rintro _ _ ⟨rfl, rfl⟩
    go_wp2_with fail
    go_ret
    exact ⟨rfl, Kept.refl w⟩
theorem slice_at (l : List UInt8) (a i : Nat) (h1 : a ≤ i) (h2 : i ≤ l.length) (u : World) : (Instr.slice 9 (.string ⟨l.toArray⟩) (some (.int .i64 (a : Int))) (some (.int .i64 (i : Int))) none).run Tryz.prog u = .ok (.string ⟨((l.take i).drop a).toArray⟩) u := by
  have hsz : (ByteArray.mk l.toArray).size = l.length := by simp [ByteArray.size]
  simp [Instr.slice, Instr.sliceBounds, Instr.sliceBound, asIntOf, run_underlying Tryz.underlying9, hsz, h1, h2]
  apply ByteArray.ext
  simp [ByteArray.data_extract, List.drop_take]
def CutAt (w wr : World) (c : UInt8) (l : List UInt8) (k a : Nat) (v : Value) : Prop := ∃ xs, wr.ownsRow w.heap.size 9 1 v xs.length (xs.map strV) ∧ Kept w wr ∧ ((k ≤ l.length ∧ PosS c l xs a k) ∨ (k = l.length + 1 ∧ xs = splitT c l))
theorem CutAt.add {w wr : World} {c : UInt8} {l : List UInt8} {k a : Nat} {v : Value} {xs : List (List UInt8)} (hl : l.length ≤ 10000) (hr : wr.ownsRow w.heap.size 9 1 v xs.length (xs.map strV)) (hk : Kept w wr) (hp : PosS c l xs a k) (y : List UInt8) :
    ∃ v' w', (Builtin.append_ #[62, 62] 62 #[v, .slice (some ⟨wr.heap.size, 0, none⟩) 1 1]).run Tryz.prog (wr.alloc (.cells #[.string ⟨y.toArray⟩] 9)) = .ok v' w' ∧ w'.ownsRow w.heap.size 9 1 v' (xs ++ [y]).length ((xs ++ [y]).map strV) ∧ Kept w w' := by
  obtain ⟨v', w', q1, q2, q3, _⟩ := rowT_app 9 62 1 16 _ Tryz.underlying62 strInfo rfl (by decide) (by decide) w.heap.size wr v xs.length (xs.map strV) [strV y] hr hk.size (by have := hp.few; have := hp.le; have := hp.len; omega) rfl (fun u hu => by
    obtain rfl := List.mem_singleton.1 hu
    rfl)
  exact ⟨v', w', q1, by simpa using q2, Below.trans hk q3⟩
theorem rsplit_any (w : World) (l : List UInt8) (c : UInt8) (hl : l.length ≤ 10000) : Calls Tryz.prog 29 #[.string ⟨l.toArray⟩, .int .u8 (c.toNat : Nat)] w fun e w' => ∃ v, e = .returned v ∧ w'.ownsRow w.heap.size 9 1 v (splitT c l).length ((splitT c l).map strV) ∧ Kept w w' := by
  have hsz : (ByteArray.mk l.toArray).size = l.length := by simp [ByteArray.size]
  have HB : Hid (∀ (k : Nat) (c : UInt8), l[k]? = some c → ∀ u, (Instr.index 9 (.string ⟨l.toArray⟩) (.int .i64 (k : Int))).run Tryz.prog u = .ok (.int .u8 (c.toNat : Nat)) u) := hide (fun k c h u => index_at h u)
  have HS : Hid (∀ (a i : Nat), a ≤ i → i ≤ l.length → ∀ u, (Instr.slice 9 (.string ⟨l.toArray⟩) (some (.int .i64 (a : Int))) (some (.int .i64 (i : Int))) none).run Tryz.prog u = .ok (.string ⟨((l.take i).drop a).toArray⟩) u) := hide (fun a i h1 h2 u => slice_at l a i h1 h2 u)
  have H0 : Hid (CutAt w w c l 0 0 (.slice none 0 0)) := hide ⟨[], World.ownsRow_nil _ _ _ _, Kept.refl w, .inl ⟨Nat.zero_le _, PosS.start c l⟩⟩
  have HLL : Hid (l.length ≤ 10000) := hide hl
  generalize hL : l.length = L at *
  have HL := hide hL
  generalize hS : (ByteArray.mk l.toArray) = S at *
  clear hS hL
  go_enter Tryz.func29, Tryz.ntmps29
  go_wp2_with fail
  go_loopw [5, 6, 7] (fun s5 s6 s7 wr => ∃ (k a : Nat), k ≤ L + 1 ∧ s6 = .int .i64 (a : Int) ∧ s7 = .int .i64 (k : Int) ∧ Hid (CutAt w wr c l k a s5)) (fun _ _ s7 _ => L + 1 - (intOf s7).toNat)
  case atStart => exact ⟨0, 0, Nat.zero_le _, rfl, rfl, H0⟩
  case round =>
    obtain ⟨k, a, hkn, rfl, rfl, HW⟩ := hrel
    clear H0
    obtain ⟨xs, hr, hkp, hpos⟩ := unhide HW
    clear HW
    have hk0 : (0 : Int) ≤ (k : Int) := by omega
    by_cases hk : k < L
    · obtain ⟨d, hd⟩ : ∃ d, l[k]? = some d := ⟨_, List.getElem?_eq_getElem (by rw [unhide HL]; exact hk)⟩
      have hp : PosS c l xs a k := by
        rcases hpos with ⟨_, h⟩ | ⟨h, _⟩
        · exact h
        · have := unhide HL; omega
      have hix := (unhide HB) k d hd
      have hk1 : (k : Int) ≤ (L : Int) := by omega
      have hk2 : ((k : Int) == (L : Int)) = false := by simp; omega
      by_cases hdc : d = c
      · subst hdc
        obtain ⟨v', w', hrun, hr', hk'⟩ := CutAt.add (unhide HL ▸ unhide HLL) hr hkp hp ((l.take k).drop a)
        have HN : Hid (CutAt w w' d l (k + 1) (k + 1) v') := hide ⟨_, hr', hk', .inl ⟨by have := unhide HL; omega, hp.hit hd⟩⟩
        have hsl := (unhide HS) a k hp.le (by omega)
        have HR := hide hrun
        generalize (ByteArray.mk ((l.take k).drop a).toArray) = Y at *
        generalize d.toNat = N at *
        clear hrun hr' hk' hr hkp hp hpos hd HB HS
        go_wp2_with (at_builtin; refine unhide ?_)
        refine hide ?_
        refine wpList_appR _ rfl _ _ 62 rfl rfl rfl (unhide HR) ?_
        clear HR
        go_wp2_with fail
        go_roundw
        case rel => exact ⟨k + 1, k + 1, by omega, by go_num, by go_num, HN⟩
        case measure => simp [intOf]; omega
      · have HN : Hid (CutAt w wr c l (k + 1) a u5) := hide ⟨xs, hr, hkp, .inl ⟨by have := unhide HL; omega, hp.on hd hdc⟩⟩
        have hne : ((d.toNat : Int) == (c.toNat : Int)) = false := by
          simp only [beq_eq_false_iff_ne, ne_eq]
          intro e
          exact hdc (UInt8.toNat_inj.1 (by omega))
        generalize d.toNat = N at *
        generalize c.toNat = M at *
        clear hr hkp hp hpos hd HB HS hdc
        go_wp2_with fail
        go_roundw
        case rel => exact ⟨k + 1, a, by omega, rfl, by go_num, HN⟩
        case measure => simp [intOf]; omega
    · by_cases hk2 : k = L
      · have hp : PosS c l xs a l.length := by
          rcases hpos with ⟨_, h⟩ | ⟨h, _⟩
          · rw [unhide HL, ← hk2]; exact h
          · have := unhide HL; omega
        obtain ⟨v', w', hrun, hr', hk'⟩ := CutAt.add (unhide HL ▸ unhide HLL) hr hkp hp ((l.take l.length).drop a)
        have HN : Hid (CutAt w w' c l (k + 1) (k + 1) v') := hide ⟨_, hr', hk', .inr ⟨by have := unhide HL; omega, hp.last.symm⟩⟩
        have hsl := (unhide HS) a k (by have := hp.le; have := unhide HL; omega) (by omega)
        rw [show (l.take l.length) = l.take k by rw [unhide HL, hk2]] at hrun
        have HR := hide hrun
        generalize (ByteArray.mk ((l.take k).drop a).toArray) = Y at *
        subst hk2
        clear hrun hr' hk' hr hkp hp hpos HB HS hk
        have hk1 : (k : Int) ≤ (k : Int) := by omega
        go_wp2_with (at_builtin; refine unhide ?_)
        refine hide ?_
        refine wpList_appR _ rfl _ _ 62 rfl rfl rfl (unhide HR) ?_
        clear HR
        go_wp2_with fail
        go_roundw
        case rel => exact ⟨k + 1, k + 1, by omega, by go_num, by go_num, HN⟩
        case measure => simp [intOf]
      · have hk3 : ¬ (k : Int) ≤ (L : Int) := by omega
        have HN : Hid (wr.ownsRow w.heap.size 9 1 u5 (splitT c l).length ((splitT c l).map strV) ∧ Kept w wr) := hide (by
          rcases hpos with ⟨h, _⟩ | ⟨_, h⟩
          · have := unhide HL; omega
          · rw [← h]; exact ⟨hr, hkp⟩)
        clear hr hkp hpos HB HS
        go_wp2_with fail
        go_ret
        exact ⟨_, rfl, unhide HN⟩
theorem str_add (a b : List UInt8) (h : a.length + b.length ≤ 1000000) : (ByteArray.mk a.toArray) ++ (ByteArray.mk b.toArray) = ⟨(a ++ b).toArray⟩ ∧ ¬ 9223372036854775807 < (ByteArray.mk a.toArray).size + (ByteArray.mk b.toArray).size := by
  refine ⟨strs_app a b, ?_⟩
  simp only [ByteArray.size, List.size_toArray]
  omega
theorem fnLine (a b : Int) : lineT [102, 117, 110, 99] [a, b] = [102, 117, 110, 99, 32] ++ Lib.itoa a ++ [32] ++ Lib.itoa b ++ [10] := by
  simp [lineT, Lib.join_cons, Lib.joinTail]
theorem progText_ok (w : World) (p : List Fn) (vp : Value) (hp : ProgAt w vp p) (ho : OkT p) :
    Calls Tryz.prog 7 #[vp] w fun e w' => e = .returned (strV (showT p)) ∧ Kept w w' := by
  have HO := hide ho
  obtain ⟨oa, cap, rfl, hn, hi⟩ := hp
  have HI := hide hi
  have hn5 := ho.len
  generalize hN : p.length = n at *
  have HN := hide hN
  clear ho hi hN hn
  go_enter Tryz.func7, Tryz.ntmps7
  go_wp2_with fail
  go_loopw [3, 4] (fun s3 s4 wr => ∃ k : Nat, k ≤ n ∧ s4 = .int .i64 k ∧ s3 = .string ⟨((p.take k).flatMap fnT).toArray⟩ ∧ Hid (Kept w wr)) (fun _ s4 _ => n - (intOf s4).toNat)
  case atStart => exact ⟨0, Nat.zero_le _, rfl, rfl, hide (Kept.refl w)⟩
  case round =>
    obtain ⟨k, hkn, rfl, rfl, HW⟩ := hrel
    by_cases hk : k < n
    · obtain ⟨f, hf⟩ : ∃ f, p[k]? = some f := ⟨_, List.getElem?_eq_getElem (by rw [unhide HN]; exact hk)⟩
      obtain ⟨bb, oo, cv, rfl, c0, c1, c2, hc⟩ := (unhide HI) k f hf
      have hk0 : (0 : Int) ≤ (k : Int) := by omega
      have hk1 : (k : Int) < (n : Int) := by omega
      obtain ⟨oc, cc, rfl, hnc, hic⟩ := hc
      obtain ⟨ha, hlo, hcl, hop⟩ := (unhide HO).fn f (List.mem_of_getElem? hf)
      have hpl := takeT_len (unhide HO) k
      have ia := itoa_len (z := f.args) (by unfold I64; omega)
      have il := itoa_len (z := f.locals) (by unfold I64; omega)
      obtain ⟨E1, J1⟩ := str_add ((p.take k).flatMap fnT) [102, 117, 110, 99, 32] (by simp only [List.length_cons, List.length_nil]; omega)
      obtain ⟨E2, J2⟩ := str_add ((p.take k).flatMap fnT ++ [102, 117, 110, 99, 32]) (Lib.itoa f.args) (by simp only [List.length_append, List.length_cons, List.length_nil]; omega)
      obtain ⟨E3, J3⟩ := str_add ((p.take k).flatMap fnT ++ [102, 117, 110, 99, 32] ++ Lib.itoa f.args) [32] (by simp only [List.length_append, List.length_cons, List.length_nil]; omega)
      obtain ⟨E4, J4⟩ := str_add ((p.take k).flatMap fnT ++ [102, 117, 110, 99, 32] ++ Lib.itoa f.args ++ [32]) (Lib.itoa f.locals) (by simp only [List.length_append, List.length_cons, List.length_nil]; omega)
      obtain ⟨E5, J5⟩ := str_add ((p.take k).flatMap fnT ++ [102, 117, 110, 99, 32] ++ Lib.itoa f.args ++ [32] ++ Lib.itoa f.locals) [10] (by simp only [List.length_append, List.length_cons, List.length_nil]; omega)
      have HD1 : Hid (∀ u, Calls Tryz.prog 24 #[.int .i64 f.args] u fun e w' => e = .returned (.string ⟨(Lib.itoa f.args).toArray⟩) ∧ Kept u w') := hide fun u => digits_any ha.1 (by omega) u
      have HD2 : Hid (∀ u, Calls Tryz.prog 24 #[.int .i64 f.locals] u fun e w' => e = .returned (.string ⟨(Lib.itoa f.locals).toArray⟩) ∧ Kept u w') := hide fun u => digits_any hlo.1 (by omega) u
      have HPRE : Hid ((p.take k).flatMap fnT ++ [102, 117, 110, 99, 32] ++ Lib.itoa f.args ++ [32] ++ Lib.itoa f.locals ++ [10] = (p.take k).flatMap fnT ++ lineT [102, 117, 110, 99] [f.args, f.locals]) := hide (by rw [fnLine]; simp)
      rw [unhide HPRE] at E5
      generalize (ByteArray.mk ((p.take k).flatMap fnT).toArray) = S0 at *
      generalize (ByteArray.mk ((p.take k).flatMap fnT ++ [102, 117, 110, 99, 32]).toArray) = S1 at *
      generalize (ByteArray.mk ((p.take k).flatMap fnT ++ [102, 117, 110, 99, 32] ++ Lib.itoa f.args).toArray) = S2 at *
      generalize (ByteArray.mk ((p.take k).flatMap fnT ++ [102, 117, 110, 99, 32] ++ Lib.itoa f.args ++ [32]).toArray) = S3 at *
      generalize (ByteArray.mk ((p.take k).flatMap fnT ++ [102, 117, 110, 99, 32] ++ Lib.itoa f.args ++ [32] ++ Lib.itoa f.locals).toArray) = S4 at *
      generalize hS5 : (ByteArray.mk ((p.take k).flatMap fnT ++ lineT [102, 117, 110, 99] [f.args, f.locals]).toArray) = S5 at *
      generalize (ByteArray.mk (Lib.itoa f.args).toArray) = D1 at *
      generalize (ByteArray.mk (Lib.itoa f.locals).toArray) = D2 at *
      replace J1 : ¬ 9223372036854775807 < S0.size + 5 := J1
      replace J3 : ¬ 9223372036854775807 < S2.size + 1 := J3
      replace J5 : ¬ 9223372036854775807 < S4.size + 1 := J5
      have HS5 := hide hS5
      have HF := hide hf
      have HOP := hide hop
      have HIC := hide hic
      have HC2 := hide c2
      clear hS5 hf hop hic hpl ia il hnc HPRE
      go_wp2_with fail
      refine wp_region_held_drew (S := fun q => Kept w q) (by kernel_rfl) (unhide HW).drew (fun hHeld => ?_)
      refine planY [0, 1, 2, 3, 4, 5, 6, 10, 11, 12, 13, 14] ?_
      repeat
        refine takeY (v := ?_) hHeld (fun u hSu => ?_) ?_
        rotate_left
        · (have y0 := Kept.cell hSu c0; have y1 := Kept.cell hSu c1; (try dsimp only at y0 y1); go_simp) <;> with_reducible rfl
        try simp only [Act.put, List.setIfInBounds_toArray, List.set_cons_zero, List.set_cons_succ]
      refine endY ?_
      refine take_one (i := 7) rfl (by kernel_rfl) (fun K hK => ?_)
      go_simp
      refine ((unhide HD1) _).mono ?_
      rintro _ w2 ⟨rfl, k2⟩
      have hS2 : Kept w w2 := hHeld.trans k2
      clear k2
      refine hK.out _ _ hS2 (fun hHeld => ?_)
      clear hK K
      try simp only [Act.put, List.setIfInBounds_toArray, List.set_cons_zero, List.set_cons_succ]
      refine planY [8, 9] ?_
      repeat
        refine takeY (v := ?_) hHeld (fun u hSu => ?_) ?_
        rotate_left
        · go_simp <;> with_reducible rfl
        try simp only [Act.put, List.setIfInBounds_toArray, List.set_cons_zero, List.set_cons_succ]
      refine endY ?_
      refine take_one (i := 15) rfl (by kernel_rfl) (fun K hK => ?_)
      go_simp
      refine ((unhide HD2) _).mono ?_
      rintro _ w3 ⟨rfl, k3⟩
      have hS3 : Kept w w3 := hHeld.trans k3
      clear k3
      refine hK.out _ _ hS3 (fun hHeld => ?_)
      clear hK K
      try simp only [Act.put, List.setIfInBounds_toArray, List.set_cons_zero, List.set_cons_succ]
      refine take_one (i := 16) rfl (by kernel_rfl) (fun K hK => ?_)
      go_simp
      refine hK.out _ _ hHeld (fun hHeld => ?_)
      clear hK K
      try simp only [Act.put, List.setIfInBounds_toArray, List.set_cons_zero, List.set_cons_succ]
      refine take_one (i := 17) rfl (by kernel_rfl) (fun K hK => ?_)
      go_simp
      refine hK.out _ _ hHeld (fun hHeld => ?_)
      clear hK K
      try simp only [Act.put, List.setIfInBounds_toArray, List.set_cons_zero, List.set_cons_succ]
      refine take_one (i := 18) rfl (by kernel_rfl) (fun K hK => ?_)
      go_simp
      refine hK.out _ _ hHeld (fun hHeld => ?_)
      clear hK K
      try simp only [Act.put, List.setIfInBounds_toArray, List.set_cons_zero, List.set_cons_succ]
      refine wpAnyH_done (by kernel_rfl) ?_ _
      have HK3 := hide hHeld
      clear hHeld hS2 hS3 E1 E2 E3 E4 E5 J1 J2 J3 J4 J5 HD1 HD2
      go_wp2_with fail
      generalize hNC : f.code.length = nc at *
      have HNC := hide hNC
      clear hNC
      go_loopw [3, 5] (fun s3 s5 wi => ∃ i : Nat, i ≤ nc ∧ s5 = .int .i64 i ∧ s3 = .string ⟨((p.take k).flatMap fnT ++ lineT [102, 117, 110, 99] [f.args, f.locals] ++ (f.code.take i).flatMap opT).toArray⟩ ∧ Hid (Kept w wi)) (fun _ s5 _ => nc - (intOf s5).toNat)
      case atStart => exact ⟨0, Nat.zero_le _, rfl, by rw [← unhide HS5]; simp, HK3⟩
      case round =>
        obtain ⟨i, hin, rfl, rfl, HV⟩ := hrel
        by_cases hi : i < nc
        · obtain ⟨x, hx⟩ : ∃ x, f.code[i]? = some x := ⟨_, List.getElem?_eq_getElem (by rw [unhide HNC]; exact hi)⟩
          obtain ⟨b2, o2, rfl, d0, d1⟩ := (unhide HIC) i x hx
          replace d0 := (unhide HV).cell d0
          replace d1 := (unhide HV).cell d1
          have c2' := (unhide HV).cell c2
          have hi0 : (0 : Int) ≤ (i : Int) := by omega
          have hi1 : (i : Int) < (nc : Int) := by omega
          obtain ⟨hx1, hx2, hx3⟩ := (unhide HOP) x (List.mem_of_getElem? hx)
          obtain ⟨kd, av⟩ := x
          obtain ⟨kd, rfl⟩ := Int.eq_ofNat_of_zero_le hx1.1
          have hkd : kd < 17 := by have := hx1.2; omega
          have hav : 0 ≤ av ∧ av ≤ 999 := hx2
          obtain ⟨PRE, hPRE⟩ : ∃ P, P = (p.take k).flatMap fnT ++ lineT [102, 117, 110, 99] [f.args, f.locals] ++ (f.code.take i).flatMap opT := ⟨_, rfl⟩
          have hpl : PRE.length ≤ 20000 := by
            have q1 := takeT_len (unhide HO) k
            have q2 := line_len [102, 117, 110, 99] [f.args, f.locals] (by simp) (by simp) (by simp; unfold I64; omega)
            have q3 := flatT_len opT 100 (f.code.take i) (fun y hy => opT_len ((unhide HOP) y (List.mem_of_mem_take hy)).2.1)
            have q4 : (f.code.take i).length * 100 ≤ 24 * 100 := Nat.mul_le_mul_right _ (by simp; omega)
            rw [hPRE]
            simp only [List.length_append]
            omega
          rw [← hPRE]
          have htl := tk_len kd
          have hi2 := itoa_len (z := av) (by unfold I64; omega)
          obtain ⟨E1, J1⟩ := str_add PRE (tkS.getD kd ([], 0)).1 (by omega)
          obtain ⟨E2, J2⟩ := str_add (PRE ++ (tkS.getD kd ([], 0)).1) [32] (by simp only [List.length_append, List.length_cons, List.length_nil]; omega)
          obtain ⟨E3, J3⟩ := str_add (PRE ++ (tkS.getD kd ([], 0)).1 ++ [32]) (Lib.itoa av) (by simp only [List.length_append, List.length_cons, List.length_nil]; omega)
          obtain ⟨E4, J4⟩ := str_add (PRE ++ (tkS.getD kd ([], 0)).1) [10] (by simp only [List.length_append, List.length_cons, List.length_nil]; omega)
          obtain ⟨E5, J5⟩ := str_add (PRE ++ (tkS.getD kd ([], 0)).1 ++ [32] ++ Lib.itoa av) [10] (by simp only [List.length_append, List.length_cons, List.length_nil]; omega)
          have HD3 : Hid (∀ u, Calls Tryz.prog 24 #[.int .i64 av] u fun e w' => e = .returned (.string ⟨(Lib.itoa av).toArray⟩) ∧ Kept u w') := hide fun u => digits_any hav.1 (by omega) u
          have HX := hide hx
          generalize hS0 : (ByteArray.mk PRE.toArray) = S0 at *
          clear hx hpl htl hi2 hx1 hx2
          go_wp2_with fail
          obtain ⟨X, hX⟩ : ∃ r, r = wr.heap.size := ⟨_, rfl⟩
          rw [← hX]
          have HZ : Hid (Kept w (wr.alloc (.cells #[.int .i64 (kd : Int), .int .i64 av] 44)) ∧ (wr.alloc (.cells #[.int .i64 (kd : Int), .int .i64 av] 44)).heap[X]? = some (.cells #[.int .i64 (kd : Int), .int .i64 av] 44)) := hide ⟨(unhide HV).alloc _, by rw [hX]; exact lays_new rfl⟩
          refine wp_region_held_drew (S := fun q => Kept w q ∧ q.heap[X]? = some (.cells #[.int .i64 (kd : Int), .int .i64 av] 44)) (by kernel_rfl) ⟨(unhide HZ).1.drew, (unhide HZ).2⟩ (fun hHeld => ?_)
          clear hX
          refine planY [0, 2, 3] ?_
          repeat
            refine takeY (v := ?_) hHeld (fun u hSu => ?_) ?_
            rotate_left
            · (have y0 := cell_lays hSu.2 0; (try dsimp only at y0); go_simp) <;> with_reducible rfl
            try simp only [Act.put, List.setIfInBounds_toArray, List.set_cons_zero, List.set_cons_succ]
          refine endY ?_
          refine take_one (i := 1) rfl (by kernel_rfl) (fun K hK => ?_)
          go_simp
          refine (names_any _).mono ?_
          rintro _ w4 ⟨g4, rfl, n4, k4⟩
          have hS4 : Kept w w4 ∧ w4.heap[X]? = some (.cells #[.int .i64 (kd : Int), .int .i64 av] 44) := ⟨hHeld.1.trans k4, lays_kept k4 hHeld.2⟩
          have m4 := n4 kd hkd
          clear k4 n4
          refine hK.out _ _ hS4 (fun hHeld => ?_)
          clear hK K
          try simp only [Act.put, List.setIfInBounds_toArray, List.set_cons_zero, List.set_cons_succ]
          unfold strV at m4
          have hkd0 : (0 : Int) ≤ (kd : Int) := by omega
          have hkd1 : (kd : Int) < 17 := by omega
          have HA := hide fun u => hasA_any kd hkd u
          have HOT : Hid (opT ((kd : Int), av) = if (tkS.getD kd ([], 0)).2 = 0 then (tkS.getD kd ([], 0)).1 ++ [10] else (tkS.getD kd ([], 0)).1 ++ [32] ++ Lib.itoa av ++ [10]) := hide (by
            unfold opT
            simp only [Int.toNat_natCast]
            split <;> simp [lineT, Lib.join_cons, Lib.joinTail])
          generalize (tkS.getD kd ([], 0)).2 = nn at *
          generalize (tkS.getD kd ([], 0)).1 = nm at *
          generalize (ByteArray.mk nm.toArray) = NM at *
          generalize hT1 : (ByteArray.mk (PRE ++ nm).toArray) = T1 at *
          refine take_one (i := 4) rfl (by kernel_rfl) (fun K hK => ?_)
          go_simp
          refine hK.out _ _ hHeld (fun hHeld => ?_)
          clear hK K
          try simp only [Act.put, List.setIfInBounds_toArray, List.set_cons_zero, List.set_cons_succ]
          refine take_one (i := 5) rfl (by kernel_rfl) (fun K hK => ?_)
          go_simp
          refine hK.out _ _ hHeld (fun hHeld => ?_)
          clear hK K
          try simp only [Act.put, List.setIfInBounds_toArray, List.set_cons_zero, List.set_cons_succ]
          refine take_one (i := 6) rfl (by kernel_rfl) (fun K hK => ?_)
          go_simp
          refine hK.out _ _ hHeld (fun hHeld => ?_)
          clear hK K
          try simp only [Act.put, List.setIfInBounds_toArray, List.set_cons_zero, List.set_cons_succ]
          refine take_one (i := 7) rfl (by kernel_rfl) (fun K hK => ?_)
          go_simp
          refine hK.out _ _ hHeld (fun hHeld => ?_)
          clear hK K
          try simp only [Act.put, List.setIfInBounds_toArray, List.set_cons_zero, List.set_cons_succ]
          refine wpAnyH_done (by kernel_rfl) ?_ _
          have HK4 := hide hHeld
          clear hHeld hS4 m4 E1 J1
          have x0 := cell_lays (unhide HK4).2 0
          have x1 := cell_lays (unhide HK4).2 1
          simp only [List.getElem?_toArray, List.getElem?_cons_zero, List.getElem?_cons_succ] at x0 x1
          generalize hT2 : (ByteArray.mk (PRE ++ nm ++ [32]).toArray) = T2 at *
          generalize hT3 : (ByteArray.mk (PRE ++ nm ++ [32] ++ Lib.itoa av).toArray) = T3 at *
          generalize hT4 : (ByteArray.mk (PRE ++ nm ++ [10]).toArray) = T4 at *
          generalize hT5 : (ByteArray.mk (PRE ++ nm ++ [32] ++ Lib.itoa av ++ [10]).toArray) = T5 at *
          generalize (ByteArray.mk (Lib.itoa av).toArray) = DA at *
          replace J2 : ¬ 9223372036854775807 < T1.size + 1 := J2
          replace J4 : ¬ 9223372036854775807 < T1.size + 1 := J4
          replace J5 : ¬ 9223372036854775807 < T3.size + 1 := J5
          by_cases hn0 : nn = 0
          · have HN : Hid (T4 = ⟨((p.take k).flatMap fnT ++ lineT [102, 117, 110, 99] [f.args, f.locals] ++ (f.code.take (i + 1)).flatMap opT).toArray⟩) := hide (by
              rw [flatT_snoc opT f.code (unhide HX), unhide HOT, if_pos hn0, ← hT4, hPRE]
              simp)
            have hnn : (nn != 0) = false := by simp [hn0]
            rw [hnn] at HA
            clear hT1 hT2 hT3 hT4 hT5 hnn hn0 hPRE hS0 E2 E3 E5 J2 J3 J5 HOT HX
            go_wp2_with fail
            refine ((unhide HA) _).mono ?_
            rintro _ w5 ⟨rfl, k5⟩
            have HK5 := hide ((unhide HK4).1.trans k5)
            clear k5 x0 x1 HA
            go_wp2_with fail
            go_roundw
            case rel => exact ⟨i + 1, by omega, by go_num, by rw [← unhide HN], HK5⟩
            case measure => simp [intOf]; omega
          · have HN : Hid (T5 = ⟨((p.take k).flatMap fnT ++ lineT [102, 117, 110, 99] [f.args, f.locals] ++ (f.code.take (i + 1)).flatMap opT).toArray⟩) := hide (by
              rw [flatT_snoc opT f.code (unhide HX), unhide HOT, if_neg hn0, ← hT5, hPRE]
              simp)
            have hnn : (nn != 0) = true := by simpa using hn0
            rw [hnn] at HA
            clear hT1 hT2 hT3 hT4 hT5 hnn hn0 hPRE hS0 E4 J4 HOT HX
            go_wp2_with fail
            refine ((unhide HA) _).mono ?_
            rintro _ w5 ⟨rfl, k5⟩
            have HK5 := hide (And.intro ((unhide HK4).1.trans k5) (lays_kept k5 (unhide HK4).2))
            clear k5 x0 x1 HA
            have x0 := cell_lays (unhide HK5).2 0
            have x1 := cell_lays (unhide HK5).2 1
            simp only [List.getElem?_toArray, List.getElem?_cons_zero, List.getElem?_cons_succ] at x0 x1
            go_wp2_with fail
            refine ((unhide HD3) _).mono ?_
            rintro _ w6 ⟨rfl, k6⟩
            have HK6 := hide ((unhide HK5).1.trans k6)
            clear k6 x0 x1 HD3
            go_wp2_with fail
            go_roundw
            case rel => exact ⟨i + 1, by omega, by go_num, by rw [← unhide HN], HK6⟩
            case measure => simp [intOf]; omega
        · obtain rfl : i = nc := by omega
          have c2' := (unhide HV).cell c2
          have HN2 : Hid (((p.take k).flatMap fnT ++ lineT [102, 117, 110, 99] [f.args, f.locals] ++ (f.code.take i).flatMap opT) = (p.take (k + 1)).flatMap fnT) := hide (by
            rw [flatT_snoc fnT p (unhide HF), List.take_of_length_le (l := f.code) (by rw [unhide HNC]; exact Nat.le_refl _)]
            simp [fnT])
          rw [unhide HN2]
          generalize hSS : (ByteArray.mk ((p.take (k + 1)).flatMap fnT).toArray) = SS at *
          have HSS := hide hSS
          clear hSS
          go_wp2_with fail
          go_roundw
          case rel => exact ⟨k + 1, by omega, by go_num, by rw [unhide HSS], HV⟩
          case measure => simp [intOf]; omega
    · obtain rfl : k = n := by omega
      have HN2 : Hid ((p.take k).flatMap fnT = showT p) := hide (by rw [List.take_of_length_le (l := p) (by rw [unhide HN]; exact Nat.le_refl _)]; rfl)
      rw [unhide HN2]
      generalize hSS : (ByteArray.mk (showT p).toArray) = SS at *
      have HSS := hide hSS
      clear hSS
      go_wp2_with fail
      go_ret
      exact ⟨by rw [strV, unhide HSS]; rfl, unhide HW⟩
theorem row_pad (b : Nat) (w : World) (v : Value) (xs : List (List UInt8)) (hrow : w.ownsRow b 9 1 v xs.length (xs.map strV)) (hb : b ≤ w.heap.size) (hn : xs.length ≤ 1000000) :
    ∃ v' w', (Builtin.append_ #[62, 62] 62 #[v, .slice (some ⟨w.heap.size, 0, none⟩) 2 2]).run Tryz.prog (w.alloc (.cells #[.string ⟨#[]⟩, .string ⟨#[]⟩] 9)) = .ok v' w' ∧ w'.ownsRow b 9 1 v' (xs.length + 2) ((xs ++ [[], []]).map strV) ∧ Below b w w' := by
  obtain ⟨i0, hi0, hz0, hz1, hz2⟩ := info_parts strInfo
  have hL : (w.alloc (.cells #[.string ⟨#[]⟩, .string ⟨#[]⟩] 9)).heap[w.heap.size]? = some (.cells #[.string ⟨#[]⟩, .string ⟨#[]⟩] 9) := lays_new rfl
  obtain ⟨v', w2, hrun, hown, hgrow, _, _⟩ := run_append_own_at (P := Tryz.prog) (w := w.alloc (.cells #[.string ⟨#[]⟩, .string ⟨#[]⟩] 9)) b 62 62 9 i0 _ 1 16 Tryz.underlying62 hi0 hz0 hz1 hz2 rfl (by decide) v xs.length (xs.map strV) (hrow.alloc _) ⟨w.heap.size, 0, none⟩ 2 2 [strV [], strV []] rfl (fun j u hj => by
      have : ((⟨w.heap.size, 0, none⟩ : Addr).add j) = ⟨w.heap.size, j, none⟩ := by unfold Addr.add; split <;> simp_all
      rw [this, cell_lays hL]; simpa [strV] using hj) (fun u hu => by
      simp only [List.mem_cons, List.not_mem_nil, or_false, or_self] at hu
      subst hu
      rfl) (by unfold maxLen; omega) (by omega) (by simp; omega)
  refine ⟨v', w2, hrun, by simpa using hown, ?_⟩
  exact Below.grown (a := w) (w := w.alloc (.cells #[.string ⟨#[]⟩, .string ⟨#[]⟩] 9)) ⟨rfl, rfl, rfl, by simp, fun g hg => Below.heap_alloc w _ g (by omega)⟩ hgrow (Nat.le_trans hb (by simp)) (fun g hg => (World.ownsRow.lt hrow g hg).1)
end Go.Proofs.YtjioipkfnekigaaGreatDoor
