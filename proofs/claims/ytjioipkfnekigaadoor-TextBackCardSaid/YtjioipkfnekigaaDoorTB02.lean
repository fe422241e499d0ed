/- TextB, TextCc, TextC, ProgS, FlowS, OpM, FlowM -/
import Derived.Test.YtjioipkfnekigaaDoorTB01
import Derived.Maps.AppendAt
import Derived.Lib.Builder
import Derived.Laws.Externs
import Derived.Lib.UnsafeStr
set_option maxRecDepth 100000
set_option maxHeartbeats 8000000
namespace Go.Proofs.YtjioipkfnekigaaDoor
open Go.RowKit Go.Maps
theorem strs_app (a b : List UInt8) : (ByteArray.mk a.toArray) ++ (ByteArray.mk b.toArray) = ⟨(a ++ b).toArray⟩ := by
  apply ByteArray.ext
  simp
theorem flat_strs (xs : List (List UInt8)) : (xs.map (fun x => ByteArray.mk x.toArray)).map (·.data.toList) = xs := by simp [Function.comp_def]
theorem wLine_any (w : World) (g c : Nat) (xs : List (List UInt8)) (hc : xs.length ≤ c) (h : ∀ (j : Nat) x, xs[j]? = some x → w.cell? ⟨g, j, none⟩ = some (strV x)) (hg : g < w.heap.size) (hl : (Lib.join xs [32]).length ≤ 1000000) (hx : xs.length ≤ 1000) :
    Calls Tryd.prog 19 #[.slice (some ⟨g, 0, none⟩) xs.length c] w fun e w' => e = .returned (strV (Lib.join xs [32] ++ [10])) ∧ Kept w w' := by
  have HC : Hid (Calls Tryd.prog 33 #[.slice (some ⟨g, 0, none⟩) xs.length c, .string ⟨#[32]⟩] w fun e w' => e = .returned (.string ⟨(Lib.join xs [32]).toArray⟩) ∧ Kept w w') := hide (by
    have := Tryd.strings_Join g 0 c (xs.map (fun x => ByteArray.mk x.toArray)) ⟨#[32]⟩ w (fun j x hj => by
      rw [List.getElem?_map, Option.map_eq_some_iff] at hj
      obtain ⟨y, hy, rfl⟩ := hj
      rw [Nat.zero_add]
      exact h j y hy) hg (by simp; omega) (by simpa using hc) (by rw [flat_strs]; exact Nat.le_trans hl (by omega))
    rw [flat_strs, List.length_map] at this
    exact this)
  have hE := strs_app (Lib.join xs [32]) [10]
  have hJ : ¬ 9223372036854775807 < (ByteArray.mk (Lib.join xs [32]).toArray).size + 1 := by rw [show (ByteArray.mk (Lib.join xs [32]).toArray).size = (Lib.join xs [32]).length by simp [ByteArray.size]]; omega
  unfold strV
  generalize (ByteArray.mk (Lib.join xs [32]).toArray) = J at *
  generalize (ByteArray.mk (Lib.join xs [32] ++ [10]).toArray) = R at *
  generalize xs.length = n at *
  clear h hl hx hc
  go_enter Tryd.func19, Tryd.ntmps19
  go_wp2_with fail
  refine (unhide HC).mono ?_
  rintro _ w2 ⟨rfl, k2⟩
  have HK := hide k2
  clear k2 HC
  go_wp2_with fail
  go_ret
  exact ⟨rfl, unhide HK⟩
theorem join_len (xs : List (List UInt8)) (k : Nat) (h : ∀ x ∈ xs, x.length ≤ k) : (Lib.join xs [32]).length ≤ xs.length * (k + 1) := by
  induction xs with
  | nil => simp [Lib.join]
  | cons x xs ih =>
    have h1 := h x (by simp)
    have h2 := ih (fun y hy => h y (by simp [hy]))
    cases xs with
    | nil => simp [Lib.join, List.intercalate] at *; omega
    | cons y ys =>
      simp only [Lib.join, List.intercalate, List.intersperse, List.flatten_cons, List.length_append, List.length_cons, List.length_nil] at *
      rw [Nat.add_mul]
      omega
theorem dec_len (n : Nat) : ∀ k, n < 10 ^ k → 0 < k → (Lib.decDigits n).length ≤ k := by
  intro k
  induction k generalizing n with
  | zero => intro _ h; omega
  | succ k ih =>
    intro h _
    unfold Lib.decDigits
    split
    · simp
    · have h1 : n / 10 < 10 ^ k := by rw [Nat.pow_succ] at h; omega
      have h2 : 0 < k := by
        cases k with
        | zero => simp at h; omega
        | succ k => omega
      have := ih (n / 10) h1 h2
      simp
      omega
theorem itoa_len {z : Int} (h : I64 z) : (Lib.itoa z).length ≤ 20 := by
  unfold Lib.itoa
  obtain ⟨h1, h2⟩ := h
  split
  · have := dec_len z.natAbs 19 (by simp; omega) (by omega)
    simp
    omega
  · have := dec_len z.toNat 19 (by simp; omega) (by omega)
    omega
theorem row_same' {w w' : World} {base : Nat} {e : TypeId} {size : Nat} {v : Value} {n : Nat} {xs : List Value} (h : w.ownsRow base e size v n xs) (k : Kept w w') : w'.ownsRow base e size v n xs := by
  refine ⟨h.1, ?_⟩
  rcases h.2 with hn | ⟨g, cap, cur, rfl, hb, hgg, rest⟩
  · exact .inl hn
  · exact .inr ⟨g, cap, cur, rfl, hb, lays_kept k hgg, rest⟩
theorem tLine_any (w : World) (word : List UInt8) (vl : Value) (l : List Int) (h : IntsW w vl l) (hw : word.length ≤ 1000) (hl : l.length ≤ 10) (hz : ∀ z ∈ l, I64 z) (ht : TabW w) :
    Calls Tryd.prog 10 #[.string ⟨word.toArray⟩, vl] w fun e w' => e = .returned (strV (lineT word l)) ∧ Kept w w' := by
  obtain ⟨i0, hi0, hz0, hz1, hz2⟩ := info_parts strInfo
  have HC := hide (numbers_any (w.alloc (.cells #[.string ⟨word.toArray⟩] 9)) vl l (h.kept ((Kept.refl w).alloc _)) (by omega) hz (ht.kept ((Kept.refl w).alloc _)))
  have HRW : Hid ((w.alloc (.cells #[.string ⟨word.toArray⟩] 9)).ownsRow w.heap.size 9 1 (.slice (some ⟨w.heap.size, 0, none⟩) 1 1) 1 [strV word]) := hide ⟨rfl, .inr ⟨w.heap.size, 1, _, rfl, Nat.le_refl _, lays_new rfl, Nat.le_refl _, by unfold maxLen; omega, rfl, rfl⟩⟩
  have HLJ : Hid ((Lib.join (word :: l.map Lib.itoa) [32]).length ≤ 1000000) := hide (by
    have := join_len (word :: l.map Lib.itoa) 1000 (fun x hx => by
      rcases List.mem_cons.1 hx with rfl | hx
      · exact hw
      · obtain ⟨z, hz', rfl⟩ := List.mem_map.1 hx
        have := itoa_len (hz z hz')
        omega)
    simp only [List.length_cons, List.length_map] at this
    have h2 : (l.length + 1) * (1000 + 1) ≤ 11 * 1001 := Nat.mul_le_mul (by omega) (by omega)
    omega)
  unfold lineT
  obtain ⟨oa, cap, rfl, _⟩ := h
  generalize hN : l.length = n at *
  have HN := hide hN
  clear hz ht hw hN
  generalize (ByteArray.mk word.toArray) = WD at *
  go_enter Tryd.func10, Tryd.ntmps10
  go_wp2_with fail
  refine (unhide HC).mono ?_
  rintro _ w2 ⟨g, rfl, ⟨cur, h2, hs, hc⟩, hge, k2⟩
  obtain ⟨v3, w3, hrun, hown, hgrow, _, _⟩ := run_append_own_at (P := Tryd.prog) (w := w2) w.heap.size 55 55 9 i0 _ 1 16 Tryd.underlying55 hi0 hz0 hz1 hz2 rfl (by decide) _ 1 [strV word] (row_same' (unhide HRW) k2) ⟨g, 0, none⟩ n n ((l.map Lib.itoa).map strV) (by simp [unhide HN]) (fun j u hj => by
      have : ((⟨g, 0, none⟩ : Addr).add j) = ⟨g, j, none⟩ := by unfold Addr.add; split <;> simp_all
      rw [this, cell_lays h2]
      rw [List.getElem?_map, Option.map_eq_some_iff] at hj
      obtain ⟨x, hx, rfl⟩ := hj
      exact hc j x hx) (fun u hu => by
      obtain ⟨x, _, rfl⟩ := List.mem_map.1 hu
      rfl) (by unfold maxLen; omega) (by omega) (by have := k2.size; simp at this; omega)
  have hK3 : Kept w w3 := Below.grown (a := w) (w := w2) ((Kept.refl w).alloc _ |>.trans k2) hgrow (by have := k2.size; simp at this; omega) (fun g hg => (World.ownsRow.lt (row_same' (unhide HRW) k2) g hg).1)
  obtain ⟨g3, cap3, cur3, rfl, hg3, hcap3, hcur3⟩ : ∃ g3 cap3 cur3, v3 = .slice (some ⟨g3, 0, none⟩) (1 + n) cap3 ∧ w3.heap[g3]? = some (.cells cur3 9) ∧ 1 + n ≤ cap3 ∧ ∀ (j : Nat) u, ([strV word] ++ (l.map Lib.itoa).map strV)[j]? = some u → cur3[j]? = some u := by
    obtain ⟨hl0, ⟨_, h0⟩ | ⟨g3, cap3, cur3, rfl, _, hh, h1, _, _, htk⟩⟩ := hown
    · omega
    · refine ⟨g3, cap3, cur3, rfl, hh, h1, fun j u hj => ?_⟩
      rw [← htk, List.getElem?_take] at hj
      split at hj
      · simpa using hj
      · cases hj
  have HL : Hid (Calls Tryd.prog 19 #[.slice (some ⟨g3, 0, none⟩) (1 + n) cap3] w3 fun e w' => e = .returned (strV (Lib.join (word :: l.map Lib.itoa) [32] ++ [10])) ∧ Kept w3 w') := hide (by
    have hlen : (word :: l.map Lib.itoa).length = 1 + n := by simp [unhide HN]; omega
    have := wLine_any w3 g3 cap3 (word :: l.map Lib.itoa) (by omega) (fun j x hj => by
      rw [cell_lays hg3]
      exact hcur3 j _ (by rw [show [strV word] ++ (l.map Lib.itoa).map strV = (word :: l.map Lib.itoa).map strV by simp, List.getElem?_map, hj]; rfl)) (Array.getElem?_eq_some_iff.1 hg3).1 (unhide HLJ) (by omega)
    rwa [hlen] at this)
  have HR := hide hrun
  have HK := hide hK3
  clear hK3 hrun hown hgrow hg3 hcap3 hcur3 h2 hs hc hge k2 HRW HLJ HC
  go_wp2_with (at_builtin; refine unhide ?_)
  refine hide ?_
  refine wpList_appR _ rfl (.tmp 6) (.tmp 8) 55 rfl rfl rfl (unhide HR) ?_
  clear HR
  go_wp2_with fail
  refine (unhide HL).mono ?_
  rintro _ w4 ⟨rfl, k4⟩
  replace HK := hide ((unhide HK).trans k4)
  clear k4 HL
  unfold strV
  generalize hRR : (ByteArray.mk (Lib.join (word :: l.map Lib.itoa) [32] ++ [10]).toArray) = R at *
  go_wp2_with fail
  go_ret
  exact ⟨by rw [strV, hRR]; rfl, unhide HK⟩
def TKAt (w : World) : Prop := ∀ k, k < 17 → w.cell? ⟨0, k * 2, none⟩ = some (strV (tkS.getD k ([], 0)).1) ∧ w.cell? ⟨0, k * 2 + 1, none⟩ = some (.int .i64 ((tkS.getD k ([], 0)).2 : Nat))
theorem TKAt.kept {w w' : World} (h : TKAt w) (k : Kept w w') : TKAt w' := fun i hi => ⟨k.cell (h i hi).1, k.cell (h i hi).2⟩
theorem tk_len (k : Nat) : (tkS.getD k ([], 0)).1.length ≤ 6 := by
  by_cases h : k < 17
  · revert h; revert k; decide
  · rw [show tkS.getD k ([], 0) = ([], 0) by simp [List.getD, List.getElem?_eq_none (show tkS.length ≤ k by simp [tkS]; omega)]]; simp
theorem opLine_any (w : World) (k : Nat) (a : Int) (hk : k < 17) (ha : I64 a) (ht : TabW w) (htk : TKAt w) :
    Calls Tryd.prog 11 #[.agg #[.int .i64 k, .int .i64 a]] w fun e w' => e = .returned (strV (opT (k, a))) ∧ Kept w w' := by
  have H0 : Hid (∀ u, Kept w u → Calls Tryd.prog 10 #[.string ⟨(tkS.getD k ([], 0)).1.toArray⟩, .slice none 0 0] u fun e w' => e = .returned (strV (lineT (tkS.getD k ([], 0)).1 [])) ∧ Kept u w') := hide fun u hu => tLine_any u _ _ [] (IntsW.nil u) (by have := tk_len k; omega) (by simp) (by simp) (ht.kept hu)
  have H1 : Hid (∀ u b, Kept w u → u.heap[b]? = some (.cells #[.int .i64 a] 3) → Calls Tryd.prog 10 #[.string ⟨(tkS.getD k ([], 0)).1.toArray⟩, .slice (some ⟨b, 0, none⟩) 1 1] u fun e w' => e = .returned (strV (lineT (tkS.getD k ([], 0)).1 [a])) ∧ Kept u w') := hide fun u b hu hb => tLine_any u _ _ [a] ⟨_, _, rfl, by simp, fun i z hz => ⟨b, 0, rfl, by
      rw [cell_lays hb, Nat.zero_add]
      cases i with
      | zero => simpa using hz
      | succ i => simp at hz⟩⟩ (by have := tk_len k; omega) (by simp) (by simpa using ha) (ht.kept hu)
  have b0 : ∀ o : Obj, (w.alloc o).cell? ⟨0, k * 2, none⟩ = some (strV (tkS.getD k ([], 0)).1) := fun o => ((Kept.refl w).alloc o).cell (htk k hk).1
  have b1 : ∀ o : Obj, (w.alloc o).cell? ⟨0, k * 2 + 1, none⟩ = some (.int .i64 ((tkS.getD k ([], 0)).2 : Nat)) := fun o => ((Kept.refl w).alloc o).cell (htk k hk).2
  unfold opT
  simp only [Int.toNat_natCast]
  generalize (tkS.getD k ([], 0)).1 = wd at *
  generalize (tkS.getD k ([], 0)).2 = nn at *
  unfold strV at b0
  generalize (ByteArray.mk wd.toArray) = WD at *
  have hk0 : (0 : Int) ≤ (k : Int) := by omega
  have hk1 : (k : Int) < 17 := by omega
  clear ht htk
  by_cases hn : nn = 0
  · subst hn
    rw [if_pos rfl]
    go_enter Tryd.func11, Tryd.ntmps11
    go_wp2_with fail
    refine ((unhide H0) _ (((Kept.refl w).alloc _).alloc _)).mono ?_
    rintro _ w4 ⟨rfl, k4⟩
    have HK := hide ((((Kept.refl w).alloc (.cells #[.int .i64 (k : Int), .int .i64 a] 45)).alloc (.cells #[.string WD, .int .i64 0] 58)).trans k4)
    clear k4 H0 H1 b0 b1
    unfold strV
    generalize hRR : (ByteArray.mk (lineT wd []).toArray) = R at *
    go_wp2_with fail
    go_ret
    exact ⟨by rw [strV, hRR]; rfl, unhide HK⟩
  · rw [if_neg hn]
    have hn0 : ((nn : Int) == 0) = false := by simp; omega
    go_enter Tryd.func11, Tryd.ntmps11
    go_wp2_with fail
    refine ((unhide H1) _ _ ((((Kept.refl w).alloc _).alloc _).alloc _) (lays_new (by simp))).mono ?_
    rintro _ w4 ⟨rfl, k4⟩
    have HK := hide (((((Kept.refl w).alloc (.cells #[.int .i64 (k : Int), .int .i64 a] 45)).alloc (.cells #[.string WD, .int .i64 (nn : Int)] 58)).alloc (.cells #[.int .i64 a] 3)).trans k4)
    clear k4 H0 H1 b0 b1
    unfold strV
    generalize hRR : (ByteArray.mk (lineT wd [a]).toArray) = R at *
    go_wp2_with fail
    go_ret
    exact ⟨by rw [strV, hRR]; rfl, unhide HK⟩
theorem conv_up (w : World) (b : Nat) (hsh : w.shape? b = some (35, 2)) : (convert 32 75 (.pointer (some ⟨b, 0, none⟩))).run Tryd.prog w = .ok (.pointer (some ⟨b, 0, none⟩)) w := by
  obtain ⟨jj, hj, hjs⟩ := Option.map_eq_some_iff.1 (show (Tryd.prog.info? 35).map (·.size) = some 2 by kernel_rfl)
  simp [convert, run_underlying Tryd.underlying32, run_underlying Tryd.underlying75]
  conv => lhs; arg 2; whnf
  simp only [Sem.run, Sem.bind, Tryd.underlying32]
  change Sem.run Tryd.prog ((pure _ : Sem _) >>= _) w = _
  simp [run_underlying Tryd.underlying75, Conv.seenAt, viewAt, cellsIn, hsh, sizeOf, typeInfo, hj, hjs]
theorem conv_down (w : World) (b : Nat) (hsh : w.shape? b = some (35, 2)) : (convert 75 32 (.pointer (some ⟨b, 0, none⟩))).run Tryd.prog w = .ok (.pointer (some ⟨b, 0, none⟩)) w := by
  obtain ⟨jj, hj, hjs⟩ := Option.map_eq_some_iff.1 (show (Tryd.prog.info? 35).map (·.size) = some 2 by kernel_rfl)
  have hlies : liesAt Tryd.prog Tryd.prog.depth 35 (2 / Tryd.prog.cellsOf 35) 0 35 1 = true := by kernel_rfl
  simp [convert, run_underlying Tryd.underlying32, run_underlying Tryd.underlying75]
  conv => lhs; arg 2; whnf
  simp only [Sem.run, Sem.bind, Tryd.underlying75]
  change Sem.run Tryd.prog ((pure _ : Sem _) >>= _) w = _
  simp [run_underlying Tryd.underlying32, Conv.seenAt, viewAt, hsh, variablesAt, hlies, sizeOf, typeInfo, hj]
abbrev BuP (B b : Nat) (bs : List Value) (w : World) : Prop := Lib.BuilderAt 35 5 B b (.pointer (some ⟨b, 0, none⟩)) bs w
abbrev BuI (B b : Nat) (bs : List Value) (w : World) : Prop := Lib.IsBuilder 35 5 B b bs w
def BuK (w w' : World) : Prop := ∀ (g : Nat) (c : Array Value) (t : TypeId), t ≠ 35 → t ≠ 5 → w.heap[g]? = some (.cells c t) → w'.heap[g]? = some (.cells c t)
theorem BuK.trans {a b c : World} (h : BuK a b) (k : BuK b c) : BuK a c := fun g d t h1 h2 hg => k g d t h1 h2 (h g d t h1 h2 hg)
theorem BuK.kept {w w' : World} (k : Kept w w') : BuK w w' := fun _ _ _ _ _ hg => lays_kept k hg
theorem BuK.set {w : World} {b i : Nat} {c : Array Value} (hb : w.heap[b]? = some (.cells c 35)) (u : Value) : BuK w (w.setCell ⟨b, i, none⟩ u) := fun g d t h1 _ hg => lays_other hg (fun e => by
  simp only at e
  subst e
  rw [hb] at hg
  simp only [Option.some.injEq, Obj.cells.injEq] at hg
  exact h1 hg.2.1.symm) u
theorem copyCheck_any (w : World) (B b : Nat) (bs : List Value) (h : BuI B b bs w) :
    Calls Tryd.prog 18 #[.pointer (some ⟨b, 0, none⟩)] w fun e w' => e = .returned (.tuple #[]) ∧ BuP B b bs w' ∧ Below B w w' ∧ BuK w w' := by
  rcases h with ⟨hB, v, hb, hrow, hne⟩ | h
  · have c0 := cell_lays hb 0
    have f0 := frozen_lays hb 0
    have HP : Hid (BuP B b bs (w.setCell ⟨b, 0, none⟩ (.pointer (some ⟨b, 0, none⟩))) ∧ Below B w (w.setCell ⟨b, 0, none⟩ (.pointer (some ⟨b, 0, none⟩))) ∧ BuK w (w.setCell ⟨b, 0, none⟩ (.pointer (some ⟨b, 0, none⟩)))) := hide (by
      refine ⟨⟨hB, v, by have := lays_set hb 0 (.pointer (some ⟨b, 0, none⟩)); simpa using this, ?_, hne⟩, (Below.refl B w).setCell hB _, BuK.set hb _⟩
      refine ⟨hrow.1, ?_⟩
      rcases hrow.2 with hn | ⟨g, cap, cur, rfl, hb', hgg, rest⟩
      · exact .inl hn
      · exact .inr ⟨g, cap, cur, rfl, hb', lays_other hgg (fun e => hne (by simp only at e; rw [e]; rfl)) _, rest⟩)
    have hsh : w.shape? b = some (35, 2) := by simp [World.shape?, hb]
    clear hb hrow hne hB
    go_enter Tryd.func18, Tryd.ntmps18
    go_wp2
    rw [conv_up w b hsh]
    simp only [Result.andThen]
    rw [Oper.upon_value]
    go_wp2
    rw [run_callFunc_extern Tryd.func32 (by kernel_rfl) (by kernel_rfl) (by kernel_rfl) (e := Extern.AbiNoEscape.same) (by kernel_rfl)]
    rw [Lib.run_noEscape]
    simp only [Result.andThen]
    rw [Oper.upon_value]
    go_wp2
    rw [conv_down w b hsh]
    simp only [Result.andThen]
    rw [Oper.upon_value]
    go_wp2
    go_end0
    exact ⟨rfl, unhide HP⟩
  · have c0 := h.cell0
    have HP : Hid (BuP B b bs w ∧ Below B w w ∧ BuK w w) := hide ⟨h, Below.refl B w, fun _ _ _ _ _ h => h⟩
    obtain ⟨jj, hj, hjs⟩ := Option.map_eq_some_iff.1 (show (Tryd.prog.info? 35).map (·.size) = some 2 by kernel_rfl)
    clear h
    go_enter Tryd.func18, Tryd.ntmps18
    go_wp2
    rw [Lib.run_neq_ptr_same w _ Tryd.underlying32 hj]
    go_wp2
    go_end0
    exact ⟨rfl, unhide HP⟩
theorem wpList_appS {ops : Array Oper} {rest : List Oper} {o : Oper} {a : Act} {Q : Exit → Act → World → Prop} (w : World) (hgd : o.guard = none) (s x : Operand) (t tu : TypeId)
    (ho : o.op = .call { callee := .builtin .append, args := #[s, x], argTypes := #[t, tu] }) {v u v' : Value} {w' : World} (hs : a.eval s = v) (hx : a.eval x = u)
    (hr : (Builtin.append_ #[t, tu] o.type #[v, u]).run Tryd.prog w = .ok v' w') (h : wpList Tryd.prog ops Q rest (a.put o.dst v') w') : wpList Tryd.prog ops Q (o :: rest) a w :=
  wpList_plain hgd fun _ hK => by
    unfold Oper.wp execOp
    simp only [ho, resolve, invoke, builtin, Sem.run_bind, Sem.run_pure, Result.andThen_ok, List.map_toArray, List.map_cons, List.map_nil, hs, hx, hr]
    exact hK _ _ h
theorem u8InfoT : (Tryd.prog.info? 5).map (fun i => (i.zero, i.size, i.bytes)) = some (some (.int .u8 0), 1, 1) := by kernel_rfl
theorem write_any (w : World) (B b : Nat) (bs : List Value) (s : ByteArray) (h : BuI B b bs w) (hBw : B ≤ w.heap.size) (hl : bs.length + s.size ≤ 100000000000) :
    Calls Tryd.prog 9 #[.pointer (some ⟨b, 0, none⟩), .string s] w fun e w' => e = .returned (.tuple #[.int .i64 s.size, .nilIface]) ∧ BuP B b (bs ++ Lib.strCells s) w' ∧ Below B w w' ∧ BuK w w' := by
  obtain ⟨i0, hi0, hz0, hz1, hz2⟩ := info_parts u8InfoT
  have HC := hide (copyCheck_any w B b bs h)
  go_enter Tryd.func9, Tryd.ntmps9
  go_wp2_with fail
  refine (unhide HC).mono ?_
  rintro _ w2 ⟨rfl, ⟨hB, v, hb, hrow, hne⟩, k2, j2⟩
  obtain ⟨v3, w3, hrun, hown, hgrow, hat⟩ := Lib.run_append_own_string (P := Tryd.prog) w2 B 33 9 33 5 i0 Tryd.underlying33 Tryd.underlying9 hi0 hz0 hz1 hz2 v bs.length bs hrow s (by unfold maxLen; omega) (by omega) (by have := k2.size; omega)
  have c1 := cell_lays hb 1
  have hb3 := (hgrow.block b (Array.getElem?_eq_some_iff.1 hb).1 (fun e => hne e.symm)).trans hb
  have d1 := cell_lays hb3 1
  have f1 := frozen_lays hb3 1
  obtain ⟨oa, n3, cp, rfl⟩ : ∃ oa n cp, v3 = .slice oa n cp := by
    obtain ⟨_, ⟨rfl, _⟩ | ⟨g, cap, cur, rfl, _⟩⟩ := hown
    · exact ⟨_, _, _, rfl⟩
    · exact ⟨_, _, _, rfl⟩
  obtain ⟨ob, nb, cb, rfl⟩ : ∃ oa n cp, v = .slice oa n cp := by
    obtain ⟨_, ⟨rfl, _⟩ | ⟨g, cap, cur, rfl, _⟩⟩ := hrow
    · exact ⟨_, _, _, rfl⟩
    · exact ⟨_, _, _, rfl⟩
  have hn3 : ∀ g, (Value.slice oa n3 cp).ownBlock = some g → g ≠ b := fun g hg e => by
    obtain ⟨_, ⟨h0, _⟩ | ⟨g', cap, cur, h0, _, hh, _⟩⟩ := hown
    · rw [h0] at hg; cases hg
    · rw [h0] at hg
      obtain rfl : g' = g := by simpa [Value.ownBlock] using hg
      rw [e, hb3] at hh
      simp only [Option.some.injEq, Obj.cells.injEq] at hh
      exact absurd hh.2.1 (by decide)
  have j3 : BuK w2 w3 := fun g c t h1 h2 hg => (hgrow.block g (Array.getElem?_eq_some_iff.1 hg).1 (fun e => by
    obtain ⟨_, ⟨h0, _⟩ | ⟨g', cap, cur, h0, _, hh, _⟩⟩ := hrow
    · rw [h0] at e; cases e
    · rw [h0] at e
      obtain rfl : g = g' := by simpa [Value.ownBlock] using e
      rw [hg] at hh
      simp only [Option.some.injEq, Obj.cells.injEq] at hh
      exact h2 hh.2.1)).trans hg
  have HP : Hid (BuP B b (bs ++ Lib.strCells s) (w3.setCell ⟨b, 1, none⟩ (.slice oa n3 cp)) ∧ Below B w (w3.setCell ⟨b, 1, none⟩ (.slice oa n3 cp)) ∧ BuK w (w3.setCell ⟨b, 1, none⟩ (.slice oa n3 cp))) := hide (by
    refine ⟨⟨hB, .slice oa n3 cp, by have := lays_set hb3 1 (.slice oa n3 cp); simpa using this, ?_, fun e => hn3 _ e rfl⟩, (Below.grown k2 hgrow (by have := k2.size; omega) (fun g hg => (World.ownsRow.lt hrow g hg).1)).setCell hB _, (j2.trans j3).trans (BuK.set hb3 _)⟩
    rw [show (bs ++ Lib.strCells s).length = bs.length + s.size by rw [List.length_append, Lib.strCells_length]]
    refine ⟨hown.1, ?_⟩
    rcases hown.2 with hn | ⟨g, cap, cur, h0, hb', hgg, rest⟩
    · exact .inl hn
    · exact .inr ⟨g, cap, cur, h0, hb', lays_other hgg (hn3 g (by rw [h0]; rfl)) _, rest⟩)
  have HR := hide hrun
  clear h hBw hi0 hz0 hz1 hz2 HC k2 j2 j3 hB hb hrow hne hrun hown hgrow hat hb3 hn3
  have hsz : s.size ≤ 100000000000 := by omega
  clear hl
  go_wp2_with (at_builtin; refine unhide ?_)
  refine hide ?_
  refine wpList_appS _ rfl (.tmp 12) (.tmp 13) 33 9 rfl rfl rfl (unhide HR) ?_
  clear HR
  go_wp2_with fail
  go_ret2
  exact ⟨rfl, unhide HP⟩
theorem BuI.kept {w w' : World} {B b : Nat} {bs : List Value} (h : BuI B b bs w) (k : Kept w w') : BuI B b bs w' := by
  rcases h with ⟨hB, v, hb, hrow, hne⟩ | ⟨hB, v, hb, hrow, hne⟩
  · exact .inl ⟨hB, v, lays_kept k hb, row_same' hrow k, hne⟩
  · exact .inr ⟨hB, v, lays_kept k hb, row_same' hrow k, hne⟩
theorem BuI.new (w : World) : BuI w.heap.size w.heap.size [] (w.alloc (.cells #[.pointer none, .slice none 0 0] 35)) :=
  .inl ⟨Nat.le_refl _, .slice none 0 0, lays_new rfl, World.ownsRow_nil _ _ _ _, by simp [Value.ownBlock]⟩
def namesB (x : Int × Int) : Bool := decide (x.1 = 11) || decide (x.1 = 13)
def targets (c : List (Int × Int)) : List Nat := (c.filter namesB).map fun x => x.2.toNat
def codeOf (p : List Fn) (g : Nat) : List (Int × Int) := (p.getD g Fn.zero).code
def ReachC (p : List Fn) (f k : Nat) : Prop := ∀ S : Nat → Prop, S f → (∀ k j, k < p.length → S k → j ∈ targets (codeOf p k) → S j) → S k
theorem ReachC.step {p : List Fn} {f k j : Nat} (h : ReachC p f k) (hk : k < p.length) (hj : j ∈ targets (codeOf p k)) : ReachC p f j :=
  fun S h0 hs => hs k j hk (h S h0 hs) hj
theorem ReachC.trans {p : List Fn} {f g k : Nat} (h : ReachC p f g) (h' : ReachC p g k) : ReachC p f k :=
  fun S h0 hs => h' S (h S h0 hs) hs
def MonoB (B B' : List Bool) : Prop := B'.length = B.length ∧ ∀ k, B.getD k false = true → B'.getD k false = true
theorem MonoB.refl (B : List Bool) : MonoB B B := ⟨rfl, fun _ h => h⟩
theorem MonoB.trans {A B C : List Bool} (h : MonoB A B) (k : MonoB B C) : MonoB A C := ⟨k.1.trans h.1, fun i hi => k.2 i (h.2 i hi)⟩
theorem getB_set (B : List Bool) (k i : Nat) : (B.set k true).getD i false = true ↔ (i = k ∧ k < B.length) ∨ B.getD i false = true := by
  simp only [List.getD, List.getElem?_set]
  by_cases h : k = i
  · subst h
    by_cases hk : k < B.length
    · simp [hk]
    · simp [hk]
  · simp [h, Ne.symm h]
theorem MonoB.set (B : List Bool) (k : Nat) : MonoB B (B.set k true) := ⟨by simp, fun i hi => (getB_set B k i).2 (.inr hi)⟩
def VisitOk (p : List Fn) (B B' : List Bool) : Prop :=
  MonoB B B' ∧ ∀ k j, B'.getD k false = true → B.getD k false = false → j ∈ targets (codeOf p k) → B'.getD j false = true
theorem VisitOk.refl (p : List Fn) (B : List Bool) : VisitOk p B B := ⟨.refl B, fun k j h h' => by rw [h] at h'; cases h'⟩
theorem VisitOk.trans {p : List Fn} {A B C : List Bool} (h : VisitOk p A B) (h' : VisitOk p B C) : VisitOk p A C :=
  ⟨h.1.trans h'.1, fun k j hC hA hj => by
    cases hB : B.getD k false with
    | true => exact h'.1.2 j (h.2 k j hB hA hj)
    | false => exact h'.2 k j hC hB hj⟩
def beh (p : List Fn) (x : Int × Int) (h : Int) : Option Int :=
  if (effS p x.1 x.2).2.2 = 0 ∧ (effS p x.1 x.2).1 ≤ h ∧ ¬ (x.1 = 12 ∧ 1 < h) ∧ h - (effS p x.1 x.2).1 + (effS p x.1 x.2).2.1 ≤ 8 then some (h - (effS p x.1 x.2).1 + (effS p x.1 x.2).2.1) else none
def nexts (x : Int × Int) (k : Nat) : List Nat :=
  if x.1 = 12 then [] else if x.1 = 9 then [x.2.toNat] else if x.1 = 10 then [x.2.toNat, k + 1] else [k + 1]
def comesS (f : List Int → Nat → Int → Bool × List Int) : List Nat → List Int → Int → Bool × List Int
  | [], H, _ => (true, H)
  | j :: r, H, m => match f H j m with
    | (true, H') => comesS f r H' m
    | (false, H') => (false, H')
def comeS (p : List Fn) (c : List (Int × Int)) : Nat → List Int → Nat → Int → Bool × List Int
  | 0, H, _, _ => (false, H)
  | n + 1, H, at_, h =>
    if c.length ≤ at_ then (false, H)
    else if H.getD at_ 0 = -1 then
      match beh p (c.getD at_ (0, 0)) h with
      | none => (false, H.set at_ h)
      | some m => comesS (comeS p c n) (nexts (c.getD at_ (0, 0)) at_) (H.set at_ h) m
    else (decide (H.getD at_ 0 = h), H)
theorem comesS_snoc (f : List Int → Nat → Int → Bool × List Int) : ∀ (l : List Nat) (j : Nat) (H : List Int) (m : Int), comesS f (l ++ [j]) H m = match comesS f l H m with
    | (true, H') => f H' j m
    | (false, H') => (false, H')
  | [], j, H, m => by
    simp only [List.nil_append, comesS]
    cases f H j m with
    | mk b H' => cases b <;> rfl
  | i :: l, j, H, m => by
    simp only [List.cons_append, comesS]
    cases f H i m with
    | mk b H' => cases b with
      | false => rfl
      | true => exact comesS_snoc f l j H' m
theorem comesS_prefix (f : List Int → Nat → Int → Bool × List Int) (l : List Nat) (H H' : List Int) (m : Int) (h : comesS f l H m = (false, H')) : ∀ r, comesS f (l ++ r) H m = (false, H') := by
  induction l generalizing H with
  | nil => simp [comesS] at h
  | cons i l ih =>
    intro r
    simp only [List.cons_append, comesS] at h ⊢
    cases hf : f H i m with
    | mk b H2 =>
      rw [hf] at h
      cases b with
      | false => exact h
      | true => exact ih H2 h r
def unv (H : List Int) : Nat := (H.filter (fun z => decide (z = -1))).length
theorem unv_set : ∀ (H : List Int) (k : Nat) (z : Int), H.getD k 0 = -1 → z ≠ -1 → unv (H.set k z) + 1 = unv H
  | [], k, z, h, _ => by simp at h
  | y :: H, 0, z, h, hz => by
    simp at h
    subst h
    simp [unv, hz]
  | y :: H, k + 1, z, h, hz => by
    have ih := unv_set H k z (by simpa using h) hz
    simp only [unv, List.set_cons_succ, List.filter_cons] at ih ⊢
    split
    · simp only [List.length_cons]; omega
    · exact ih
theorem opsS_all {p : List Fn} {g : Fn} : ∀ {c : List (Int × Int)}, opsS p g c = 0 → ∀ x, x ∈ c → opS p g x = 0
  | [], _, x, hx => by cases hx
  | y :: c, h, x, hx => by
    unfold opsS at h
    by_cases hy : opS p g y = 0
    · rw [if_pos hy] at h
      rcases List.mem_cons.1 hx with rfl | hx
      · exact hy
      · exact opsS_all h x hx
    · rw [if_neg hy] at h
      exact absurd h hy
theorem opS_kind {p : List Fn} {g : Fn} {x : Int × Int} (h : opS p g x = 0) : 0 ≤ x.1 ∧ x.1 < 17 ∧ mayB p g (opd x.1.toNat) x.2 = true := by
  unfold opS at h
  by_cases hk : 0 ≤ x.1 ∧ x.1 < 17
  · rw [if_pos hk] at h
    by_cases hm : mayB p g (opd x.1.toNat) x.2 = true
    · exact ⟨hk.1, hk.2, hm⟩
    · rw [if_neg hm] at h; omega
  · rw [if_neg hk] at h; omega
theorem mayB4 {p : List Fn} {g : Fn} {a : Int} (h : mayB p g 4 a = true) : 0 ≤ a ∧ a < p.length ∧ roomB (p.getD a.toNat Fn.zero).args (p.getD a.toNat Fn.zero).locals = true := by
  simp only [mayB] at h
  rw [if_neg (by decide), if_neg (by decide), if_neg (by decide), if_neg (by decide), Bool.and_eq_true, ixB_iff] at h
  exact ⟨h.1.1, h.1.2, h.2⟩
theorem tk_lv (k : Nat) (h : k < 17) : 0 ≤ tk k ∧ tk k ≤ 2 ∧ 0 ≤ lv k ∧ lv k ≤ 1 := by
  have : ∀ k : Fin 17, 0 ≤ tk k ∧ tk k ≤ 2 ∧ 0 ≤ lv k ∧ lv k ≤ 1 := by decide
  exact this ⟨k, h⟩
theorem effS_call {p : List Fn} {g : Fn} {x : Int × Int} (h : opS p g x = 0) (hk : x.1 = 11) : 0 ≤ x.2 ∧ x.2 < p.length ∧ 0 ≤ (p.getD x.2.toNat Fn.zero).args ∧ effS p x.1 x.2 = ((p.getD x.2.toNat Fn.zero).args, 1, 0) := by
  obtain ⟨_, _, hm⟩ := opS_kind h
  rw [hk] at hm
  obtain ⟨h1, h2, h3⟩ := mayB4 (show mayB p g 4 x.2 = true from hm)
  rw [roomB_iff] at h3
  refine ⟨h1, h2, h3.1, ?_⟩
  unfold effS
  rw [if_pos ⟨by omega, by omega⟩, if_pos hk, if_pos ⟨h1, h2⟩]
theorem effS_plain {p : List Fn} {g : Fn} {x : Int × Int} (h : opS p g x = 0) (hk : x.1 ≠ 11) : ∃ ta lb, effS p x.1 x.2 = (ta, lb, 0) ∧ 0 ≤ ta ∧ ta ≤ 2 ∧ 0 ≤ lb ∧ lb ≤ 1 := by
  obtain ⟨h1, h2, _⟩ := opS_kind h
  obtain ⟨a, b, c, d⟩ := tk_lv x.1.toNat (by omega)
  refine ⟨_, _, ?_, a, b, c, d⟩
  unfold effS
  rw [if_pos ⟨h1, h2⟩, if_neg hk]
theorem chkS_zero {p : List Fn} {f : Int} (h : chkS p f = 0) : ∃ i : Nat, f = i ∧ i < p.length ∧ (p.getD i Fn.zero).code.length ≤ 24 ∧ roomB (p.getD i Fn.zero).args (p.getD i Fn.zero).locals = true ∧ opsS p (p.getD i Fn.zero) (p.getD i Fn.zero).code = 0 := by
  unfold chkS at h
  by_cases hf : 0 ≤ f ∧ f < p.length
  · rw [if_pos hf] at h
    obtain ⟨i, rfl⟩ := Int.eq_ofNat_of_zero_le hf.1
    rw [Int.toNat_natCast] at h
    refine ⟨i, rfl, by omega, ?_⟩
    generalize p.getD i Fn.zero = g at *
    by_cases hm : 24 < g.code.length
    · simp only [if_pos hm] at h; omega
    · simp only [if_neg hm] at h
      cases hr : roomB g.args g.locals with
      | false => rw [hr, if_neg (by decide)] at h; omega
      | true => rw [hr, if_pos rfl] at h; exact ⟨by omega, rfl, h⟩
  · rw [if_neg hf] at h; omega
def Reach (p : List Fn) (c : List (Int × Int)) (k : Nat) (h : Int) : Prop :=
  ∀ S : Nat → Int → Prop, S 0 0 → (∀ k h x m j, S k h → c[k]? = some x → beh p x h = some m → j ∈ nexts x k → S j m) → S k h
theorem Reach.zero (p : List Fn) (c : List (Int × Int)) : Reach p c 0 0 := fun _ h _ => h
theorem Reach.step {p : List Fn} {c : List (Int × Int)} {k : Nat} {h : Int} {x : Int × Int} {m : Int} {j : Nat} (r : Reach p c k h) (hx : c[k]? = some x) (hm : beh p x h = some m) (hj : j ∈ nexts x k) : Reach p c j m :=
  fun S h0 hs => hs k h x m j (r S h0 hs) hx hm hj
def Done (p : List Fn) (c : List (Int × Int)) (H : List Int) (k : Nat) : Prop :=
  ∃ x m, c[k]? = some x ∧ beh p x (H.getD k 0) = some m ∧ ∀ j, j ∈ nexts x k → j < c.length ∧ H.getD j 0 = m
structure Cons (p : List Fn) (c : List (Int × Int)) (H : List Int) : Prop where
  len : H.length = c.length
  pos : 0 < c.length
  first : H.getD 0 0 = 0
  done : ∀ k, k < c.length → H.getD k 0 ≠ -1 → Done p c H k
def Sound (p : List Fn) (c : List (Int × Int)) (H : List Int) : Prop :=
  ∀ k, k < c.length → H.getD k 0 = -1 ∨ (0 ≤ H.getD k 0 ∧ Reach p c k (H.getD k 0))
def Right (p : List Fn) (c : List (Int × Int)) : Prop := ∃ g : Fn, g.code = c ∧ ∀ x, x ∈ c → opS p g x = 0
theorem beh_nonneg {p : List Fn} {c : List (Int × Int)} (hr : Right p c) {x : Int × Int} (hx : x ∈ c) {h m : Int} (hm : beh p x h = some m) : 0 ≤ m ∧ m ≤ 8 := by
  obtain ⟨g, _, hg⟩ := hr
  have hop := hg x hx
  have hl : 0 ≤ (effS p x.1 x.2).2.1 := by
    by_cases h11 : x.1 = 11
    · rw [(effS_call hop h11).2.2.2]; exact Int.le_of_lt Int.one_pos
    · obtain ⟨ta, lb, h1, _, _, h4, _⟩ := effS_plain hop h11; rw [h1]; exact h4
  unfold beh at hm
  split at hm
  · rename_i hc
    simp only [Option.some.injEq] at hm
    omega
  · cases hm
theorem Reach.in {p : List Fn} {c : List (Int × Int)} {H : List Int} (hc : Cons p c H) (hr : Right p c) {k : Nat} {h : Int} (r : Reach p c k h) : k < c.length ∧ H.getD k 0 = h ∧ 0 ≤ h := by
  refine r (fun k h => k < c.length ∧ H.getD k 0 = h ∧ 0 ≤ h) ⟨hc.pos, hc.first, by omega⟩ ?_
  rintro k h x m j ⟨h1, h2, h3⟩ hx hm hj
  obtain ⟨x', m', hx', hm', hn⟩ := hc.done k h1 (by omega)
  obtain rfl : x = x' := by rw [hx] at hx'; exact Option.some.inj hx'
  rw [h2] at hm'
  obtain rfl : m = m' := by rw [hm] at hm'; exact Option.some.inj hm'
  obtain ⟨h4, h5⟩ := hn j hj
  exact ⟨h4, h5, (beh_nonneg hr (List.mem_of_getElem? hx) hm).1⟩
theorem cons_one {p : List Fn} {c : List (Int × Int)} (hr : Right p c) {H H' : List Int} (h : Cons p c H) (s : Sound p c H) (h' : Cons p c H') (s' : Sound p c H') : H = H' := by
  apply List.ext_getElem (h.len.trans h'.len.symm)
  intro k hk hk'
  have hkc : k < c.length := h.len ▸ hk
  have e1 : H[k] = H.getD k 0 := by simp [List.getD, hk]
  have e2 : H'[k] = H'.getD k 0 := by simp [List.getD, hk']
  rw [e1, e2]
  rcases s k hkc with a | ⟨a1, a2⟩
  · rcases s' k hkc with b | ⟨b1, b2⟩
    · rw [a, b]
    · have := b2.in h hr; omega
  · have := a2.in h' hr; omega
def Mono (H H' : List Int) : Prop := H'.length = H.length ∧ ∀ k, H.getD k 0 ≠ -1 → H'.getD k 0 = H.getD k 0
theorem Mono.refl (H : List Int) : Mono H H := ⟨rfl, fun _ _ => rfl⟩
theorem Mono.trans {A B C : List Int} (h : Mono A B) (k : Mono B C) : Mono A C :=
  ⟨k.1.trans h.1, fun i hi => by have := h.2 i hi; rw [k.2 i (by rw [this]; exact hi), this]⟩
theorem getD_set {H : List Int} {k : Nat} (hk : k < H.length) (z : Int) (i : Nat) : (H.set k z).getD i 0 = if i = k then z else H.getD i 0 := by
  simp only [List.getD, List.getElem?_set]
  by_cases h : k = i
  · subst h; simp [hk]
  · rw [if_neg h, if_neg (fun e => h e.symm)]
theorem Mono.set {H : List Int} {k : Nat} (hk : k < H.length) {z : Int} (h : H.getD k 0 = -1 ∨ H.getD k 0 = z) : Mono H (H.set k z) := by
  refine ⟨by simp, fun i hi => ?_⟩
  rw [getD_set hk]
  split
  · rename_i e; subst e; rcases h with h | h
    · exact absurd h hi
    · exact h.symm
  · rfl
theorem Done.mono {p : List Fn} {c : List (Int × Int)} (hr : Right p c) {H H' : List Int} (m : Mono H H') {k : Nat} (hk : H.getD k 0 ≠ -1) (d : Done p c H k) : Done p c H' k := by
  obtain ⟨x, n, hx, hn, hj⟩ := d
  refine ⟨x, n, hx, by rw [m.2 k hk]; exact hn, fun j hjn => ?_⟩
  obtain ⟨h1, h2⟩ := hj j hjn
  have h3 := (beh_nonneg hr (List.mem_of_getElem? hx) hn).1
  exact ⟨h1, by rw [m.2 j (by omega), h2]⟩
theorem comes_ok {p : List Fn} {c : List (Int × Int)} (hr : Right p c) (f : List Int → Nat → Int → Bool × List Int)
    (hf : ∀ H j m H', H.length = c.length → 0 ≤ m → f H j m = (true, H') → Mono H H' ∧ j < c.length ∧ H'.getD j 0 = m ∧ (∀ k, k < c.length → H.getD k 0 = -1 → H'.getD k 0 ≠ -1 → Done p c H' k) ∧ (Reach p c j m → Sound p c H → Sound p c H')) :
    ∀ (l : List Nat) (H : List Int) (m : Int) (H' : List Int), H.length = c.length → 0 ≤ m → comesS f l H m = (true, H') →
      Mono H H' ∧ (∀ j, j ∈ l → j < c.length ∧ H'.getD j 0 = m) ∧ (∀ k, k < c.length → H.getD k 0 = -1 → H'.getD k 0 ≠ -1 → Done p c H' k) ∧ ((∀ j, j ∈ l → Reach p c j m) → Sound p c H → Sound p c H')
  | [], H, m, H', hl, hm, h => by
    simp [comesS] at h
    subst h
    exact ⟨Mono.refl _, (fun j hj => by cases hj), fun k _ h1 h2 => absurd h1 h2, fun _ s => s⟩
  | i :: l, H, m, H', hl, hm, h => by
    simp only [comesS] at h
    cases hi : f H i m with
    | mk b H2 =>
      rw [hi] at h
      cases b with
      | false => simp at h
      | true =>
        obtain ⟨m1, i1, i2, d1, s1⟩ := hf H i m H2 hl hm hi
        obtain ⟨m2, j2, d2, s2⟩ := comes_ok hr f hf l H2 m H' (m1.1.trans hl) hm h
        refine ⟨m1.trans m2, ?_, ?_, ?_⟩
        · intro j hj
          rcases List.mem_cons.1 hj with rfl | hj
          · exact ⟨i1, by rw [m2.2 j (by omega), i2]⟩
          · exact j2 j hj
        · intro k hk h1 h2
          by_cases h3 : H2.getD k 0 = -1
          · exact d2 k hk h3 h2
          · exact (d1 k hk h1 h3).mono hr m2 h3
        · intro hR hs
          exact s2 (fun j hj => hR j (by simp [hj])) (s1 (hR i (by simp)) hs)
theorem come_ok {p : List Fn} {c : List (Int × Int)} (hr : Right p c) : ∀ (n : Nat) (H : List Int) (at_ : Nat) (h : Int) (H' : List Int), H.length = c.length → 0 ≤ h → comeS p c n H at_ h = (true, H') →
    Mono H H' ∧ at_ < c.length ∧ H'.getD at_ 0 = h ∧ (∀ k, k < c.length → H.getD k 0 = -1 → H'.getD k 0 ≠ -1 → Done p c H' k) ∧ (Reach p c at_ h → Sound p c H → Sound p c H')
  | 0, H, at_, h, H', _, _, hc => by simp [comeS] at hc
  | n + 1, H, at_, h, H', hl, hh, hc => by
    unfold comeS at hc
    by_cases h1 : c.length ≤ at_
    · rw [if_pos h1] at hc; simp at hc
    · rw [if_neg h1] at hc
      by_cases h2 : H.getD at_ 0 = -1
      · rw [if_pos h2] at hc
        have hx : c[at_]? = some (c.getD at_ (0, 0)) := getD_of_lt c at_ (0, 0) (by omega)
        generalize c.getD at_ (0, 0) = x at hx hc
        cases hb : beh p x h with
        | none => rw [hb] at hc; simp at hc
        | some m =>
          rw [hb] at hc
          have hm := (beh_nonneg hr (List.mem_of_getElem? hx) hb).1
          obtain ⟨m1, j1, d1, s1⟩ := comes_ok hr (comeS p c n) (fun H j m H' a b => come_ok hr n H j m H' a b) (nexts x at_) (H.set at_ h) m H' (by simpa using hl) hm hc
          have hlt : at_ < H.length := by omega
          have hset : (H.set at_ h).getD at_ 0 = h := by rw [getD_set hlt, if_pos rfl]
          have hat : H'.getD at_ 0 = h := by rw [m1.2 at_ (by omega), hset]
          refine ⟨(Mono.set hlt (.inl h2)).trans m1, by omega, hat, ?_, ?_⟩
          · intro k hk k1 k2
            by_cases e : k = at_
            · subst e
              exact ⟨x, m, hx, by rw [hat]; exact hb, j1⟩
            · exact d1 k hk (by rw [getD_set hlt, if_neg e]; exact k1) k2
          · intro hR hs
            refine s1 (fun j hj => hR.step hx hb hj) ?_
            intro k hk
            rw [getD_set hlt]
            by_cases e : k = at_
            · rw [if_pos e, e]; exact .inr ⟨hh, hR⟩
            · rw [if_neg e]; exact hs k hk
      · rw [if_neg h2] at hc
        simp at hc
        obtain ⟨hd, rfl⟩ := hc
        exact ⟨Mono.refl _, by omega, hd, fun k _ a b => absurd a b, fun _ s => s⟩
theorem comes_all {c : List (Int × Int)} (f : List Int → Nat → Int → Bool × List Int) {G : List Int} (n : Nat) {m : Int}
    (hf : ∀ H j, Mono H G → unv H < n → j < c.length → G.getD j 0 = m → ∃ H', f H j m = (true, H') ∧ Mono H' G ∧ unv H' ≤ unv H) :
    ∀ (l : List Nat) (H : List Int), Mono H G → unv H < n → (∀ j, j ∈ l → j < c.length ∧ G.getD j 0 = m) → ∃ H', comesS f l H m = (true, H') ∧ Mono H' G ∧ unv H' ≤ unv H
  | [], H, h, _, _ => ⟨H, rfl, h, Nat.le_refl _⟩
  | i :: l, H, h, hn, hj => by
    obtain ⟨H2, h2, m2, u2⟩ := hf H i h hn (hj i (by simp)).1 (hj i (by simp)).2
    obtain ⟨H3, h3, m3, u3⟩ := comes_all f n hf l H2 m2 (by omega) (fun j hjl => hj j (by simp [hjl]))
    exact ⟨H3, by simp only [comesS]; rw [h2]; exact h3, m3, by omega⟩
theorem come_all {p : List Fn} {c : List (Int × Int)} (hr : Right p c) {G : List Int} (hG : Cons p c G) : ∀ (n : Nat) (H : List Int) (at_ : Nat) (h : Int), Mono H G → unv H < n → at_ < c.length → G.getD at_ 0 = h → 0 ≤ h →
    ∃ H', comeS p c n H at_ h = (true, H') ∧ Mono H' G ∧ unv H' ≤ unv H
  | 0, H, at_, h, _, hn, _, _, _ => by omega
  | n + 1, H, at_, h, hm, hn, ha, hg, hh => by
    unfold comeS
    rw [if_neg (by omega)]
    have hlt : at_ < H.length := by rw [← hm.1, hG.len]; exact ha
    by_cases h2 : H.getD at_ 0 = -1
    · rw [if_pos h2]
      obtain ⟨x, m, hx, hb, hj⟩ := hG.done at_ ha (by omega)
      have hx' := getD_of_lt c at_ (0, 0) ha
      rw [hx] at hx'
      rw [← Option.some.inj hx', ← hg, hb]
      have hmm := (beh_nonneg hr (List.mem_of_getElem? hx) hb).1
      have hu := unv_set H at_ (G.getD at_ 0) h2 (by omega)
      have hset : Mono (H.set at_ (G.getD at_ 0)) G := by
        refine ⟨by simpa using hm.1, fun k hk => ?_⟩
        rw [getD_set hlt] at hk ⊢
        split
        · rename_i e; rw [e]
        · rename_i e; rw [if_neg e] at hk; exact hm.2 k hk
      obtain ⟨H', h3, h4, h5⟩ := comes_all (c := c) (comeS p c n) n (fun H j a b d e => come_all hr hG n H j m a b d e hmm) (nexts x at_) (H.set at_ (G.getD at_ 0)) hset (by omega) hj
      exact ⟨H', h3, h4, by omega⟩
    · rw [if_neg h2]
      have : H.getD at_ 0 = h := by rw [← hm.2 at_ h2, hg]
      exact ⟨H, by simp only [this, decide_true], hm, Nat.le_refl _⟩
end Go.Proofs.YtjioipkfnekigaaDoor
