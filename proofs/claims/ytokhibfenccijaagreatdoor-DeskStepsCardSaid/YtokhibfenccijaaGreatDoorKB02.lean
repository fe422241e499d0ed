/- TextC, ProgS, FlowS, OpM, FlowM, FlowN -/
import Derived.Test.YtokhibfenccijaaGreatDoorKB01
import Derived.Laws.Externs
import Derived.Lib.UnsafeStr
set_option maxRecDepth 100000
set_option maxHeartbeats 8000000
namespace Go.Proofs.YtokhibfenccijaaGreatDoor
open Go.RowKit Go.Maps
abbrev BuP (B b : Nat) (bs : List Value) (w : World) : Prop := Lib.BuilderAt 51 5 B b (.pointer (some ⟨b, 0, none⟩)) bs w
abbrev BuI (B b : Nat) (bs : List Value) (w : World) : Prop := Lib.IsBuilder 51 5 B b bs w
def BuK (w w' : World) : Prop := ∀ (g : Nat) (c : Array Value) (t : TypeId), t ≠ 51 → t ≠ 5 → w.heap[g]? = some (.cells c t) → w'.heap[g]? = some (.cells c t)
theorem BuK.trans {a b c : World} (h : BuK a b) (k : BuK b c) : BuK a c := fun g d t h1 h2 hg => k g d t h1 h2 (h g d t h1 h2 hg)
theorem BuK.kept {w w' : World} (k : Kept w w') : BuK w w' := fun _ _ _ _ _ hg => lays_kept k hg
theorem BuK.set {w : World} {b i : Nat} {c : Array Value} (hb : w.heap[b]? = some (.cells c 51)) (u : Value) : BuK w (w.setCell ⟨b, i, none⟩ u) := fun g d t h1 _ hg => lays_other hg (fun e => by
  simp only at e
  subst e
  rw [hb] at hg
  simp only [Option.some.injEq, Obj.cells.injEq] at hg
  exact h1 hg.2.1.symm) u
theorem copyCheck_any (w : World) (B b : Nat) (bs : List Value) (h : BuI B b bs w) :
    Calls Tryz.prog 38 #[.pointer (some ⟨b, 0, none⟩)] w fun e w' => e = .returned (.tuple #[]) ∧ BuP B b bs w' ∧ Below B w w' ∧ BuK w w' := by
  rcases h with ⟨hB, v, hb, hrow, hne⟩ | h
  · have c0 := cell_lays hb 0
    have f0 := frozen_lays hb 0
    have HP : Hid (BuP B b bs (w.setCell ⟨b, 0, none⟩ (.pointer (some ⟨b, 0, none⟩))) ∧ Below B w (w.setCell ⟨b, 0, none⟩ (.pointer (some ⟨b, 0, none⟩))) ∧ BuK w (w.setCell ⟨b, 0, none⟩ (.pointer (some ⟨b, 0, none⟩)))) := hide (by
      refine ⟨⟨hB, v, by have := lays_set hb 0 (.pointer (some ⟨b, 0, none⟩)); simpa using this, ?_, hne⟩, (Below.refl B w).setCell hB _, BuK.set hb _⟩
      refine ⟨hrow.1, ?_⟩
      rcases hrow.2 with hn | ⟨g, cap, cur, rfl, hb', hgg, rest⟩
      · exact .inl hn
      · exact .inr ⟨g, cap, cur, rfl, hb', lays_other hgg (fun e => hne (by simp only at e; rw [e]; rfl)) _, rest⟩)
    have hsh : w.shape? b = some (51, 2) := by simp [World.shape?, hb]
    clear hb hrow hne hB
    go_enter Tryz.func38, Tryz.ntmps38
    go_wp2
    rw [conv_up w b hsh]
    simp only [Result.andThen]
    rw [Oper.upon_value]
    go_wp2
    rw [run_callFunc_extern Tryz.func68 (by kernel_rfl) (by kernel_rfl) (by kernel_rfl) (e := Extern.AbiNoEscape.same) (by kernel_rfl)]
    rw [Lib.run_noEscape]
    simp only [Result.andThen]
    rw [Oper.upon_value]
    go_wp2
    rw [conv_down w b hsh]
    simp only [Result.andThen]
    rw [Oper.upon_value]
    go_wp2
    go_end0
    exact ⟨rfl, unhide HP⟩
  · have c0 := h.cell0
    have HP : Hid (BuP B b bs w ∧ Below B w w ∧ BuK w w) := hide ⟨h, Below.refl B w, fun _ _ _ _ _ h => h⟩
    obtain ⟨jj, hj, hjs⟩ := Option.map_eq_some_iff.1 (show (Tryz.prog.info? 51).map (·.size) = some 2 by kernel_rfl)
    clear h
    go_enter Tryz.func38, Tryz.ntmps38
    go_wp2
    rw [Lib.run_neq_ptr_same w _ Tryz.underlying48 hj]
    go_wp2
    go_end0
    exact ⟨rfl, unhide HP⟩
theorem wpList_appS {ops : Array Oper} {rest : List Oper} {o : Oper} {a : Act} {Q : Exit → Act → World → Prop} (w : World) (hgd : o.guard = none) (s x : Operand) (t tu : TypeId)
    (ho : o.op = .call { callee := .builtin .append, args := #[s, x], argTypes := #[t, tu] }) {v u v' : Value} {w' : World} (hs : a.eval s = v) (hx : a.eval x = u)
    (hr : (Builtin.append_ #[t, tu] o.type #[v, u]).run Tryz.prog w = .ok v' w') (h : wpList Tryz.prog ops Q rest (a.put o.dst v') w') : wpList Tryz.prog ops Q (o :: rest) a w :=
  wpList_plain hgd fun _ hK => by
    unfold Oper.wp execOp
    simp only [ho, resolve, invoke, builtin, Sem.run_bind, Sem.run_pure, Result.andThen_ok, List.map_toArray, List.map_cons, List.map_nil, hs, hx, hr]
    exact hK _ _ h
theorem u8InfoT : (Tryz.prog.info? 5).map (fun i => (i.zero, i.size, i.bytes)) = some (some (.int .u8 0), 1, 1) := by kernel_rfl
theorem write_any (w : World) (B b : Nat) (bs : List Value) (s : ByteArray) (h : BuI B b bs w) (hBw : B ≤ w.heap.size) (hl : bs.length + s.size ≤ 100000000000) :
    Calls Tryz.prog 16 #[.pointer (some ⟨b, 0, none⟩), .string s] w fun e w' => e = .returned (.tuple #[.int .i64 s.size, .nilIface]) ∧ BuP B b (bs ++ Lib.strCells s) w' ∧ Below B w w' ∧ BuK w w' := by
  obtain ⟨i0, hi0, hz0, hz1, hz2⟩ := info_parts u8InfoT
  have HC := hide (copyCheck_any w B b bs h)
  go_enter Tryz.func16, Tryz.ntmps16
  go_wp2_with fail
  refine (unhide HC).mono ?_
  rintro _ w2 ⟨rfl, ⟨hB, v, hb, hrow, hne⟩, k2, j2⟩
  obtain ⟨v3, w3, hrun, hown, hgrow, hat⟩ := Lib.run_append_own_string (P := Tryz.prog) w2 B 49 9 49 5 i0 Tryz.underlying49 Tryz.underlying9 hi0 hz0 hz1 hz2 v bs.length bs hrow s (by unfold maxLen; omega) (by omega) (by have := k2.size; omega)
  have c1 := cell_lays hb 1
  have hb3 := (hgrow.block b (Array.getElem?_eq_some_iff.1 hb).1 (fun e => hne e.symm)).trans hb
  have d1 := cell_lays hb3 1
  have f1 := frozen_lays hb3 1
  obtain ⟨oa, n3, cp, rfl⟩ : ∃ oa n cp, v3 = .slice oa n cp := by
    obtain ⟨_, ⟨rfl, _⟩ | ⟨g, cap, cur, rfl, _⟩⟩ := hown
    · exact ⟨_, _, _, rfl⟩
    · exact ⟨_, _, _, rfl⟩
  obtain ⟨ob, nb, cb, rfl⟩ : ∃ oa n cp, v = .slice oa n cp := by
    obtain ⟨_, ⟨rfl, _⟩ | ⟨g, cap, cur, rfl, _⟩⟩ := hrow
    · exact ⟨_, _, _, rfl⟩
    · exact ⟨_, _, _, rfl⟩
  have hn3 : ∀ g, (Value.slice oa n3 cp).ownBlock = some g → g ≠ b := fun g hg e => by
    obtain ⟨_, ⟨h0, _⟩ | ⟨g', cap, cur, h0, _, hh, _⟩⟩ := hown
    · rw [h0] at hg; cases hg
    · rw [h0] at hg
      obtain rfl : g' = g := by simpa [Value.ownBlock] using hg
      rw [e, hb3] at hh
      simp only [Option.some.injEq, Obj.cells.injEq] at hh
      exact absurd hh.2.1 (by decide)
  have j3 : BuK w2 w3 := fun g c t h1 h2 hg => (hgrow.block g (Array.getElem?_eq_some_iff.1 hg).1 (fun e => by
    obtain ⟨_, ⟨h0, _⟩ | ⟨g', cap, cur, h0, _, hh, _⟩⟩ := hrow
    · rw [h0] at e; cases e
    · rw [h0] at e
      obtain rfl : g = g' := by simpa [Value.ownBlock] using e
      rw [hg] at hh
      simp only [Option.some.injEq, Obj.cells.injEq] at hh
      exact h2 hh.2.1)).trans hg
  have HP : Hid (BuP B b (bs ++ Lib.strCells s) (w3.setCell ⟨b, 1, none⟩ (.slice oa n3 cp)) ∧ Below B w (w3.setCell ⟨b, 1, none⟩ (.slice oa n3 cp)) ∧ BuK w (w3.setCell ⟨b, 1, none⟩ (.slice oa n3 cp))) := hide (by
    refine ⟨⟨hB, .slice oa n3 cp, by have := lays_set hb3 1 (.slice oa n3 cp); simpa using this, ?_, fun e => hn3 _ e rfl⟩, (Below.grown k2 hgrow (by have := k2.size; omega) (fun g hg => (World.ownsRow.lt hrow g hg).1)).setCell hB _, (j2.trans j3).trans (BuK.set hb3 _)⟩
    rw [show (bs ++ Lib.strCells s).length = bs.length + s.size by rw [List.length_append, Lib.strCells_length]]
    refine ⟨hown.1, ?_⟩
    rcases hown.2 with hn | ⟨g, cap, cur, h0, hb', hgg, rest⟩
    · exact .inl hn
    · exact .inr ⟨g, cap, cur, h0, hb', lays_other hgg (hn3 g (by rw [h0]; rfl)) _, rest⟩)
  have HR := hide hrun
  clear h hBw hi0 hz0 hz1 hz2 HC k2 j2 j3 hB hb hrow hne hrun hown hgrow hat hb3 hn3
  have hsz : s.size ≤ 100000000000 := by omega
  clear hl
  go_wp2_with (at_builtin; refine unhide ?_)
  refine hide ?_
  refine wpList_appS _ rfl (.tmp 12) (.tmp 13) 49 9 rfl rfl rfl (unhide HR) ?_
  clear HR
  go_wp2_with fail
  go_ret2
  exact ⟨rfl, unhide HP⟩
theorem BuI.kept {w w' : World} {B b : Nat} {bs : List Value} (h : BuI B b bs w) (k : Kept w w') : BuI B b bs w' := by
  rcases h with ⟨hB, v, hb, hrow, hne⟩ | ⟨hB, v, hb, hrow, hne⟩
  · exact .inl ⟨hB, v, lays_kept k hb, row_same' hrow k, hne⟩
  · exact .inr ⟨hB, v, lays_kept k hb, row_same' hrow k, hne⟩
theorem BuI.new (w : World) : BuI w.heap.size w.heap.size [] (w.alloc (.cells #[.pointer none, .slice none 0 0] 51)) :=
  .inl ⟨Nat.le_refl _, .slice none 0 0, lays_new rfl, World.ownsRow_nil _ _ _ _, by simp [Value.ownBlock]⟩
def namesB (x : Int × Int) : Bool := decide (x.1 = 11) || decide (x.1 = 13)
def targets (c : List (Int × Int)) : List Nat := (c.filter namesB).map fun x => x.2.toNat
def codeOf (p : List Fn) (g : Nat) : List (Int × Int) := (p.getD g Fn.zero).code
def ReachC (p : List Fn) (f k : Nat) : Prop := ∀ S : Nat → Prop, S f → (∀ k j, k < p.length → S k → j ∈ targets (codeOf p k) → S j) → S k
theorem ReachC.step {p : List Fn} {f k j : Nat} (h : ReachC p f k) (hk : k < p.length) (hj : j ∈ targets (codeOf p k)) : ReachC p f j :=
  fun S h0 hs => hs k j hk (h S h0 hs) hj
theorem ReachC.trans {p : List Fn} {f g k : Nat} (h : ReachC p f g) (h' : ReachC p g k) : ReachC p f k :=
  fun S h0 hs => h' S (h S h0 hs) hs
def MonoB (B B' : List Bool) : Prop := B'.length = B.length ∧ ∀ k, B.getD k false = true → B'.getD k false = true
theorem MonoB.refl (B : List Bool) : MonoB B B := ⟨rfl, fun _ h => h⟩
theorem MonoB.trans {A B C : List Bool} (h : MonoB A B) (k : MonoB B C) : MonoB A C := ⟨k.1.trans h.1, fun i hi => k.2 i (h.2 i hi)⟩
theorem getB_set (B : List Bool) (k i : Nat) : (B.set k true).getD i false = true ↔ (i = k ∧ k < B.length) ∨ B.getD i false = true := by
  simp only [List.getD, List.getElem?_set]
  by_cases h : k = i
  · subst h
    by_cases hk : k < B.length
    · simp [hk]
    · simp [hk]
  · simp [h, Ne.symm h]
theorem MonoB.set (B : List Bool) (k : Nat) : MonoB B (B.set k true) := ⟨by simp, fun i hi => (getB_set B k i).2 (.inr hi)⟩
def unvB (B : List Bool) : Nat := (B.filter fun b => !b).length
theorem unvB_set : ∀ (B : List Bool) (k : Nat), k < B.length → B.getD k false = false → unvB (B.set k true) + 1 = unvB B
  | [], k, h, _ => by simp at h
  | b :: B, 0, _, h => by
    simp at h
    subst h
    simp [unvB]
  | b :: B, k + 1, hk, h => by
    have ih := unvB_set B k (by simpa using hk) (by simpa using h)
    simp only [unvB, List.set_cons_succ, List.filter_cons] at ih ⊢
    cases b
    · simp only [Bool.not_false, if_true, List.length_cons]; omega
    · simpa using ih
def VisitOk (p : List Fn) (B B' : List Bool) : Prop :=
  MonoB B B' ∧ ∀ k j, B'.getD k false = true → B.getD k false = false → j ∈ targets (codeOf p k) → B'.getD j false = true
theorem VisitOk.refl (p : List Fn) (B : List Bool) : VisitOk p B B := ⟨.refl B, fun k j h h' => by rw [h] at h'; cases h'⟩
theorem VisitOk.trans {p : List Fn} {A B C : List Bool} (h : VisitOk p A B) (h' : VisitOk p B C) : VisitOk p A C :=
  ⟨h.1.trans h'.1, fun k j hC hA hj => by
    cases hB : B.getD k false with
    | true => exact h'.1.2 j (h.2 k j hB hA hj)
    | false => exact h'.2 k j hC hB hj⟩
def beh (p : List Fn) (x : Int × Int) (h : Int) : Option Int :=
  if (effS p x.1 x.2).2.2 = 0 ∧ (effS p x.1 x.2).1 ≤ h ∧ ¬ (x.1 = 12 ∧ 1 < h) ∧ h - (effS p x.1 x.2).1 + (effS p x.1 x.2).2.1 ≤ 8 then some (h - (effS p x.1 x.2).1 + (effS p x.1 x.2).2.1) else none
def nexts (x : Int × Int) (k : Nat) : List Nat :=
  if x.1 = 12 then [] else if x.1 = 9 then [x.2.toNat] else if x.1 = 10 then [x.2.toNat, k + 1] else [k + 1]
def comesS (f : List Int → Nat → Int → Bool × List Int) : List Nat → List Int → Int → Bool × List Int
  | [], H, _ => (true, H)
  | j :: r, H, m => match f H j m with
    | (true, H') => comesS f r H' m
    | (false, H') => (false, H')
def comeS (p : List Fn) (c : List (Int × Int)) : Nat → List Int → Nat → Int → Bool × List Int
  | 0, H, _, _ => (false, H)
  | n + 1, H, at_, h =>
    if c.length ≤ at_ then (false, H)
    else if H.getD at_ 0 = -1 then
      match beh p (c.getD at_ (0, 0)) h with
      | none => (false, H.set at_ h)
      | some m => comesS (comeS p c n) (nexts (c.getD at_ (0, 0)) at_) (H.set at_ h) m
    else (decide (H.getD at_ 0 = h), H)
theorem comesS_snoc (f : List Int → Nat → Int → Bool × List Int) : ∀ (l : List Nat) (j : Nat) (H : List Int) (m : Int), comesS f (l ++ [j]) H m = match comesS f l H m with
    | (true, H') => f H' j m
    | (false, H') => (false, H')
  | [], j, H, m => by
    simp only [List.nil_append, comesS]
    cases f H j m with
    | mk b H' => cases b <;> rfl
  | i :: l, j, H, m => by
    simp only [List.cons_append, comesS]
    cases f H i m with
    | mk b H' => cases b with
      | false => rfl
      | true => exact comesS_snoc f l j H' m
theorem comesS_prefix (f : List Int → Nat → Int → Bool × List Int) (l : List Nat) (H H' : List Int) (m : Int) (h : comesS f l H m = (false, H')) : ∀ r, comesS f (l ++ r) H m = (false, H') := by
  induction l generalizing H with
  | nil => simp [comesS] at h
  | cons i l ih =>
    intro r
    simp only [List.cons_append, comesS] at h ⊢
    cases hf : f H i m with
    | mk b H2 =>
      rw [hf] at h
      cases b with
      | false => exact h
      | true => exact ih H2 h r
def unv (H : List Int) : Nat := (H.filter (fun z => decide (z = -1))).length
theorem unv_set : ∀ (H : List Int) (k : Nat) (z : Int), H.getD k 0 = -1 → z ≠ -1 → unv (H.set k z) + 1 = unv H
  | [], k, z, h, _ => by simp at h
  | y :: H, 0, z, h, hz => by
    simp at h
    subst h
    simp [unv, hz]
  | y :: H, k + 1, z, h, hz => by
    have ih := unv_set H k z (by simpa using h) hz
    simp only [unv, List.set_cons_succ, List.filter_cons] at ih ⊢
    split
    · simp only [List.length_cons]; omega
    · exact ih
theorem opsS_all {p : List Fn} {g : Fn} : ∀ {c : List (Int × Int)}, opsS p g c = 0 → ∀ x, x ∈ c → opS p g x = 0
  | [], _, x, hx => by cases hx
  | y :: c, h, x, hx => by
    unfold opsS at h
    by_cases hy : opS p g y = 0
    · rw [if_pos hy] at h
      rcases List.mem_cons.1 hx with rfl | hx
      · exact hy
      · exact opsS_all h x hx
    · rw [if_neg hy] at h
      exact absurd h hy
theorem opS_kind {p : List Fn} {g : Fn} {x : Int × Int} (h : opS p g x = 0) : 0 ≤ x.1 ∧ x.1 < 17 ∧ mayB p g (opd x.1.toNat) x.2 = true := by
  unfold opS at h
  by_cases hk : 0 ≤ x.1 ∧ x.1 < 17
  · rw [if_pos hk] at h
    by_cases hm : mayB p g (opd x.1.toNat) x.2 = true
    · exact ⟨hk.1, hk.2, hm⟩
    · rw [if_neg hm] at h; omega
  · rw [if_neg hk] at h; omega
theorem mayB4 {p : List Fn} {g : Fn} {a : Int} (h : mayB p g 4 a = true) : 0 ≤ a ∧ a < p.length ∧ roomB (p.getD a.toNat Fn.zero).args (p.getD a.toNat Fn.zero).locals = true := by
  simp only [mayB] at h
  rw [if_neg (by decide), if_neg (by decide), if_neg (by decide), if_neg (by decide), Bool.and_eq_true, ixB_iff] at h
  exact ⟨h.1.1, h.1.2, h.2⟩
theorem tk_lv (k : Nat) (h : k < 17) : 0 ≤ tk k ∧ tk k ≤ 2 ∧ 0 ≤ lv k ∧ lv k ≤ 1 := by
  have : ∀ k : Fin 17, 0 ≤ tk k ∧ tk k ≤ 2 ∧ 0 ≤ lv k ∧ lv k ≤ 1 := by decide
  exact this ⟨k, h⟩
theorem effS_call {p : List Fn} {g : Fn} {x : Int × Int} (h : opS p g x = 0) (hk : x.1 = 11) : 0 ≤ x.2 ∧ x.2 < p.length ∧ 0 ≤ (p.getD x.2.toNat Fn.zero).args ∧ effS p x.1 x.2 = ((p.getD x.2.toNat Fn.zero).args, 1, 0) := by
  obtain ⟨_, _, hm⟩ := opS_kind h
  rw [hk] at hm
  obtain ⟨h1, h2, h3⟩ := mayB4 (show mayB p g 4 x.2 = true from hm)
  rw [roomB_iff] at h3
  refine ⟨h1, h2, h3.1, ?_⟩
  unfold effS
  rw [if_pos ⟨by omega, by omega⟩, if_pos hk, if_pos ⟨h1, h2⟩]
theorem effS_plain {p : List Fn} {g : Fn} {x : Int × Int} (h : opS p g x = 0) (hk : x.1 ≠ 11) : ∃ ta lb, effS p x.1 x.2 = (ta, lb, 0) ∧ 0 ≤ ta ∧ ta ≤ 2 ∧ 0 ≤ lb ∧ lb ≤ 1 := by
  obtain ⟨h1, h2, _⟩ := opS_kind h
  obtain ⟨a, b, c, d⟩ := tk_lv x.1.toNat (by omega)
  refine ⟨_, _, ?_, a, b, c, d⟩
  unfold effS
  rw [if_pos ⟨h1, h2⟩, if_neg hk]
theorem chkS_zero {p : List Fn} {f : Int} (h : chkS p f = 0) : ∃ i : Nat, f = i ∧ i < p.length ∧ (p.getD i Fn.zero).code.length ≤ 24 ∧ roomB (p.getD i Fn.zero).args (p.getD i Fn.zero).locals = true ∧ opsS p (p.getD i Fn.zero) (p.getD i Fn.zero).code = 0 := by
  unfold chkS at h
  by_cases hf : 0 ≤ f ∧ f < p.length
  · rw [if_pos hf] at h
    obtain ⟨i, rfl⟩ := Int.eq_ofNat_of_zero_le hf.1
    rw [Int.toNat_natCast] at h
    refine ⟨i, rfl, by omega, ?_⟩
    generalize p.getD i Fn.zero = g at *
    by_cases hm : 24 < g.code.length
    · simp only [if_pos hm] at h; omega
    · simp only [if_neg hm] at h
      cases hr : roomB g.args g.locals with
      | false => rw [hr, if_neg (by decide)] at h; omega
      | true => rw [hr, if_pos rfl] at h; exact ⟨by omega, rfl, h⟩
  · rw [if_neg hf] at h; omega
def Reach (p : List Fn) (c : List (Int × Int)) (k : Nat) (h : Int) : Prop :=
  ∀ S : Nat → Int → Prop, S 0 0 → (∀ k h x m j, S k h → c[k]? = some x → beh p x h = some m → j ∈ nexts x k → S j m) → S k h
theorem Reach.zero (p : List Fn) (c : List (Int × Int)) : Reach p c 0 0 := fun _ h _ => h
theorem Reach.step {p : List Fn} {c : List (Int × Int)} {k : Nat} {h : Int} {x : Int × Int} {m : Int} {j : Nat} (r : Reach p c k h) (hx : c[k]? = some x) (hm : beh p x h = some m) (hj : j ∈ nexts x k) : Reach p c j m :=
  fun S h0 hs => hs k h x m j (r S h0 hs) hx hm hj
def Done (p : List Fn) (c : List (Int × Int)) (H : List Int) (k : Nat) : Prop :=
  ∃ x m, c[k]? = some x ∧ beh p x (H.getD k 0) = some m ∧ ∀ j, j ∈ nexts x k → j < c.length ∧ H.getD j 0 = m
structure Cons (p : List Fn) (c : List (Int × Int)) (H : List Int) : Prop where
  len : H.length = c.length
  pos : 0 < c.length
  first : H.getD 0 0 = 0
  done : ∀ k, k < c.length → H.getD k 0 ≠ -1 → Done p c H k
def Sound (p : List Fn) (c : List (Int × Int)) (H : List Int) : Prop :=
  ∀ k, k < c.length → H.getD k 0 = -1 ∨ (0 ≤ H.getD k 0 ∧ Reach p c k (H.getD k 0))
def Right (p : List Fn) (c : List (Int × Int)) : Prop := ∃ g : Fn, g.code = c ∧ ∀ x, x ∈ c → opS p g x = 0
theorem beh_nonneg {p : List Fn} {c : List (Int × Int)} (hr : Right p c) {x : Int × Int} (hx : x ∈ c) {h m : Int} (hm : beh p x h = some m) : 0 ≤ m ∧ m ≤ 8 := by
  obtain ⟨g, _, hg⟩ := hr
  have hop := hg x hx
  have hl : 0 ≤ (effS p x.1 x.2).2.1 := by
    by_cases h11 : x.1 = 11
    · rw [(effS_call hop h11).2.2.2]; exact Int.le_of_lt Int.one_pos
    · obtain ⟨ta, lb, h1, _, _, h4, _⟩ := effS_plain hop h11; rw [h1]; exact h4
  unfold beh at hm
  split at hm
  · rename_i hc
    simp only [Option.some.injEq] at hm
    omega
  · cases hm
theorem Reach.in {p : List Fn} {c : List (Int × Int)} {H : List Int} (hc : Cons p c H) (hr : Right p c) {k : Nat} {h : Int} (r : Reach p c k h) : k < c.length ∧ H.getD k 0 = h ∧ 0 ≤ h := by
  refine r (fun k h => k < c.length ∧ H.getD k 0 = h ∧ 0 ≤ h) ⟨hc.pos, hc.first, by omega⟩ ?_
  rintro k h x m j ⟨h1, h2, h3⟩ hx hm hj
  obtain ⟨x', m', hx', hm', hn⟩ := hc.done k h1 (by omega)
  obtain rfl : x = x' := by rw [hx] at hx'; exact Option.some.inj hx'
  rw [h2] at hm'
  obtain rfl : m = m' := by rw [hm] at hm'; exact Option.some.inj hm'
  obtain ⟨h4, h5⟩ := hn j hj
  exact ⟨h4, h5, (beh_nonneg hr (List.mem_of_getElem? hx) hm).1⟩
theorem cons_one {p : List Fn} {c : List (Int × Int)} (hr : Right p c) {H H' : List Int} (h : Cons p c H) (s : Sound p c H) (h' : Cons p c H') (s' : Sound p c H') : H = H' := by
  apply List.ext_getElem (h.len.trans h'.len.symm)
  intro k hk hk'
  have hkc : k < c.length := h.len ▸ hk
  have e1 : H[k] = H.getD k 0 := by simp [List.getD, hk]
  have e2 : H'[k] = H'.getD k 0 := by simp [List.getD, hk']
  rw [e1, e2]
  rcases s k hkc with a | ⟨a1, a2⟩
  · rcases s' k hkc with b | ⟨b1, b2⟩
    · rw [a, b]
    · have := b2.in h hr; omega
  · have := a2.in h' hr; omega
def Mono (H H' : List Int) : Prop := H'.length = H.length ∧ ∀ k, H.getD k 0 ≠ -1 → H'.getD k 0 = H.getD k 0
theorem Mono.refl (H : List Int) : Mono H H := ⟨rfl, fun _ _ => rfl⟩
theorem Mono.trans {A B C : List Int} (h : Mono A B) (k : Mono B C) : Mono A C :=
  ⟨k.1.trans h.1, fun i hi => by have := h.2 i hi; rw [k.2 i (by rw [this]; exact hi), this]⟩
theorem getD_set {H : List Int} {k : Nat} (hk : k < H.length) (z : Int) (i : Nat) : (H.set k z).getD i 0 = if i = k then z else H.getD i 0 := by
  simp only [List.getD, List.getElem?_set]
  by_cases h : k = i
  · subst h; simp [hk]
  · rw [if_neg h, if_neg (fun e => h e.symm)]
theorem Mono.set {H : List Int} {k : Nat} (hk : k < H.length) {z : Int} (h : H.getD k 0 = -1 ∨ H.getD k 0 = z) : Mono H (H.set k z) := by
  refine ⟨by simp, fun i hi => ?_⟩
  rw [getD_set hk]
  split
  · rename_i e; subst e; rcases h with h | h
    · exact absurd h hi
    · exact h.symm
  · rfl
theorem Done.mono {p : List Fn} {c : List (Int × Int)} (hr : Right p c) {H H' : List Int} (m : Mono H H') {k : Nat} (hk : H.getD k 0 ≠ -1) (d : Done p c H k) : Done p c H' k := by
  obtain ⟨x, n, hx, hn, hj⟩ := d
  refine ⟨x, n, hx, by rw [m.2 k hk]; exact hn, fun j hjn => ?_⟩
  obtain ⟨h1, h2⟩ := hj j hjn
  have h3 := (beh_nonneg hr (List.mem_of_getElem? hx) hn).1
  exact ⟨h1, by rw [m.2 j (by omega), h2]⟩
theorem comes_ok {p : List Fn} {c : List (Int × Int)} (hr : Right p c) (f : List Int → Nat → Int → Bool × List Int)
    (hf : ∀ H j m H', H.length = c.length → 0 ≤ m → f H j m = (true, H') → Mono H H' ∧ j < c.length ∧ H'.getD j 0 = m ∧ (∀ k, k < c.length → H.getD k 0 = -1 → H'.getD k 0 ≠ -1 → Done p c H' k) ∧ (Reach p c j m → Sound p c H → Sound p c H')) :
    ∀ (l : List Nat) (H : List Int) (m : Int) (H' : List Int), H.length = c.length → 0 ≤ m → comesS f l H m = (true, H') →
      Mono H H' ∧ (∀ j, j ∈ l → j < c.length ∧ H'.getD j 0 = m) ∧ (∀ k, k < c.length → H.getD k 0 = -1 → H'.getD k 0 ≠ -1 → Done p c H' k) ∧ ((∀ j, j ∈ l → Reach p c j m) → Sound p c H → Sound p c H')
  | [], H, m, H', hl, hm, h => by
    simp [comesS] at h
    subst h
    exact ⟨Mono.refl _, (fun j hj => by cases hj), fun k _ h1 h2 => absurd h1 h2, fun _ s => s⟩
  | i :: l, H, m, H', hl, hm, h => by
    simp only [comesS] at h
    cases hi : f H i m with
    | mk b H2 =>
      rw [hi] at h
      cases b with
      | false => simp at h
      | true =>
        obtain ⟨m1, i1, i2, d1, s1⟩ := hf H i m H2 hl hm hi
        obtain ⟨m2, j2, d2, s2⟩ := comes_ok hr f hf l H2 m H' (m1.1.trans hl) hm h
        refine ⟨m1.trans m2, ?_, ?_, ?_⟩
        · intro j hj
          rcases List.mem_cons.1 hj with rfl | hj
          · exact ⟨i1, by rw [m2.2 j (by omega), i2]⟩
          · exact j2 j hj
        · intro k hk h1 h2
          by_cases h3 : H2.getD k 0 = -1
          · exact d2 k hk h3 h2
          · exact (d1 k hk h1 h3).mono hr m2 h3
        · intro hR hs
          exact s2 (fun j hj => hR j (by simp [hj])) (s1 (hR i (by simp)) hs)
theorem come_ok {p : List Fn} {c : List (Int × Int)} (hr : Right p c) : ∀ (n : Nat) (H : List Int) (at_ : Nat) (h : Int) (H' : List Int), H.length = c.length → 0 ≤ h → comeS p c n H at_ h = (true, H') →
    Mono H H' ∧ at_ < c.length ∧ H'.getD at_ 0 = h ∧ (∀ k, k < c.length → H.getD k 0 = -1 → H'.getD k 0 ≠ -1 → Done p c H' k) ∧ (Reach p c at_ h → Sound p c H → Sound p c H')
  | 0, H, at_, h, H', _, _, hc => by simp [comeS] at hc
  | n + 1, H, at_, h, H', hl, hh, hc => by
    unfold comeS at hc
    by_cases h1 : c.length ≤ at_
    · rw [if_pos h1] at hc; simp at hc
    · rw [if_neg h1] at hc
      by_cases h2 : H.getD at_ 0 = -1
      · rw [if_pos h2] at hc
        have hx : c[at_]? = some (c.getD at_ (0, 0)) := getD_of_lt c at_ (0, 0) (by omega)
        generalize c.getD at_ (0, 0) = x at hx hc
        cases hb : beh p x h with
        | none => rw [hb] at hc; simp at hc
        | some m =>
          rw [hb] at hc
          have hm := (beh_nonneg hr (List.mem_of_getElem? hx) hb).1
          obtain ⟨m1, j1, d1, s1⟩ := comes_ok hr (comeS p c n) (fun H j m H' a b => come_ok hr n H j m H' a b) (nexts x at_) (H.set at_ h) m H' (by simpa using hl) hm hc
          have hlt : at_ < H.length := by omega
          have hset : (H.set at_ h).getD at_ 0 = h := by rw [getD_set hlt, if_pos rfl]
          have hat : H'.getD at_ 0 = h := by rw [m1.2 at_ (by omega), hset]
          refine ⟨(Mono.set hlt (.inl h2)).trans m1, by omega, hat, ?_, ?_⟩
          · intro k hk k1 k2
            by_cases e : k = at_
            · subst e
              exact ⟨x, m, hx, by rw [hat]; exact hb, j1⟩
            · exact d1 k hk (by rw [getD_set hlt, if_neg e]; exact k1) k2
          · intro hR hs
            refine s1 (fun j hj => hR.step hx hb hj) ?_
            intro k hk
            rw [getD_set hlt]
            by_cases e : k = at_
            · rw [if_pos e, e]; exact .inr ⟨hh, hR⟩
            · rw [if_neg e]; exact hs k hk
      · rw [if_neg h2] at hc
        simp at hc
        obtain ⟨hd, rfl⟩ := hc
        exact ⟨Mono.refl _, by omega, hd, fun k _ a b => absurd a b, fun _ s => s⟩
theorem comes_all {c : List (Int × Int)} (f : List Int → Nat → Int → Bool × List Int) {G : List Int} (n : Nat) {m : Int}
    (hf : ∀ H j, Mono H G → unv H < n → j < c.length → G.getD j 0 = m → ∃ H', f H j m = (true, H') ∧ Mono H' G ∧ unv H' ≤ unv H) :
    ∀ (l : List Nat) (H : List Int), Mono H G → unv H < n → (∀ j, j ∈ l → j < c.length ∧ G.getD j 0 = m) → ∃ H', comesS f l H m = (true, H') ∧ Mono H' G ∧ unv H' ≤ unv H
  | [], H, h, _, _ => ⟨H, rfl, h, Nat.le_refl _⟩
  | i :: l, H, h, hn, hj => by
    obtain ⟨H2, h2, m2, u2⟩ := hf H i h hn (hj i (by simp)).1 (hj i (by simp)).2
    obtain ⟨H3, h3, m3, u3⟩ := comes_all f n hf l H2 m2 (by omega) (fun j hjl => hj j (by simp [hjl]))
    exact ⟨H3, by simp only [comesS]; rw [h2]; exact h3, m3, by omega⟩
theorem come_all {p : List Fn} {c : List (Int × Int)} (hr : Right p c) {G : List Int} (hG : Cons p c G) : ∀ (n : Nat) (H : List Int) (at_ : Nat) (h : Int), Mono H G → unv H < n → at_ < c.length → G.getD at_ 0 = h → 0 ≤ h →
    ∃ H', comeS p c n H at_ h = (true, H') ∧ Mono H' G ∧ unv H' ≤ unv H
  | 0, H, at_, h, _, hn, _, _, _ => by omega
  | n + 1, H, at_, h, hm, hn, ha, hg, hh => by
    unfold comeS
    rw [if_neg (by omega)]
    have hlt : at_ < H.length := by rw [← hm.1, hG.len]; exact ha
    by_cases h2 : H.getD at_ 0 = -1
    · rw [if_pos h2]
      obtain ⟨x, m, hx, hb, hj⟩ := hG.done at_ ha (by omega)
      have hx' := getD_of_lt c at_ (0, 0) ha
      rw [hx] at hx'
      rw [← Option.some.inj hx', ← hg, hb]
      have hmm := (beh_nonneg hr (List.mem_of_getElem? hx) hb).1
      have hu := unv_set H at_ (G.getD at_ 0) h2 (by omega)
      have hset : Mono (H.set at_ (G.getD at_ 0)) G := by
        refine ⟨by simpa using hm.1, fun k hk => ?_⟩
        rw [getD_set hlt] at hk ⊢
        split
        · rename_i e; rw [e]
        · rename_i e; rw [if_neg e] at hk; exact hm.2 k hk
      obtain ⟨H', h3, h4, h5⟩ := comes_all (c := c) (comeS p c n) n (fun H j a b d e => come_all hr hG n H j m a b d e hmm) (nexts x at_) (H.set at_ (G.getD at_ 0)) hset (by omega) hj
      exact ⟨H', h3, h4, by omega⟩
    · rw [if_neg h2]
      have : H.getD at_ 0 = h := by rw [← hm.2 at_ h2, hg]
      exact ⟨H, by simp only [this, decide_true], hm, Nat.le_refl _⟩
def pushS (len : Nat) : List Nat → Int → List Int → Option (List Int)
  | [], _, H => some H
  | j :: r, m, H => if j = len ∨ (0 ≤ H.getD j 0 ∧ H.getD j 0 ≠ m) then none else pushS len r m (H.set j m)
def stepS (p : List Fn) (c : List (Int × Int)) (H : List Int) (k : Nat) : Option (List Int) :=
  if H.getD k 0 < 0 then some H else
    match beh p (c.getD k (0, 0)) (H.getD k 0) with
    | none => none
    | some m => pushS c.length (nexts (c.getD k (0, 0)) k) m H
def roundS (p : List Fn) (c : List (Int × Int)) : Nat → List Int → Option (List Int)
  | 0, H => some H
  | k + 1, H => (roundS p c k H).bind fun H' => stepS p c H' k
def roundsS (p : List Fn) (c : List (Int × Int)) : Nat → List Int → Option (List Int)
  | 0, H => some H
  | r + 1, H => (roundsS p c r H).bind (roundS p c c.length)
def start (c : List (Int × Int)) : List Int := List.replicate c.length (-1)
def heightsS (p : List Fn) (c : List (Int × Int)) : Option (List Int) :=
  if c.length = 0 then none else roundsS p c (c.length + 1) ((start c).set 0 0)
theorem nexts_le {p : List Fn} {c : List (Int × Int)} (hr : Right p c) {k : Nat} {x : Int × Int} (hx : c[k]? = some x) {j : Nat} (hj : j ∈ nexts x k) : j ≤ c.length := by
  obtain ⟨g, rfl, hg⟩ := hr
  obtain ⟨h1, h2, hm⟩ := opS_kind (hg x (List.mem_of_getElem? hx))
  have hk : k < g.code.length := (List.getElem?_eq_some_iff.1 hx).1
  have hJ : (x.1 = 9 ∨ x.1 = 10) → x.2.toNat < g.code.length := by
    intro h
    have ho : opd x.1.toNat = 3 := by rcases h with h | h <;> rw [h] <;> rfl
    rw [ho] at hm
    have := (ixB_iff.1 (show ixB x.2 g.code.length = true from hm))
    omega
  unfold nexts at hj
  split at hj
  · cases hj
  · split at hj
    · rename_i h; simp at hj; have := hJ (.inl h); omega
    · split at hj
      · rename_i h
        simp at hj
        have := hJ (.inr h)
        omega
      · simp at hj; omega
def Inv (c : List (Int × Int)) (H : List Int) : Prop := H.length = c.length ∧ ∀ k, k < c.length → H.getD k 0 = -1 ∨ 0 ≤ H.getD k 0
theorem push_ok {c : List (Int × Int)} {m : Int} (hm : 0 ≤ m) : ∀ (l : List Nat) (H H' : List Int), (∀ j, j ∈ l → j ≤ c.length) → Inv c H → pushS c.length l m H = some H' →
    Mono H H' ∧ Inv c H' ∧ (∀ j, j ∈ l → j < c.length ∧ H'.getD j 0 = m) ∧ (∀ k, H.getD k 0 = -1 → H'.getD k 0 ≠ -1 → k ∈ l ∧ H'.getD k 0 = m)
  | [], H, H', _, hi, h => by
    simp [pushS] at h
    subst h
    exact ⟨Mono.refl _, hi, (fun j hj => by cases hj), fun k a b => absurd a b⟩
  | j :: l, H, H', hl, hi, h => by
    unfold pushS at h
    by_cases hc : j = c.length ∨ (0 ≤ H.getD j 0 ∧ H.getD j 0 ≠ m)
    · rw [if_pos hc] at h; cases h
    · rw [if_neg hc] at h
      have hj : j < c.length := by have := hl j (by simp); omega
      have hlt : j < H.length := by rw [hi.1]; exact hj
      have hold : H.getD j 0 = -1 ∨ H.getD j 0 = m := by
        rcases hi.2 j hj with a | a
        · exact .inl a
        · exact .inr (Decidable.byContradiction fun b => hc (.inr ⟨a, b⟩))
      have hi2 : Inv c (H.set j m) := by
        refine ⟨by simpa using hi.1, fun k hk => ?_⟩
        rw [getD_set hlt]
        split
        · exact .inr hm
        · exact hi.2 k hk
      obtain ⟨m1, i1, j1, n1⟩ := push_ok hm l (H.set j m) H' (fun i hil => hl i (by simp [hil])) hi2 h
      have hjm : H'.getD j 0 = m := by rw [m1.2 j (by rw [getD_set hlt, if_pos rfl]; omega), getD_set hlt, if_pos rfl]
      refine ⟨(Mono.set hlt hold).trans m1, i1, ?_, ?_⟩
      · intro i hil
        rcases List.mem_cons.1 hil with rfl | hil
        · exact ⟨hj, hjm⟩
        · exact j1 i hil
      · intro k a b
        by_cases e : k = j
        · subst e; exact ⟨by simp, hjm⟩
        · obtain ⟨c1, c2⟩ := n1 k (by rw [getD_set hlt, if_neg e]; exact a) b
          exact ⟨by simp [c1], c2⟩
theorem step_ok {p : List Fn} {c : List (Int × Int)} (hr : Right p c) {H H' : List Int} {k : Nat} (hk : k < c.length) (hi : Inv c H) (h : stepS p c H k = some H') :
    Mono H H' ∧ Inv c H' ∧ (H.getD k 0 ≠ -1 → Done p c H' k) ∧ (Sound p c H → Sound p c H') := by
  have hx := getD_of_lt c k (0, 0) hk
  unfold stepS at h
  generalize c.getD k (0, 0) = x at hx h
  by_cases h1 : H.getD k 0 < 0
  · rw [if_pos h1] at h
    simp at h
    subst h
    exact ⟨Mono.refl _, hi, fun a => by rcases hi.2 k hk with b | b <;> omega, fun s => s⟩
  · rw [if_neg h1] at h
    cases hb : beh p x (H.getD k 0) with
    | none => rw [hb] at h; cases h
    | some m =>
      rw [hb] at h
      have hm := (beh_nonneg hr (List.mem_of_getElem? hx) hb).1
      obtain ⟨m1, i1, j1, n1⟩ := push_ok hm (nexts x k) H H' (fun j hj => nexts_le hr hx hj) hi h
      refine ⟨m1, i1, fun hne => ⟨x, m, hx, by rw [m1.2 k hne]; exact hb, j1⟩, fun s i hil => ?_⟩
      by_cases a : H.getD i 0 = -1
      · by_cases b : H'.getD i 0 = -1
        · exact .inl b
        · obtain ⟨c1, c2⟩ := n1 i a b
          rw [c2]
          refine .inr ⟨hm, ?_⟩
          rcases s k hk with d | ⟨_, d⟩
          · omega
          · exact d.step hx hb c1
      · rw [m1.2 i a]; exact s i hil
theorem mono_anti {H H1 : List Int} (a : Mono H H1) (b : Mono H1 H) : H1 = H := by
  apply List.ext_getElem a.1
  intro k hk hk'
  have e1 : H1[k] = H1.getD k 0 := by simp [List.getD, hk]
  have e2 : H[k] = H.getD k 0 := by simp [List.getD, hk']
  rw [e1, e2]
  by_cases h : H.getD k 0 = -1
  · by_cases h' : H1.getD k 0 = -1
    · rw [h, h']
    · exact (b.2 k h').symm
  · exact a.2 k h
theorem round_ok {p : List Fn} {c : List (Int × Int)} (hr : Right p c) : ∀ (k : Nat) (H H' : List Int), k ≤ c.length → Inv c H → roundS p c k H = some H' →
    Mono H H' ∧ Inv c H' ∧ (Sound p c H → Sound p c H') ∧ (H' = H → ∀ i, i < k → H.getD i 0 ≠ -1 → Done p c H i)
  | 0, H, H', _, hi, h => by
    simp [roundS] at h
    subst h
    exact ⟨Mono.refl _, hi, fun s => s, fun _ i hi => by omega⟩
  | k + 1, H, H', hk, hi, h => by
    simp only [roundS] at h
    obtain ⟨H1, h1, h2⟩ := Option.bind_eq_some_iff.1 h
    obtain ⟨m1, i1, s1, d1⟩ := round_ok hr k H H1 (by omega) hi h1
    obtain ⟨m2, i2, d2, s2⟩ := step_ok hr (by omega) i1 h2
    refine ⟨m1.trans m2, i2, fun s => s2 (s1 s), fun e i hik hne => ?_⟩
    subst e
    have e1 := mono_anti m1 m2
    by_cases hlast : i = k
    · subst hlast
      exact d2 (by rw [e1]; exact hne)
    · exact d1 e1 i (by omega) hne
theorem unv_mono : ∀ (H H' : List Int), H'.length = H.length → (∀ k, H.getD k 0 ≠ -1 → H'.getD k 0 = H.getD k 0) → unv H' ≤ unv H ∧ (H' ≠ H → unv H' < unv H)
  | [], [], _, _ => ⟨Nat.le_refl _, fun h => absurd rfl h⟩
  | [], _ :: _, h, _ => by simp at h
  | _ :: _, [], h, _ => by simp at h
  | z :: H, z' :: H', hl, h => by
    obtain ⟨a, b⟩ := unv_mono H H' (by simpa using hl) (fun k hk => by have := h (k + 1) (by simpa using hk); simpa using this)
    have h0 := h 0
    simp only [List.getD_cons_zero] at h0
    have cz : ∀ (z : Int) (H : List Int), unv (z :: H) = (if z = -1 then 1 else 0) + unv H := by
      intro z H
      unfold unv
      rw [List.filter_cons]
      split
      · rename_i e; simp at e; rw [if_pos e]; simp; omega
      · rename_i e; simp at e; rw [if_neg e]; simp
    rw [cz, cz]
    by_cases e : z = -1
    · by_cases e' : z' = -1
      · rw [if_pos e, if_pos e']
        refine ⟨by omega, fun hne => ?_⟩
        have := b (fun q => hne (by rw [q, e, e']))
        omega
      · rw [if_pos e, if_neg e']
        exact ⟨by omega, fun _ => by omega⟩
    · have e2 := h0 e
      rw [e2, if_neg e]
      refine ⟨by omega, fun hne => ?_⟩
      have := b (fun q => hne (by rw [q]))
      omega
theorem rounds_ok {p : List Fn} {c : List (Int × Int)} (hr : Right p c) : ∀ (r : Nat) (H H' : List Int), Inv c H → Sound p c H → roundsS p c r H = some H' →
    Mono H H' ∧ Inv c H' ∧ Sound p c H' ∧ (roundS p c c.length H' = some H' ∨ unv H' + r ≤ unv H)
  | 0, H, H', hi, hs, h => by
    simp [roundsS] at h
    subst h
    exact ⟨Mono.refl _, hi, hs, .inr (by omega)⟩
  | r + 1, H, H', hi, hs, h => by
    simp only [roundsS] at h
    obtain ⟨H1, h1, h2⟩ := Option.bind_eq_some_iff.1 h
    obtain ⟨m1, i1, s1, d1⟩ := rounds_ok hr r H H1 hi hs h1
    obtain ⟨m2, i2, s2, _⟩ := round_ok hr c.length H1 H' (Nat.le_refl _) i1 h2
    refine ⟨m1.trans m2, i2, s2 s1, ?_⟩
    by_cases e : H' = H1
    · subst e; exact .inl h2
    · rcases d1 with d1 | d1
      · rw [h2] at d1; exact absurd (Option.some.inj d1) e
      · have := (unv_mono H1 H' m2.1 m2.2).2 e
        exact .inr (by omega)
theorem unv_le (H : List Int) : unv H ≤ H.length := List.length_filter_le _ _
theorem start_inv {c : List (Int × Int)} (h : 0 < c.length) : Inv c ((start c).set 0 0) ∧ (∀ k, k < c.length → ((start c).set 0 0).getD k 0 = if k = 0 then 0 else -1) := by
  have hl : (start c).length = c.length := by simp [start]
  have hg : ∀ k, k < c.length → ((start c).set 0 0).getD k 0 = if k = 0 then 0 else -1 := by
    intro k hk
    rw [getD_set (by omega)]
    split
    · rfl
    · simp [start, List.getD, hk]
  refine ⟨⟨by simpa using hl, fun k hk => ?_⟩, hg⟩
  rw [hg k hk]
  split
  · exact .inr (by omega)
  · exact .inl rfl
theorem heightsS_ok {p : List Fn} {c : List (Int × Int)} (hr : Right p c) {H : List Int} (h : heightsS p c = some H) : Cons p c H ∧ Sound p c H := by
  unfold heightsS at h
  by_cases h0 : c.length = 0
  · rw [if_pos h0] at h; cases h
  · rw [if_neg h0] at h
    obtain ⟨hi, hg⟩ := start_inv (c := c) (by omega)
    have hs : Sound p c ((start c).set 0 0) := by
      intro k hk
      rw [hg k hk]
      split
      · rename_i e; subst e; exact .inr ⟨by omega, Reach.zero p c⟩
      · exact .inl rfl
    obtain ⟨m1, i1, s1, d1⟩ := rounds_ok hr _ _ H hi hs h
    have hu := unv_le ((start c).set 0 0)
    rw [hi.1] at hu
    have hfix : roundS p c c.length H = some H := by
      rcases d1 with d | d
      · exact d
      · omega
    obtain ⟨_, _, _, d2⟩ := round_ok hr c.length H H (Nat.le_refl _) i1 hfix
    refine ⟨⟨i1.1, by omega, ?_, fun k hk hne => d2 rfl k hk hne⟩, s1⟩
    have h00 := hg 0 (by omega)
    rw [if_pos rfl] at h00
    rw [m1.2 0 (by omega), h00]
theorem push_all {c : List (Int × Int)} {m : Int} {G : List Int} (hl : G.length = c.length) : ∀ (l : List Nat) (H : List Int), Mono H G → (∀ j, j ∈ l → j < c.length ∧ G.getD j 0 = m) → ∃ H', pushS c.length l m H = some H' ∧ Mono H' G
  | [], H, h, _ => ⟨H, rfl, h⟩
  | j :: l, H, h, hj => by
    obtain ⟨h1, h2⟩ := hj j (by simp)
    have hlt : j < H.length := by rw [← h.1, hl]; exact h1
    unfold pushS
    rw [if_neg]
    · refine push_all hl l (H.set j m) ⟨by simpa using h.1, fun k hk => ?_⟩ (fun i hil => hj i (by simp [hil]))
      rw [getD_set hlt] at hk ⊢
      split
      · rename_i e; rw [e, h2]
      · rename_i e; rw [if_neg e] at hk; exact h.2 k hk
    · rintro (a | ⟨a, b⟩)
      · omega
      · exact b (by rw [← h.2 j (by omega), h2])
theorem round_all {p : List Fn} {c : List (Int × Int)} {G : List Int} (hG : Cons p c G) : ∀ (k : Nat) (H : List Int), k ≤ c.length → Mono H G → ∃ H', roundS p c k H = some H' ∧ Mono H' G
  | 0, H, _, h => ⟨H, rfl, h⟩
  | k + 1, H, hk, h => by
    obtain ⟨H1, h1, m1⟩ := round_all hG k H (by omega) h
    simp only [roundS, h1, Option.bind_some]
    unfold stepS
    by_cases hz : H1.getD k 0 < 0
    · rw [if_pos hz]; exact ⟨H1, rfl, m1⟩
    · rw [if_neg hz]
      have e := m1.2 k (by omega)
      obtain ⟨x, m, hx, hb, hj⟩ := hG.done k (by omega) (by omega)
      have hx' := getD_of_lt c k (0, 0) (by omega)
      rw [hx] at hx'
      rw [← Option.some.inj hx', ← e, hb]
      exact push_all hG.len (nexts x k) H1 m1 hj
theorem rounds_all {p : List Fn} {c : List (Int × Int)} {G : List Int} (hG : Cons p c G) : ∀ (r : Nat) (H : List Int), Mono H G → ∃ H', roundsS p c r H = some H' ∧ Mono H' G
  | 0, H, h => ⟨H, rfl, h⟩
  | r + 1, H, h => by
    obtain ⟨H1, h1, m1⟩ := rounds_all hG r H h
    simp only [roundsS, h1, Option.bind_some]
    exact round_all hG c.length H1 (Nat.le_refl _) m1
theorem start_mono {p : List Fn} {c : List (Int × Int)} {G : List Int} (hG : Cons p c G) : Mono ((start c).set 0 0) G ∧ Mono (start c) G := by
  obtain ⟨hi, hg⟩ := start_inv (c := c) hG.pos
  refine ⟨⟨hG.len.trans hi.1.symm, fun k hk => ?_⟩, ⟨hG.len.trans (by simp [start]), fun k hk => ?_⟩⟩
  · by_cases hkl : k < c.length
    · rw [hg k hkl] at hk ⊢
      split
      · rename_i e; rw [e]; exact hG.first
      · rename_i e; rw [if_neg e] at hk; exact absurd rfl hk
    · simp [List.getD, hG.len, hi.1, hkl]
  · by_cases hkl : k < c.length
    · exact absurd (by simp [start, List.getD, hkl]) hk
    · simp [List.getD, hG.len, start, hkl]
def wayS (p : List Fn) (c : List (Int × Int)) : Bool × List Int := comeS p c (c.length + 1) (start c) 0 0
theorem wayS_ok {p : List Fn} {c : List (Int × Int)} (hr : Right p c) {H : List Int} (h : wayS p c = (true, H)) : Cons p c H ∧ Sound p c H := by
  have hl : (start c).length = c.length := by simp [start]
  have hg : ∀ k, k < c.length → (start c).getD k 0 = -1 := fun k hk => by simp [start, List.getD, hk]
  obtain ⟨m1, a1, a2, d1, s1⟩ := come_ok hr _ _ _ _ H hl (by omega) h
  refine ⟨⟨m1.1.trans hl, by omega, a2, fun k hk hne => d1 k hk (hg k hk) hne⟩, s1 (Reach.zero p c) (fun k hk => .inl (hg k hk))⟩
theorem way_heights {p : List Fn} {c : List (Int × Int)} (hr : Right p c) : (∀ H, wayS p c = (true, H) → heightsS p c = some H) ∧ (∀ H, heightsS p c = some H → wayS p c = (true, H)) := by
  constructor
  · intro H h
    obtain ⟨a, b⟩ := wayS_ok hr h
    obtain ⟨H', h', _⟩ := rounds_all a (c.length + 1) _ (start_mono a).1
    have hh : heightsS p c = some H' := by
      unfold heightsS
      rw [if_neg (by have := a.pos; omega)]
      exact h'
    obtain ⟨a', b'⟩ := heightsS_ok hr hh
    rw [hh, cons_one hr a b a' b']
  · intro H h
    obtain ⟨a, b⟩ := heightsS_ok hr h
    have hu := unv_le (start c)
    rw [show (start c).length = c.length by simp [start]] at hu
    obtain ⟨H', h', _⟩ := come_all hr a (c.length + 1) (start c) 0 0 (start_mono a).2 (by omega) a.pos a.first (by omega)
    obtain ⟨a', b'⟩ := wayS_ok hr h'
    rw [cons_one hr a b a' b']
    exact h'
end Go.Proofs.YtokhibfenccijaaGreatDoor
