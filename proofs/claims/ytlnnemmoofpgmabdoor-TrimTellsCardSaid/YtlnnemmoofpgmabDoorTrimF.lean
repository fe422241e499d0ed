/-
  The contracts of the reference's TrimFunc and TrimAll: what D1 says.
-/
import Derived.Test.YtlnnemmoofpgmabDoorTrimE
import Derived.Test.YtlnnemmoofpgmabDoorFlowJ
import Derived.Maps.AppendAt
namespace Go.Proofs.YtlnnemmoofpgmabDoor
open Go.RowKit

set_option maxHeartbeats 2000000 in
theorem refTrimFunc_bad (p : List Fn) (v : Value) (f : Int) (w : World) (hp : ProgAt w v p) (hz : (hgtS p f).2 ≠ 0) :
    Calls Tryd.prog 19 #[v, .int .i64 f] w fun e w' => TfPost Fn.zero (hgtS p f).2 w e w' := by
  obtain ⟨oa, cap, rfl, _, _⟩ := id hp
  have hz' : ((hgtS p f).2 != 0) = true := by rw [bne_iff_ne]; exact hz
  have hha := heightsOf_any p _ f (w.alloc (.cells #[.int .i64 0, .int .i64 0, .slice none 0 0] 36)) (hp.kept ((Kept.refl w).alloc _))
  unfold HgtPost at hha
  generalize (hgtS p f).2 = r at *
  generalize (hgtS p f).1 = l at *
  have HHA := hide hha
  clear hp hz hha
  go_enter Tryd.func19, Tryd.ntmps19
  go_wp2_with fail
  refine (unhide HHA).mono ?_
  rintro e w1 ⟨u1, rfl, _, hk1⟩
  have l1 := lays_kept hk1 (lays_new (b := w.heap.size) (o := .cells #[.int .i64 0, .int .i64 0, .slice none 0 0] 36) rfl)
  have e0 := cell_lays l1 0
  have e1 := cell_lays l1 1
  have e2 := cell_lays l1 2
  have z0 := frozen_lays l1 0
  have z1 := frozen_lays l1 1
  have z2 := frozen_lays l1 2
  simp only [List.getElem?_toArray, List.getElem?_cons_zero, List.getElem?_cons_succ] at e0 e1 e2
  have H1 := hide (((Kept.refl w).alloc _).trans hk1)
  have L1 := hide l1
  clear hk1 HHA l1
  go_wp2
  have hl3 := lays_set (lays_set (lays_set (unhide L1) 0 (.int .i64 0)) 1 (.int .i64 0)) 2 (.slice none 0 0)
  have k0 := cell_lays hl3 0
  have k1 := cell_lays hl3 1
  have k2 := cell_lays hl3 2
  simp only [Array.setIfInBounds, List.size_toArray, List.length_cons, List.length_nil] at k0 k1 k2
  refine bodyPost_ret (v := .tuple #[.agg #[.int .i64 0, .int .i64 0, .slice none 0 0], .int .i64 r]) (by simp [results, Tryd.results19, go_sem, k0, k1, k2]) rfl ?_
  exact ⟨.slice none 0 0, rfl, CodeNew.nil _ _, (((unhide H1).setCell (p := ⟨w.heap.size, 0, none⟩) (Nat.le_refl _) _).setCell (p := ⟨w.heap.size, 1, none⟩) (Nat.le_refl _) _).setCell (p := ⟨w.heap.size, 2, none⟩) (Nat.le_refl _) _⟩

set_option maxHeartbeats 2000000 in
theorem refTrimFunc_go (p : List Fn) (v : Value) (i : Nat) (w : World) (hp : ProgAt w v p) (hz : chkS p i = 0) (hh : heightsS p (codeOf p i) = some (hgtL p i)) (hH : hgtS p i = (hgtL p i, 0)) :
    Calls Tryd.prog 19 #[v, .int .i64 i] w fun e w' => TfPost (trimF p i) 0 w e w' := by
  obtain ⟨oa, cap, rfl, _, _⟩ := id hp
  have hha := heightsOf_any p _ i (w.alloc (.cells #[.int .i64 0, .int .i64 0, .slice none 0 0] 36)) (hp.kept ((Kept.refl w).alloc _))
  unfold HgtPost at hha
  rw [hH] at hha
  have hrt : ∀ u, Kept w u → Calls Tryd.prog 41 #[.slice oa p.length cap, .int .i64 i] u fun e w' => TrimPost (trimF p i).args (trimF p i).locals (trimF p i).code u e w' := fun u hu => refTrimmed_any p _ i u (hp.kept hu) hz hh
  generalize trimF p i = g at *
  have HHA := hide hha
  have HRT := hide hrt
  clear hp hz hh hH hha hrt
  go_enter Tryd.func19, Tryd.ntmps19
  go_wp2_with fail
  refine (unhide HHA).mono ?_
  rintro e w1 ⟨u1, rfl, _, hk1⟩
  have l1 := lays_kept hk1 (lays_new (b := w.heap.size) (o := .cells #[.int .i64 0, .int .i64 0, .slice none 0 0] 36) rfl)
  have H1 := hide (((Kept.refl w).alloc _).trans hk1)
  have L1 := hide l1
  clear hk1 HHA l1
  go_wp2_with fail
  refine ((unhide HRT) _ (unhide H1)).mono ?_
  rintro e w2 ⟨cv, rfl, hcv, hk2⟩
  have l2 := lays_kept hk2 (unhide L1)
  have e0 := cell_lays l2 0
  have e1 := cell_lays l2 1
  have e2 := cell_lays l2 2
  have z0 := frozen_lays l2 0
  have z1 := frozen_lays l2 1
  have z2 := frozen_lays l2 2
  simp only [List.getElem?_toArray, List.getElem?_cons_zero, List.getElem?_cons_succ] at e0 e1 e2
  have H2 := hide ((unhide H1).trans hk2)
  have L2 := hide l2
  have hsz : w.heap.size < w1.heap.size := (Array.getElem?_eq_some_iff.1 (unhide L1)).1
  obtain ⟨oa6, cp6, he6, _, _⟩ := id hcv
  subst he6
  have HCV := hide hcv
  clear hk2 HRT l2 hcv
  go_wp2
  have hl3 := lays_set (lays_set (lays_set (unhide L2) 0 (.int .i64 g.args)) 1 (.int .i64 g.locals)) 2 (.slice oa6 g.code.length cp6)
  have k0 := cell_lays hl3 0
  have k1 := cell_lays hl3 1
  have k2 := cell_lays hl3 2
  simp only [Array.setIfInBounds, List.size_toArray, List.length_cons, List.length_nil] at k0 k1 k2
  refine bodyPost_ret (v := .tuple #[.agg #[.int .i64 g.args, .int .i64 g.locals, .slice oa6 g.code.length cp6], .int .i64 0]) (by simp [results, Tryd.results19, go_sem, k0, k1, k2]) rfl ?_
  refine ⟨_, rfl, ?_, (((unhide H2).setCell (p := ⟨w.heap.size, 0, none⟩) (Nat.le_refl _) _).setCell (p := ⟨w.heap.size, 1, none⟩) (Nat.le_refl _) _).setCell (p := ⟨w.heap.size, 2, none⟩) (Nat.le_refl _) _⟩
  refine CodeNew.mono (N := w1.heap.size) ((unhide HCV).keptX hsz ?_) (Nat.le_of_lt hsz)
  exact (((KeptX.refl w.heap.size _).setCell (p := ⟨w.heap.size, 0, none⟩) (.inl rfl) _).setCell (p := ⟨w.heap.size, 1, none⟩) (.inl rfl) _).setCell (p := ⟨w.heap.size, 2, none⟩) (.inl rfl) _

/-- The reference's TrimFunc answers what D1 says. -/
theorem refTrimFunc_any (p : List Fn) (v : Value) (f : Int) (w : World) (hp : ProgAt w v p) :
    Calls Tryd.prog 19 #[v, .int .i64 f] w fun e w' => TfPost (tfS p f).1 (tfS p f).2 w e w' := by
  by_cases hz : (hgtS p f).2 = 0
  · obtain ⟨i, rfl, hck, hh, hg⟩ := hgtS_right hz
    have ht : tfS p i = (trimF p i, 0) := by unfold tfS; rw [if_pos hz, Int.toNat_natCast]
    rw [ht]
    exact refTrimFunc_go p v i w hp hck hh hg
  · have ht : tfS p f = (Fn.zero, (hgtS p f).2) := by unfold tfS; rw [if_neg hz]
    rw [ht]
    exact refTrimFunc_bad p v f w hp hz

/-- Ops that lie outside a block. -/
def CodeOff (r : Option Nat) (w : World) (v : Value) (c : List (Int × Int)) : Prop :=
  ∃ oa cap, v = .slice oa c.length cap ∧ c.length ≤ 8796093022208 ∧ ∀ i x, c[i]? = some x → ∃ b o, oa = some ⟨b, o, none⟩ ∧ some b ≠ r ∧
    w.cell? ⟨b, o + i * 2, none⟩ = some (.int .i64 x.1) ∧ w.cell? ⟨b, o + i * 2 + 1, none⟩ = some (.int .i64 x.2)
theorem CodeNew.off {N : Nat} {w : World} {v : Value} {c : List (Int × Int)} (h : CodeNew N w v c) {r : Option Nat} (hr : ∀ g, r = some g → g < N) : CodeOff r w v c := by
  obtain ⟨oa, cap, e, hl, hi⟩ := h
  refine ⟨oa, cap, e, hl, fun i x hx => ?_⟩
  obtain ⟨b, o, e1, hb, h1, h2⟩ := hi i x hx
  exact ⟨b, o, e1, fun e => by have := hr b e.symm; omega, h1, h2⟩
theorem CodeOff.code {r : Option Nat} {w : World} {v : Value} {c : List (Int × Int)} (h : CodeOff r w v c) : CodeAt w v c := by
  obtain ⟨oa, cap, e, hl, hi⟩ := h
  refine ⟨oa, cap, e, hl, fun i x hx => ?_⟩
  obtain ⟨b, o, e1, _, h1, h2⟩ := hi i x hx
  exact ⟨b, o, e1, h1, h2⟩
theorem CodeOff.kept {r : Option Nat} {w w' : World} {v : Value} {c : List (Int × Int)} (h : CodeOff r w v c) (k : Kept w w') : CodeOff r w' v c := by
  obtain ⟨oa, cap, e, hl, hi⟩ := h
  refine ⟨oa, cap, e, hl, fun i x hx => ?_⟩
  obtain ⟨b, o, e1, hb, h1, h2⟩ := hi i x hx
  exact ⟨b, o, e1, hb, k.cell h1, k.cell h2⟩
theorem CodeOff.grown {r r' : Option Nat} {w w' : World} {v : Value} {c : List (Int × Int)} (h : CodeOff r w v c) (hg : w.grownBy w' r) (hr : r' = r ∨ r' = some w.heap.size) : CodeOff r' w' v c := by
  obtain ⟨oa, cap, e, hl, hi⟩ := h
  refine ⟨oa, cap, e, hl, fun i x hx => ?_⟩
  obtain ⟨b, o, e1, hb, h1, h2⟩ := hi i x hx
  have hlt : b < w.heap.size := cell_lt h1
  refine ⟨b, o, e1, ?_, (World.cell?_of_block (w := w) (hg.block b hlt hb)).trans h1, (World.cell?_of_block (w := w) (hg.block b hlt hb)).trans h2⟩
  rcases hr with rfl | rfl
  · exact hb
  · intro e; simp at e; omega

theorem three_new (w : World) (a b : Int) (c : Value) (t : TypeId) (n : Nat) (hn : w.heap.size = n) : ∀ j u, [Value.int .i64 a, Value.int .i64 b, c][j]? = some u → (w.alloc (.cells #[.int .i64 a, .int .i64 b, c] t)).cell? ((⟨n, 0, none⟩ : Addr).add j) = some u := by
  subst hn
  intro j u hj
  match j, hj with
  | 0, hj => simp at hj; subst hj; exact cell_lays (lays_new rfl) 0
  | 1, hj => simp at hj; subst hj; exact cell_lays (lays_new rfl) 1
  | 2, hj => simp at hj; subst hj; exact cell_lays (lays_new rfl) 2
  | j + 3, hj => simp at hj
theorem three_one (a b : Int) (oa : Option Addr) (l c : Nat) : ∀ u, u ∈ [Value.int .i64 a, Value.int .i64 b, .slice oa l c] → u.oneCell' = true := by
  intro u hu
  simp only [List.mem_cons, List.not_mem_nil, or_false] at hu
  rcases hu with rfl | rfl | rfl <;> rfl
theorem row_kept {w w' : World} {base : Nat} {e : TypeId} {size : Nat} {v : Value} {n : Nat} {xs : List Value} (h : w.ownsRow base e size v n xs) (k : Kept w w') : w'.ownsRow base e size v n xs := by
  obtain ⟨h1, h2 | ⟨g, cap, cur, hv, hb, hh, r⟩⟩ := h
  · exact ⟨h1, .inl h2⟩
  · exact ⟨h1, .inr ⟨g, cap, cur, hv, hb, lays_kept k hh, r⟩⟩
theorem row_lt {w : World} {base : Nat} {e : TypeId} {size : Nat} {v : Value} {n : Nat} {xs : List Value} (h : w.ownsRow base e size v n xs) : ∀ g, v.ownBlock = some g → g < w.heap.size := by
  intro g hg
  obtain ⟨_, ⟨rfl, _⟩ | ⟨g', cap, cur, rfl, _, hh, _⟩⟩ := h
  · cases hg
  · cases hg; exact (Array.getElem?_eq_some_iff.1 hh).1
theorem flatFns_snoc (l : List (Fn × Value)) (x : Fn × Value) : flatFns (l ++ [x]) = flatFns l ++ [.int .i64 x.1.args, .int .i64 x.1.locals, x.2] := by simp [flatFns]
theorem progAt_row {w : World} {base : Nat} {v : Value} {n : Nat} {l : List (Fn × Value)} (h : w.ownsRow base 36 3 v n (flatFns l)) (hn : n = l.length) (hl : l.length ≤ 8796093022208) (hc : ∀ x, x ∈ l → CodeAt w x.2 x.1.code) {q : List Fn} (hq : q = l.map (·.1)) : ProgAt w v q := by
  subst hn hq
  obtain ⟨hlen, ⟨rfl, h0⟩ | ⟨g, cap, cur, rfl, hb, hh, _, _, hs, ht⟩⟩ := h
  · have : l = [] := List.length_eq_zero_iff.1 h0
    subst this
    exact ⟨none, 0, rfl, by simp, fun i x hx => by simp at hx⟩
  · refine ⟨_, cap, by rw [List.length_map], by simpa using hl, fun i f hf => ?_⟩
    rw [List.getElem?_map, Option.map_eq_some_iff] at hf
    obtain ⟨x, hx, rfl⟩ := hf
    have hi := (List.getElem?_eq_some_iff.1 hx).1
    obtain ⟨f1, f2, f3⟩ := flatFns_at l i x hx
    rw [← ht, List.getElem?_take, if_pos (by omega)] at f1 f2 f3
    refine ⟨g, 0, x.2, rfl, ?_, ?_, ?_, hc x (List.mem_of_getElem? hx)⟩
    · rw [cell_lays hh]; simpa using f1
    · rw [cell_lays hh]; simpa using f2
    · rw [cell_lays hh]; simpa using f3

set_option maxHeartbeats 2000000 in
theorem refTrimAll_bad (p : List Fn) (v : Value) (w : World) (hp : ProgAt w v p) (hz : progS p ≠ 0) :
    Calls Tryd.prog 20 #[v] w fun e w' => TaPost p w e w' := by
  obtain ⟨oa, cap, rfl, _, _⟩ := id hp
  have hz' : (progS p != 0) = true := by rw [bne_iff_ne]; exact hz
  have ht : taS p = [] := by unfold taS; rw [if_neg hz]
  have hck := progError_any p _ w hp
  have HCK := hide hck
  unfold TaPost
  rw [ht]
  generalize progS p = r at *
  clear hp hz hck ht
  go_enter Tryd.func20, Tryd.ntmps20
  go_wp2_with fail
  refine (unhide HCK).mono ?_
  rintro e w1 ⟨rfl, hk1⟩
  have H1 := hide hk1
  clear hk1 HCK
  go_wp2
  go_ret2
  exact ⟨.slice none 0 0, rfl, nilProg _, unhide H1⟩

set_option maxHeartbeats 8000000 in
theorem refTrimAll_go (p : List Fn) (oa : Option Addr) (n cap : Nat) (w : World) (hn : n = p.length) (hp : ProgAt w (.slice oa n cap) p) (hz : progS p = 0) :
    Calls Tryd.prog 20 #[.slice oa n cap] w fun e w' => TaPost p w e w' := by
  obtain ⟨hn5, hn0, hright⟩ := progS_right hz
  have ht : taS p = trimP p := by unfold taS; rw [if_pos hz]
  have hrt : ∀ u, Kept w u → ∀ k : Nat, k < n → Calls Tryd.prog 41 #[.slice oa n cap, .int .i64 k] u fun e w' => TrimPost (trimF p k).args (trimF p k).locals (trimF p k).code u e w' :=
    fun u hu k hk => refTrimmed_any p _ k u (hp.kept hu) (hright k (by omega)) (progS_heights hz (by omega))
  have hck := progError_any p _ w hp
  obtain ⟨i0, hi0, hz0, hz1, hz2⟩ := info_parts infoFun
  rw [hz] at hck
  unfold TaPost
  rw [ht, hz]
  have hn5n : n ≤ 5 := by omega
  have HCK := hide hck
  have HN := hide hn
  have HRT := hide hrt
  clear hp hz hck hn ht hrt hn0 hright
  go_enter Tryd.func20, Tryd.ntmps20
  go_wp2_with fail
  refine (unhide HCK).mono ?_
  rintro e w1 ⟨rfl, hk1⟩
  have H1 := hide hk1
  clear hk1 HCK
  go_wp2
  go_loopw [5, 6] (fun s5 s6 wr => ∃ (k : Nat) (l : List (Fn × Value)), k ≤ n ∧ s6 = .int .i64 k ∧ Hid (wr.ownsRow w1.heap.size 36 3 s5 k (flatFns l)) ∧ Hid (l.map (·.1) = (List.range k).map (trimF p)) ∧ Hid (∀ x, x ∈ l → CodeOff s5.ownBlock wr x.2 x.1.code) ∧ Hid (Kept w1 wr)) (fun _ s6 _ => n - (intOf s6).toNat)
  case atStart => exact ⟨0, [], Nat.zero_le _, rfl, World.ownsRow_nil _ _ _ _, rfl, (fun x hx => by cases hx), Kept.refl _⟩
  case round =>
    obtain ⟨k, l, hkm, rfl, HOW, HL, HC, HKr⟩ := hrel
    by_cases hlt : k < n
    · have hfc := (unhide HRT) _ ((unhide H1).trans (unhide HKr)) k hlt
      have hown5 := unhide HOW
      have hll : l.length = k := by have := congrArg List.length (unhide HL); simpa using this
      have hLs : ∀ cv : Value, (l ++ [(trimF p k, cv)]).map (fun x : Fn × Value => x.1) = (List.range (k + 1)).map (trimF p) := fun (cv : Value) => by
        rw [List.map_append, unhide HL, List.range_succ, List.map_append]; rfl
      have HFC := hide hfc
      have HLS := hide hLs
      have HLL := hide hll
      clear hfc hLs hll
      generalize trimF p k = g at *
      go_wp2_with fail
      refine (unhide HFC).mono ?_
      rintro e w2 ⟨cv, rfl, hcv, hk2⟩
      obtain ⟨oa6, cp6, he6, _, _⟩ := id hcv
      subst he6
      have hrw : w2.ownsRow w1.heap.size 36 3 _ k (flatFns l) := row_kept hown5 hk2
      have hnewc := (hcv.off (row_lt hown5)).kept ((Kept.refl w2).alloc (.cells #[.int .i64 g.args, .int .i64 g.locals, .slice oa6 g.code.length cp6] 36))
      have holdc : ∀ x, x ∈ l → CodeOff _ (w2.alloc (.cells #[.int .i64 g.args, .int .i64 g.locals, .slice oa6 g.code.length cp6] 36)) x.2 x.1.code := fun x hx => (((unhide HC) x hx).kept hk2).kept ((Kept.refl w2).alloc _)
      have hb2 : w1.heap.size ≤ w2.heap.size := Nat.le_trans (unhide HKr).size hk2.size
      have HNC := hide hnewc
      have HOC := hide holdc
      have HK2 := hide (((unhide HKr).trans hk2).alloc (.cells #[.int .i64 g.args, .int .i64 g.locals, .slice oa6 g.code.length cp6] 36))
      clear hnewc holdc hcv hk2 HFC
      go_wp2_with (at_builtin; refine wpList_append_own_at _ rfl _ _ 22 rfl w1.heap.size 36 i0 (.agg #[.int .i64 0, .int .i64 0, .slice none 0 0]) 3 40 Tryd.underlying22 hi0 hz0 hz1 hz2 rfl (by decide) _ _ _ rfl (hrw.alloc _) ⟨w2.heap.size, 0, none⟩ 1 1 [.int .i64 g.args, .int .i64 g.locals, .slice oa6 g.code.length cp6] rfl rfl (three_new _ _ _ _ _ _ rfl) (three_one _ _ _ _ _) (by unfold maxLen; omega) (by omega) (by simp; omega) ?_; intro v' w3 hown' hgrow _ hat)
      have HO3 : Hid (w3.ownsRow w1.heap.size 36 3 v' (k + 1) (flatFns (l ++ [(g, .slice oa6 g.code.length cp6)]))) := by rw [flatFns_snoc]; exact hown'
      have HC3 : Hid (∀ x, x ∈ l ++ [(g, .slice oa6 g.code.length cp6)] → CodeOff v'.ownBlock w3 x.2 x.1.code) := by
        intro x hx
        rcases List.mem_append.1 hx with hx | hx
        · exact ((unhide HOC) x hx).grown hgrow hat
        · simp only [List.mem_cons, List.not_mem_nil, or_false] at hx
          subst hx
          exact (unhide HNC).grown hgrow hat
      have HK3 := hide (Below.grown (unhide HK2) hgrow (by simp; omega) (row_block hrw))
      clear hown' hgrow hat hrw hown5
      go_roundw
      case rel => exact ⟨k + 1, _, by omega, by go_num, HO3, (unhide HLS) _, HC3, HK3⟩
      case measure => simp [intOf]; omega
    · have hke : k = p.length := by have := unhide HN; omega
      have hll : l.length = k := by have := congrArg List.length (unhide HL); simpa using this
      have hL := unhide HL
      rw [hke] at hL
      have hpr : ProgAt wr _ (trimP p) := progAt_row (unhide HOW) hll.symm (by omega) (fun x hx => ((unhide HC) x hx).code) (q := trimP p) hL.symm
      have HPR := hide hpr
      clear hke hll hL hpr
      go_wp2
      go_ret2
      exact ⟨_, rfl, unhide HPR, (unhide H1).trans (unhide HKr)⟩

/-- The reference's TrimAll answers what D1 says. -/
theorem refTrimAll_any (p : List Fn) (v : Value) (w : World) (hp : ProgAt w v p) :
    Calls Tryd.prog 20 #[v] w fun e w' => TaPost p w e w' := by
  by_cases hz : progS p = 0
  · obtain ⟨oa, cap, rfl, _, _⟩ := id hp
    exact refTrimAll_go p oa _ cap w rfl hp hz
  · exact refTrimAll_bad p v w hp hz
end Go.Proofs.YtlnnemmoofpgmabDoor
