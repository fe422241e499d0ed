/- TrimD, OpAr -/
import Derived.Test.YtkepbeeioalmbabDoorTM11
import Derived.Test.YtkepbeeioalmbabDoorTM02
set_option maxRecDepth 100000
set_option maxHeartbeats 8000000
namespace Go.Proofs.YtkepbeeioalmbabDoor
open Go.RowKit
theorem infoFun : (Tryd.prog.info? 36).map (fun i => (i.zero, i.size, i.bytes)) = some (some (.agg #[.int .i64 0, .int .i64 0, .slice none 0 0]), 3, 40) := by kernel_rfl
theorem make_funcs (m : Nat) (hm : m ≤ 1000000) (u : World) : (Instr.makeSlice 22 (.int .i64 m) (.int .i64 m)).run Tryd.prog u =
    .ok (.slice (some ⟨u.heap.size, 0, none⟩) m m) (u.alloc (.cells (madeCells #[.int .i64 0, .int .i64 0, .slice none 0 0] (m * 3)) 36)) := by
  obtain ⟨i0, hi, hz0, hz1, hz2⟩ := info_parts infoFun
  have h := run_make (P := Tryd.prog) u 22 36 i0 (.agg #[.int .i64 0, .int .i64 0, .slice none 0 0]) Tryd.underlying22 hi hz0 .i64 .i64 (m : Int) (m : Int) (by omega) (by omega) (by rw [hz2]; omega) (by omega)
  rw [Int.toNat_natCast] at h
  simpa [hz1, Value.cells] using h
def FnsIn (N : Nat) (w : World) (B n : Nat) (q : Nat → Fn) (k : Nat) : Prop :=
  ∃ cur : Array Value, w.heap[B]? = some (.cells cur 36) ∧ cur.size = n * 3 ∧ ∀ j, j < k → ∃ cv, cur[j * 3]? = some (.int .i64 (q j).args) ∧ cur[j * 3 + 1]? = some (.int .i64 (q j).locals) ∧ cur[j * 3 + 2]? = some cv ∧ CodeNew N w cv (q j).code
theorem FnsIn.kept {N : Nat} {w w' : World} {B n k : Nat} {q : Nat → Fn} (h : FnsIn N w B n q k) (hk : Kept w w') : FnsIn N w' B n q k := by
  obtain ⟨cur, h1, h2, h3⟩ := h
  refine ⟨cur, lays_kept hk h1, h2, fun j hj => ?_⟩
  obtain ⟨cv, a, b, c, d⟩ := h3 j hj
  exact ⟨cv, a, b, c, d.kept hk⟩
theorem FnsIn.there {N : Nat} {w : World} {B n k : Nat} {q : Nat → Fn} (h : FnsIn N w B n q k) {j : Nat} (hj : j < n * 3) : (∃ u, w.cell? ⟨B, j, none⟩ = some u) ∧ w.frozen? ⟨B, j, none⟩ = false := by
  obtain ⟨cur, h1, h2, _⟩ := h
  refine ⟨⟨cur[j]'(by omega), ?_⟩, frozen_lays h1 j⟩
  rw [cell_lays h1]
  exact Array.getElem?_eq_getElem _
theorem FnsIn.step {N : Nat} {w : World} {B n k : Nat} {q : Nat → Fn} (h : FnsIn N w B n q k) (hk : k < n) (hB : B < N) {cv : Value} (hc : CodeNew N w cv (q k).code) :
    FnsIn N (((w.setCell ⟨B, k * 3, none⟩ (.int .i64 (q k).args)).setCell ⟨B, k * 3 + 1, none⟩ (.int .i64 (q k).locals)).setCell ⟨B, k * 3 + 2, none⟩ cv) B n q (k + 1) := by
  obtain ⟨cur, h1, h2, h3⟩ := h
  have hx : KeptX B w (((w.setCell ⟨B, k * 3, none⟩ (.int .i64 (q k).args)).setCell ⟨B, k * 3 + 1, none⟩ (.int .i64 (q k).locals)).setCell ⟨B, k * 3 + 2, none⟩ cv) :=
    (((KeptX.refl B w).setCell (p := ⟨B, k * 3, none⟩) (.inl rfl) _).setCell (p := ⟨B, k * 3 + 1, none⟩) (.inl rfl) _).setCell (p := ⟨B, k * 3 + 2, none⟩) (.inl rfl) _
  refine ⟨_, lays_set (lays_set (lays_set h1 _ _) _ _) _ _, by simp [h2], fun j hj => ?_⟩
  by_cases e : j = k
  · subst e
    refine ⟨cv, ?_, ?_, ?_, hc.keptX hB hx⟩
    · simp only [Array.getElem?_setIfInBounds, Array.size_setIfInBounds]
      rw [if_neg (by omega), if_neg (by omega), if_pos trivial, if_pos (by omega)]
    · simp only [Array.getElem?_setIfInBounds, Array.size_setIfInBounds]
      rw [if_neg (by omega), if_pos trivial, if_pos (by omega)]
    · simp only [Array.getElem?_setIfInBounds, Array.size_setIfInBounds]
      rw [if_pos trivial, if_pos (by omega)]
  · obtain ⟨cv', a, b, c, d⟩ := h3 j (by omega)
    refine ⟨cv', ?_, ?_, ?_, d.keptX hB hx⟩
    · simp only [Array.getElem?_setIfInBounds, Array.size_setIfInBounds]
      rw [if_neg (by omega), if_neg (by omega), if_neg (by omega)]; exact a
    · simp only [Array.getElem?_setIfInBounds, Array.size_setIfInBounds]
      rw [if_neg (by omega), if_neg (by omega), if_neg (by omega)]; exact b
    · simp only [Array.getElem?_setIfInBounds, Array.size_setIfInBounds]
      rw [if_neg (by omega), if_neg (by omega), if_neg (by omega)]; exact c
theorem FnsIn.prog {N : Nat} {w : World} {B n : Nat} {p q : List Fn} {cap : Nat} (h : FnsIn N w B n (trimF p) n) (hn : n = p.length) (hq : q = trimP p) (h8 : n ≤ 8796093022208) : ProgAt w (.slice (some ⟨B, 0, none⟩) n cap) q := by
  subst hq
  obtain ⟨cur, h1, h2, h3⟩ := h
  have hl : (trimP p).length = n := by simp [trimP, hn]
  refine ⟨_, cap, by rw [hl], by omega, fun j f hf => ?_⟩
  have hj : j < n := by rw [← hl]; exact (List.getElem?_eq_some_iff.1 hf).1
  obtain rfl : trimF p j = f := by
    have := trimP_get (p := p) (k := j) (by omega)
    simp only [List.getD, hf, Option.getD_some] at this
    exact this.symm
  obtain ⟨cv, a, b, c, d⟩ := h3 j hj
  refine ⟨B, 0, cv, rfl, ?_, ?_, ?_, d.code⟩
  · rw [cell_lays h1, Nat.zero_add]; exact a
  · rw [cell_lays h1, Nat.zero_add]; exact b
  · rw [cell_lays h1, Nat.zero_add]; exact c
def taS (p : List Fn) : List Fn := if progS p = 0 then trimP p else []
def TaPost (p : List Fn) (w : World) (e : Ending) (w' : World) : Prop :=
  ∃ v, e = .returned (.tuple #[v, .int .i64 (progS p)]) ∧ ProgAt w' v (taS p) ∧ Kept w w'
theorem tfS_right {p : List Fn} (h : progS p = 0) {k : Nat} (hk : k < p.length) : tfS p k = (trimF p k, 0) := by
  obtain ⟨_, _, hck⟩ := progS_right h
  have hz : (hgtS p k).2 = 0 := by
    rw [hgtS_E (hck k hk)]
    unfold hgtE
    rw [progS_heights h hk]
  unfold tfS
  rw [if_pos hz, Int.toNat_natCast]
theorem trimAll_bad (p : List Fn) (v : Value) (w : World) (hp : ProgAt w v p) (hk : KindsAt w) (hz : progS p ≠ 0) :
    Calls Tryd.prog 16 #[v] w fun e w' => TaPost p w e w' := by
  obtain ⟨oa, cap, rfl, _, _⟩ := id hp
  have hz' : (progS p != 0) = true := by rw [bne_iff_ne]; exact hz
  have ht : taS p = [] := by unfold taS; rw [if_neg hz]
  have hck := progCheck_any p _ w hp hk
  have HCK := hide hck
  unfold TaPost
  rw [ht]
  generalize progS p = r at *
  clear hp hk hz hck ht
  go_enter Tryd.func16, Tryd.ntmps16
  go_wp2_with fail
  refine (unhide HCK).mono ?_
  rintro e w1 ⟨rfl, hk1⟩
  have H1 := hide hk1
  clear hk1 HCK
  go_wp2
  go_ret2
  exact ⟨.slice none 0 0, rfl, nilProg _, unhide H1⟩
theorem trimAll_go (p : List Fn) (oa : Option Addr) (n cap : Nat) (w : World) (hn : n = p.length) (hp : ProgAt w (.slice oa n cap) p) (hk : KindsAt w) (hz : progS p = 0) :
    Calls Tryd.prog 16 #[.slice oa n cap] w fun e w' => TaPost p w e w' := by
  obtain ⟨hn5, hn0, _⟩ := progS_right hz
  have ht : taS p = trimP p := by unfold taS; rw [if_pos hz]
  have htf : ∀ k : Nat, k < n → tfS p k = (trimF p k, 0) := fun k hk => tfS_right hz (by omega)
  have hck := progCheck_is p _ 0 w hp hk hz
  have hmk := make_funcs n (by omega)
  unfold TaPost
  rw [ht, hz]
  have hn5n : n ≤ 5 := by omega
  have HCK := hide hck
  have HP := hide hp
  have HK := hide hk
  have HN := hide hn
  have HTF := hide htf
  clear hp hk hz hck hn ht htf hn0
  go_enter Tryd.func16, Tryd.ntmps16
  go_wp2_with fail
  refine (unhide HCK).mono ?_
  rintro e w1 ⟨rfl, hk1⟩
  have H1 := hide hk1
  have HF0 : Hid (FnsIn (w1.heap.size + 1) (w1.alloc (.cells (madeCells #[.int .i64 0, .int .i64 0, .slice none 0 0] (n * 3)) 36)) w1.heap.size n (trimF p) 0) :=
    ⟨_, lays_new rfl, size_madeCells _ _, fun j hj => by omega⟩
  clear hk1 HCK
  go_wp2
  go_loopw [17] (fun s wr => ∃ k : Nat, k ≤ n ∧ s = .int .i64 k ∧ Hid (FnsIn (w1.heap.size + 1) wr w1.heap.size n (trimF p) k) ∧ Hid (KeptX w1.heap.size w1 wr) ∧ w1.heap.size + 1 ≤ wr.heap.size) (fun s _ => n - (intOf s).toNat)
  case atStart => exact ⟨0, Nat.zero_le _, rfl, HF0, KeptX.of ((Kept.refl _).alloc _), by simp⟩
  case round =>
    obtain ⟨k, hkm, rfl, HF, HKr, hsz⟩ := hrel
    by_cases hlt : k < n
    · have hkr : Kept w wr := KeptX.kept (unhide H1) (unhide H1).size (unhide HKr)
      have hfc := trimFunc_any p (.slice oa n cap) k wr ((unhide HP).kept hkr) ((unhide HK).kept hkr)
      rw [(unhide HTF) k hlt] at hfc
      have HFC := hide hfc
      clear hfc hkr
      go_wp2_with fail
      refine (unhide HFC).mono ?_
      rintro e w2 ⟨cv, rfl, hcv, hk2⟩
      have hF2 := (unhide HF).kept hk2
      obtain ⟨⟨u0, e0⟩, z0⟩ := hF2.there (j := k * 3) (by omega)
      obtain ⟨⟨u1, e1⟩, z1⟩ := hF2.there (j := k * 3 + 1) (by omega)
      obtain ⟨⟨u2, e2⟩, z2⟩ := hF2.there (j := k * 3 + 2) (by omega)
      have hF3 := hF2.step hlt (Nat.lt_succ_self _) (hcv.mono hsz)
      obtain ⟨oa6, cp6, he6, _, _⟩ := id hcv
      subst he6
      have HF3 := hide hF3
      have hs2 := hk2.size
      have HK2 := hide ((unhide HKr).trans (.of hk2))
      clear HFC hF2 hF3 hcv hk2
      go_wp2
      go_roundw
      case rel => exact ⟨k + 1, by omega, by go_num, HF3, (((unhide HK2).setCell (p := ⟨w1.heap.size, k * 3, none⟩) (.inl rfl) _).setCell (p := ⟨w1.heap.size, k * 3 + 1, none⟩) (.inl rfl) _).setCell (p := ⟨w1.heap.size, k * 3 + 2, none⟩) (.inl rfl) _, by simp [World.setCell]; omega⟩
      case measure => simp [intOf]; omega
    · have hke : k = n := by omega
      have hf := unhide HF
      rw [hke] at hf
      have HFN := hide hf
      clear hke hf
      go_wp2
      go_ret2
      exact ⟨_, rfl, (unhide HFN).prog (unhide HN) rfl (by omega), KeptX.kept (unhide H1) (unhide H1).size (unhide HKr)⟩
theorem trimAll_any (p : List Fn) (v : Value) (w : World) (hp : ProgAt w v p) (hk : KindsAt w) :
    Calls Tryd.prog 16 #[v] w fun e w' => TaPost p w e w' := by
  by_cases hz : progS p = 0
  · obtain ⟨oa, cap, rfl, _, _⟩ := id hp
    exact trimAll_go p oa _ cap w rfl hp hk hz
  · exact trimAll_bad p v w hp hk hz
theorem within_any (i l n : Int) (w : World) :
    Calls Tryd.prog 25 #[.int .i64 i, .int .i64 l, .int .i64 n] w fun e w' => e = .returned (.bool (inB i l n)) ∧ w = w' := by
  by_cases h1 : l ≤ i
  · by_cases h2 : i ≤ n
    · rw [inB_true h1 h2]
      go_enter Tryd.func25, Tryd.ntmps25
      go_wp2
      go_ret
      exact ⟨rfl, rfl⟩
    · rw [inB_false (by omega)]
      go_enter Tryd.func25, Tryd.ntmps25
      go_wp2
      go_ret
      exact ⟨rfl, rfl⟩
  · rw [inB_false (by omega)]
    go_enter Tryd.func25, Tryd.ntmps25
    go_wp2
    go_ret
    exact ⟨rfl, rfl⟩
end Go.Proofs.YtkepbeeioalmbabDoor
