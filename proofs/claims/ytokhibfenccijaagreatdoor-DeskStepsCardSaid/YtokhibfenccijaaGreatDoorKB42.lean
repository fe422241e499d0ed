/- StateN, DeskK, TextO, TextP -/
import Derived.Test.YtokhibfenccijaaGreatDoorKB41
import Derived.Test.YtokhibfenccijaaGreatDoorKB18
import Derived.Test.YtokhibfenccijaaGreatDoorKB19
import Derived.Test.YtokhibfenccijaaGreatDoorKB39
import Derived.Test.YtokhibfenccijaaGreatDoorKB40
import Derived.Test.YtokhibfenccijaaGreatDoorKB34
set_option maxRecDepth 100000
set_option maxHeartbeats 8000000
namespace Go.Proofs.YtokhibfenccijaaGreatDoor
open Go.RowKit
def BegPost (p : List Fn) (w : World) (e : Ending) (w' : World) : Prop :=
  ∃ v, e = .returned (.tuple #[v, .int .i64 (progS p)]) ∧ StAt w' v (if progS p = 0 then beginS p else St.zero) ∧ Kept w w'
theorem zero_at (w : World) : StAt w (.agg #[.slice none 0 0, .int .i64 0, .slice none 0 0]) St.zero := ⟨_, _, rfl, FibersAt.nil _, IntsW.nil _⟩
theorem begin_bad (p : List Fn) (vp : Value) (w : World) (hp : ProgAt w vp p) (hk : KindsAt w) (hz : progS p ≠ 0) :
    Calls Tryz.prog 29 #[vp] w fun e w' => BegPost p w e w' := by
  have hc : ∀ u, Kept w u → Calls Tryz.prog 25 #[vp] u fun e w' => e = .returned (.int .i64 (progS p)) ∧ Kept u w' := fun u hu => progCheck_any p vp u (hp.kept hu) (hk.kept hu)
  have hzb : (progS p != 0) = true := by rw [bne_iff_ne]; exact hz
  have hif : (if progS p = 0 then beginS p else St.zero) = St.zero := if_neg hz
  unfold BegPost
  rw [hif]
  have HC := hide hc
  generalize progS p = r at *
  clear hc hp hk hz hif
  go_enter Tryz.func29, Tryz.ntmps29
  go_wp2_with fail
  refine ((unhide HC) _ ((Kept.refl w).alloc _)).mono ?_
  rintro e w1 ⟨rfl, hk1⟩
  have L0 : w1.heap[w.heap.size]? = some (.cells #[.slice none 0 0, .int .i64 0, .slice none 0 0] 44) := lays_kept hk1 (lays_new rfl)
  have a0 : w1.cell? ⟨w.heap.size, 0, none⟩ = some (.slice none 0 0) := cell_at L0 rfl
  have a1 : w1.cell? ⟨w.heap.size, 1, none⟩ = some (.int .i64 0) := cell_at L0 rfl
  have a2 : w1.cell? ⟨w.heap.size, 2, none⟩ = some (.slice none 0 0) := cell_at L0 rfl
  have f0 := frozen_lays L0 0
  have f1 := frozen_lays L0 1
  have f2 := frozen_lays L0 2
  have HL := hide L0
  have HK1 := hide (((Kept.refl w).alloc _).trans hk1)
  clear L0 hk1
  go_wp2
  have M0 := lays_set (lays_set (lays_set (unhide HL) 0 (.slice none 0 0)) 1 (.int .i64 0)) 2 (.slice none 0 0)
  have HKw := hide (((((unhide HK1).setCell (p := ⟨w.heap.size, 0, none⟩) (Nat.le_refl _) (.slice none 0 0)).setCell (p := ⟨w.heap.size, 1, none⟩) (Nat.le_refl _) (.int .i64 0)).setCell (p := ⟨w.heap.size, 2, none⟩) (Nat.le_refl _) (.slice none 0 0)))
  generalize ((w1.setCell ⟨w.heap.size, 0, none⟩ (.slice none 0 0)).setCell ⟨w.heap.size, 1, none⟩ (.int .i64 0)).setCell ⟨w.heap.size, 2, none⟩ (.slice none 0 0) = w2 at *
  have k0 : w2.cell? ⟨w.heap.size, 0, none⟩ = some (.slice none 0 0) := cell_at M0 (by simp)
  have k1 : w2.cell? ⟨w.heap.size, 1, none⟩ = some (.int .i64 0) := cell_at M0 (by simp)
  have k2 : w2.cell? ⟨w.heap.size, 2, none⟩ = some (.slice none 0 0) := cell_at M0 (by simp)
  refine bodyPost_ret (v := .tuple #[.agg #[.slice none 0 0, .int .i64 0, .slice none 0 0], .int .i64 r]) (by simp [results, Tryz.results29, go_sem, k0, k1, k2]) rfl ?_
  exact ⟨_, rfl, zero_at _, unhide HKw⟩
def BegNew (lo : Nat) (w : World) (e : Ending) (w' : World) : Prop :=
  ∃ b1 b2 b3, e = .returned (.tuple #[.agg #[.slice (some ⟨b3, 0, none⟩) 1 1, .int .i64 0, .slice none 0 0], .int .i64 0]) ∧ w.heap.size ≤ b1 ∧ w.heap.size ≤ b2 ∧ w.heap.size ≤ b3 ∧ w'.heap[b1]? = some (.cells (ints (List.replicate lo 0)).toArray 3) ∧
    w'.heap[b2]? = some (.cells #[.int .i64 0, .int .i64 0, .slice (some ⟨b1, 0, none⟩) lo lo, .slice none 0 0] 92) ∧ w'.heap[b3]? = some (.cells #[.slice (some ⟨b2, 0, none⟩) 1 1, .int .i64 (-1)] 95) ∧ Kept w w'
theorem begin_new (p : List Fn) (b o n cp lo : Nat) (w : World) (hp : ProgAt w (.slice (some ⟨b, o, none⟩) n cp) p) (hk : KindsAt w) (hz : progS p = 0)
    (c1 : w.cell? ⟨b, o + 1, none⟩ = some (.int .i64 lo)) (hn : 0 < n) (hlo : lo ≤ 1000) :
    Calls Tryz.prog 29 #[.slice (some ⟨b, o, none⟩) n cp] w (BegNew lo w) := by
  have hc : ∀ u, Kept w u → Calls Tryz.prog 25 #[.slice (some ⟨b, o, none⟩) n cp] u fun e w' => e = .returned (.int .i64 0) ∧ Kept u w' := fun u hu => by
    have := progCheck_any p _ u (hp.kept hu) (hk.kept hu)
    rwa [hz] at this
  have HC := hide hc
  have hmk := make_ints lo (by omega)
  have hn1 : (0 : Int) < (n : Int) := by omega
  have HC1 := hide c1
  have lb := cell_lt c1
  simp only at lb
  clear hc hp hk hz c1
  go_enter Tryz.func29, Tryz.ntmps29
  go_wp2_with fail
  refine ((unhide HC) _ ((Kept.refl w).alloc _)).mono ?_
  rintro e w1 ⟨rfl, hk1⟩
  have L0 : w1.heap[w.heap.size]? = some (.cells #[.slice none 0 0, .int .i64 0, .slice none 0 0] 44) := lays_kept hk1 (lays_new rfl)
  have c1 : w1.cell? ⟨b, o + 1, none⟩ = some (.int .i64 lo) := (((Kept.refl w).alloc _).trans hk1).cell (unhide HC1)
  have a0 : w1.cell? ⟨w.heap.size, 0, none⟩ = some (.slice none 0 0) := cell_at L0 rfl
  have a1 : w1.cell? ⟨w.heap.size, 1, none⟩ = some (.int .i64 0) := cell_at L0 rfl
  have a2 : w1.cell? ⟨w.heap.size, 2, none⟩ = some (.slice none 0 0) := cell_at L0 rfl
  have f0 := frozen_lays L0 0
  have f1 := frozen_lays L0 1
  have f2 := frozen_lays L0 2
  have HL := hide L0
  have HK1 := hide (((Kept.refl w).alloc _).trans hk1)
  have l1 : w.heap.size < w1.heap.size := (Array.getElem?_eq_some_iff.1 L0).1
  have lb1 : b < w1.heap.size := by omega
  have g0 : ∀ o1 o2 o3 o4, ((((w1.alloc o1).alloc o2).alloc o3).alloc o4).cell? ⟨w.heap.size, 0, none⟩ = some (.slice none 0 0) := fun o1 o2 o3 o4 => cell_at (lays_alloc (lays_alloc (lays_alloc (lays_alloc L0 o1) o2) o3) o4) rfl
  have h0 : ∀ o1 o2 o3 o4, ((((w1.alloc o1).alloc o2).alloc o3).alloc o4).frozen? ⟨w.heap.size, 0, none⟩ = false := fun o1 o2 o3 o4 => frozen_lays (lays_alloc (lays_alloc (lays_alloc (lays_alloc L0 o1) o2) o3) o4) 0
  have g1 : ∀ o1 o2 o3 o4, ((((w1.alloc o1).alloc o2).alloc o3).alloc o4).cell? ⟨w.heap.size, 1, none⟩ = some (.int .i64 0) := fun o1 o2 o3 o4 => cell_at (lays_alloc (lays_alloc (lays_alloc (lays_alloc L0 o1) o2) o3) o4) rfl
  have h1 : ∀ o1 o2 o3 o4, ((((w1.alloc o1).alloc o2).alloc o3).alloc o4).frozen? ⟨w.heap.size, 1, none⟩ = false := fun o1 o2 o3 o4 => frozen_lays (lays_alloc (lays_alloc (lays_alloc (lays_alloc L0 o1) o2) o3) o4) 1
  have g2 : ∀ o1 o2 o3 o4, ((((w1.alloc o1).alloc o2).alloc o3).alloc o4).cell? ⟨w.heap.size, 2, none⟩ = some (.slice none 0 0) := fun o1 o2 o3 o4 => cell_at (lays_alloc (lays_alloc (lays_alloc (lays_alloc L0 o1) o2) o3) o4) rfl
  have h2 : ∀ o1 o2 o3 o4, ((((w1.alloc o1).alloc o2).alloc o3).alloc o4).frozen? ⟨w.heap.size, 2, none⟩ = false := fun o1 o2 o3 o4 => frozen_lays (lays_alloc (lays_alloc (lays_alloc (lays_alloc L0 o1) o2) o3) o4) 2
  clear L0 hk1
  go_wp2
  have hrep : Array.replicate lo (Value.int .i64 0) = (ints (List.replicate lo 0)).toArray := by simp [ints]
  rw [hrep]
  generalize hB : w1.heap.size = B1 at *
  generalize hA : w.heap.size = A0 at *
  have N1 : ((((w1.alloc (.cells (ints (List.replicate lo 0)).toArray 3)).alloc (.cells #[.int .i64 0, .int .i64 0, .slice (some ⟨B1, 0, none⟩) lo lo, .slice none 0 0] 92)).alloc (.cells #[.int .i64 0, .int .i64 0, .slice (some ⟨B1, 0, none⟩) lo lo, .slice none 0 0] 92)).alloc (.cells #[.slice (some ⟨B1 + 1 + 1, 0, none⟩) 1 1, .int .i64 (-1)] 95)).heap[B1]? = some (.cells (ints (List.replicate lo 0)).toArray 3) := lays_alloc (lays_alloc (lays_alloc (lays_new hB) _) _) _
  have N2 : ((((w1.alloc (.cells (ints (List.replicate lo 0)).toArray 3)).alloc (.cells #[.int .i64 0, .int .i64 0, .slice (some ⟨B1, 0, none⟩) lo lo, .slice none 0 0] 92)).alloc (.cells #[.int .i64 0, .int .i64 0, .slice (some ⟨B1, 0, none⟩) lo lo, .slice none 0 0] 92)).alloc (.cells #[.slice (some ⟨B1 + 1 + 1, 0, none⟩) 1 1, .int .i64 (-1)] 95)).heap[B1 + 1 + 1]? = some (.cells #[.int .i64 0, .int .i64 0, .slice (some ⟨B1, 0, none⟩) lo lo, .slice none 0 0] 92) := lays_alloc (lays_new (by simp [hB])) _
  have N3 : ((((w1.alloc (.cells (ints (List.replicate lo 0)).toArray 3)).alloc (.cells #[.int .i64 0, .int .i64 0, .slice (some ⟨B1, 0, none⟩) lo lo, .slice none 0 0] 92)).alloc (.cells #[.int .i64 0, .int .i64 0, .slice (some ⟨B1, 0, none⟩) lo lo, .slice none 0 0] 92)).alloc (.cells #[.slice (some ⟨B1 + 1 + 1, 0, none⟩) 1 1, .int .i64 (-1)] 95)).heap[B1 + 1 + 1 + 1]? = some (.cells #[.slice (some ⟨B1 + 1 + 1, 0, none⟩) 1 1, .int .i64 (-1)] 95) := lays_new (by simp [hB])
  have N0 := lays_alloc (lays_alloc (lays_alloc (lays_alloc (unhide HL) (.cells (ints (List.replicate lo 0)).toArray 3)) (.cells #[.int .i64 0, .int .i64 0, .slice (some ⟨B1, 0, none⟩) lo lo, .slice none 0 0] 92)) (.cells #[.int .i64 0, .int .i64 0, .slice (some ⟨B1, 0, none⟩) lo lo, .slice none 0 0] 92)) (.cells #[.slice (some ⟨B1 + 1 + 1, 0, none⟩) 1 1, .int .i64 (-1)] 95)
  have NK := ((((unhide HK1).alloc (.cells (ints (List.replicate lo 0)).toArray 3)).alloc (.cells #[.int .i64 0, .int .i64 0, .slice (some ⟨B1, 0, none⟩) lo lo, .slice none 0 0] 92)).alloc (.cells #[.int .i64 0, .int .i64 0, .slice (some ⟨B1, 0, none⟩) lo lo, .slice none 0 0] 92)).alloc (.cells #[.slice (some ⟨B1 + 1 + 1, 0, none⟩) 1 1, .int .i64 (-1)] 95)
  clear g0 g1 g2 h0 h1 h2
  generalize (((w1.alloc (.cells (ints (List.replicate lo 0)).toArray 3)).alloc (.cells #[.int .i64 0, .int .i64 0, .slice (some ⟨B1, 0, none⟩) lo lo, .slice none 0 0] 92)).alloc (.cells #[.int .i64 0, .int .i64 0, .slice (some ⟨B1, 0, none⟩) lo lo, .slice none 0 0] 92)).alloc (.cells #[.slice (some ⟨B1 + 1 + 1, 0, none⟩) 1 1, .int .i64 (-1)] 95) = wz at *
  have far : ∀ {bb : Nat} {ob : Obj}, A0 < bb → wz.heap[bb]? = some ob → (((wz.setCell ⟨A0, 0, none⟩ (.slice (some ⟨B1 + 1 + 1 + 1, 0, none⟩) 1 1)).setCell ⟨A0, 1, none⟩ (.int .i64 0)).setCell ⟨A0, 2, none⟩ (.slice none 0 0)).heap[bb]? = some ob := fun hlt h =>
    lays_other (lays_other (lays_other h (a := ⟨A0, 0, none⟩) (Nat.ne_of_gt hlt) _) (a := ⟨A0, 1, none⟩) (Nat.ne_of_gt hlt) _) (a := ⟨A0, 2, none⟩) (Nat.ne_of_gt hlt) _
  have R1 := far l1 N1
  have R2 := far (by omega) N2
  have R3 := far (by omega) N3
  have M0 := lays_set (lays_set (lays_set N0 0 (.slice (some ⟨B1 + 1 + 1 + 1, 0, none⟩) 1 1)) 1 (.int .i64 0)) 2 (.slice none 0 0)
  have hle : w.heap.size ≤ A0 := by omega
  have HKw := hide (((NK.setCell (p := ⟨A0, 0, none⟩) hle (.slice (some ⟨B1 + 1 + 1 + 1, 0, none⟩) 1 1)).setCell (p := ⟨A0, 1, none⟩) hle (.int .i64 0)).setCell (p := ⟨A0, 2, none⟩) hle (.slice none 0 0))
  clear far N0 N1 N2 N3 NK
  generalize ((wz.setCell ⟨A0, 0, none⟩ (.slice (some ⟨B1 + 1 + 1 + 1, 0, none⟩) 1 1)).setCell ⟨A0, 1, none⟩ (.int .i64 0)).setCell ⟨A0, 2, none⟩ (.slice none 0 0) = w2 at *
  have k0 : w2.cell? ⟨A0, 0, none⟩ = some (.slice (some ⟨B1 + 1 + 1 + 1, 0, none⟩) 1 1) := cell_at M0 (by simp)
  have k1 : w2.cell? ⟨A0, 1, none⟩ = some (.int .i64 0) := cell_at M0 (by simp)
  have k2 : w2.cell? ⟨A0, 2, none⟩ = some (.slice none 0 0) := cell_at M0 (by simp)
  refine bodyPost_ret (v := .tuple #[.agg #[.slice (some ⟨B1 + 1 + 1 + 1, 0, none⟩) 1 1, .int .i64 0, .slice none 0 0], .int .i64 0]) (by simp [results, Tryz.results29, go_sem, k0, k1, k2]) rfl ?_
  exact ⟨_, _, _, rfl, by omega, by omega, by omega, R1, R2, R3, unhide HKw⟩
theorem begin_go (p : List Fn) (b o n cp lo : Nat) (w : World) (hp : ProgAt w (.slice (some ⟨b, o, none⟩) n cp) p) (hk : KindsAt w) (hz : progS p = 0)
    (c1 : w.cell? ⟨b, o + 1, none⟩ = some (.int .i64 lo)) (hn : 0 < n) (hlo : lo ≤ 1000) :
    Calls Tryz.prog 29 #[.slice (some ⟨b, o, none⟩) n cp] w fun e w' => ∃ v, e = .returned (.tuple #[v, .int .i64 0]) ∧ StAt w' v ⟨[⟨[⟨0, 0, List.replicate lo 0, []⟩], -1⟩], 0, []⟩ ∧ Kept w w' :=
  (begin_new p b o n cp lo w hp hk hz c1 hn hlo).mono fun _ _ ⟨_, _, _, he, _, _, _, h1, h2, h3, hk⟩ => ⟨_, he, begin_at h1 h2 h3 hlo, hk⟩
theorem stBegin_any (p : List Fn) (vp : Value) (w : World) (hp : ProgAt w vp p) (hk : KindsAt w) :
    Calls Tryz.prog 29 #[vp] w fun e w' => BegPost p w e w' := by
  by_cases hz : progS p = 0
  · unfold BegPost
    rw [if_pos hz, hz]
    obtain ⟨_, hp0, hck⟩ := progS_right hz
    obtain ⟨oa, cp, rfl, _, hcell⟩ := id hp
    obtain ⟨b, o, cv, rfl, _, c1, _, _⟩ := hcell 0 _ (getD_of_lt p 0 Fn.zero hp0)
    have hroom : 0 ≤ (p.getD 0 Fn.zero).locals ∧ (p.getD 0 Fn.zero).locals ≤ 4 := by
      obtain ⟨i, hi, _, _, hr, _⟩ := chkS_zero (hck 0 hp0)
      obtain rfl : i = 0 := by omega
      have := roomB_iff.1 hr
      omega
    obtain ⟨lo, hlo⟩ : ∃ lo : Nat, (p.getD 0 Fn.zero).locals = lo := ⟨(p.getD 0 Fn.zero).locals.toNat, by omega⟩
    unfold beginS
    rw [hlo] at c1 hroom ⊢
    rw [Int.toNat_natCast]
    exact begin_go p b o _ cp lo w hp hk hz (by simpa using c1) hp0 (by omega)
  · exact begin_bad p vp w hp hk hz
open Go.RowKit Go.Maps
def opsOf (p : List Fn) : OpsD := ⟨lineC p, kindC p, taS p, hgtS p, rnS p, beginS p⟩
def RgD (p : List Fn) (s : St) : Prop := stErrS p s = 0 ∧ NumI s
theorem Piece.cells {base : Nat} {w : World} {V : Key → Value} {s : St} {k : Key} (h : Piece base w V s k) : ∀ g, (V k).ownBlock = some g → base ≤ g ∧ ∃ c t, ¬ OddT t ∧ w.heap[g]? = some (.cells c t) := by
  have hr : ∀ {e : TypeId} {size : Nat} {v : Value} {n : Nat} {xs : List Value}, ¬ OddT e → w.ownsRow base e size v n xs → ∀ g, v.ownBlock = some g → base ≤ g ∧ ∃ c t, ¬ OddT t ∧ w.heap[g]? = some (.cells c t) := fun {e size v n xs} he hh g hg => by
    rcases hh.2 with ⟨rfl, _⟩ | ⟨g', cap, cur, rfl, hb, hgg, _⟩
    · cases hg
    · obtain rfl : g' = g := by simpa [Value.ownBlock] using hg
      exact ⟨hb, cur, e, he, hgg⟩
  cases k using Key.by with
  | fibers => obtain ⟨xs, h1, h2⟩ := h; exact hr (by unfold OddT; decide) h1
  | out => exact hr (by unfold OddT; decide) h
  | frames i => obtain ⟨xs, h1, h2⟩ := h; exact hr (by unfold OddT; decide) h1
  | locals i j => exact hr (by unfold OddT; decide) h
  | stack i j => exact hr (by unfold OddT; decide) h
theorem Own.new {N : Nat} {w : World} {V : Key → Value} {s : St} (h : Own N w V s) (hs : Small s) : StNew N w (.agg #[V .fibers, .int .i64 s.now, V .out]) s := fun w' hk => by
  refine (h.same fun k g hl hg => ?_).reads hs
  obtain ⟨h1, c, t, h2, h3⟩ := (h.piece k hl).cells g hg
  rw [h3]
  exact hk g c t h1 h2 h3
theorem begin_st (p : List Fn) (vp : Value) (w : World) (hp : ProgAt w vp p) (hk : KindsAt w) (hz : progS p = 0) : Calls Tryz.prog 29 #[vp] w (StP (beginS p) [.int .i64 0] w) := by
  obtain ⟨_, hp0, hck⟩ := progS_right hz
  obtain ⟨oa, cp, rfl, _, hcell⟩ := id hp
  obtain ⟨b, o, cv, rfl, _, c1, _, _⟩ := hcell 0 _ (getD_of_lt p 0 Fn.zero hp0)
  have hroom : 0 ≤ (p.getD 0 Fn.zero).locals ∧ (p.getD 0 Fn.zero).locals ≤ 4 := by
    obtain ⟨i, hi, _, _, hr, _⟩ := chkS_zero (hck 0 hp0)
    obtain rfl : i = 0 := by omega
    have := roomB_iff.1 hr
    omega
  obtain ⟨lo, hlo⟩ : ∃ lo : Nat, (p.getD 0 Fn.zero).locals = lo := ⟨(p.getD 0 Fn.zero).locals.toNat, by omega⟩
  unfold beginS
  rw [hlo] at c1 hroom ⊢
  rw [Int.toNat_natCast]
  refine (begin_new p b o _ cp lo w hp hk hz (by simpa using c1) hp0 (by omega)).mono ?_
  rintro e w' ⟨b1, b2, b3, he, l1, l2, l3, h1, h2, h3, hkw⟩
  refine ⟨_, _, _, _, _, _, _, he, fun w2 h => ?_, hkw⟩
  exact begin_at (h b1 _ _ l1 (by unfold OddT; decide) h1) (h b2 _ _ l2 (by unfold OddT; decide) h2) (h b3 _ _ l3 (by unfold OddT; decide) h3) (by omega)
theorem run_st (p : List Fn) (s : St) (vp vs : Value) (n : Int) (w : World) (hp : ProgAt w vp p) (hs : StAt w vs s) (hk : KindsAt w) (hr : RgD p s) :
    Calls Tryz.prog 30 #[vp, vs, .int .i64 n] w (StP (rnS p s n).1 [.int .i64 ((rnS p s n).2.1 : Int), .int .i64 (rnS p s n).2.2] w) := by
  have hsm : Small (rnS p s n).1 := by
    unfold rnS
    split
    · rw [if_pos hr.1]; exact right_small (run_right _ hr.1)
    · exact zero_small
  refine (runRun_any p s vp vs n w hp hs hk).mono ?_
  rintro e w' ⟨V, rfl, ho, hkw⟩
  have hnew := ho.new hsm
  obtain ⟨vf, vo, e, hf, hi⟩ := hnew w' (fun _ _ _ _ _ h => h)
  simp only [Value.agg.injEq, Array.mk.injEq, List.cons.injEq, and_true, true_and] at e
  obtain ⟨of, cf, hvf, _⟩ := hf
  obtain ⟨oo, co, hvo, _⟩ := hi
  rw [← e.1] at hvf
  rw [← e.2] at hvo
  rw [hvf, hvo] at hnew ⊢
  exact ⟨_, _, _, _, _, _, _, rfl, hnew, hkw⟩
theorem tell_join {l : List Int} (h : TellD l) : (numsD l).length ≤ 1000 ∧ (Lib.join (numsD l) [32]).length ≤ 21000 := by
  have hl : (numsD l).length = l.length := by simp [numsD]
  have := join_len (numsD l) 20 (fun x hx => by
    obtain ⟨z, hz, rfl⟩ := List.mem_map.1 hx
    exact itoa_len (h.2 z hz))
  have h1 := h.1
  have h2 : (numsD l).length * 21 ≤ 1000 * 21 := Nat.mul_le_mul_right _ (by omega)
  omega
theorem right_lims {p : List Fn} {s : St} (h : stErrS p s = 0) : s.fibers.length ≤ 5 ∧ s.out.length ≤ 30 := by
  obtain ⟨_, hl, _⟩ := right_parts h
  unfold limS at hl
  split at hl
  · assumption
  · cases hl
theorem lineD_few : ∀ (N : Nat) (l : List Int), l.Nodup → (∀ z ∈ l, 0 ≤ z ∧ z < N) → l.length ≤ N := fun N l hn hi => by
  have h1 := below_all (l := l) (N := N) (fun z hz => (hi z hz).2)
  have h2 : ∀ n : Nat, below l n ≤ n := fun n => by
    induction n with
    | zero => rw [below_zero (fun z hz => (hi z hz).1)]; exact Nat.le_refl _
    | succ n ih =>
      rw [below_step l hn n]
      split <;> omega
  have := h2 N
  omega
theorem line_tell {p : List Fn} {s : St} (h : stErrS p s = 0) : TellD (lineC p s) := by
  have hl := line_of h
  have h5 := (right_lims h).1
  refine ⟨?_, fun z hz => ?_⟩
  · have := lineD_few _ _ hl.nodup hl.inside
    omega
  · have := hl.inside z hz
    unfold I64
    omega
theorem kind_tell (p : List Fn) (s : St) (k : Nat) : I64 (kindC p s k) := by
  unfold kindC I64
  split
  · omega
  split
  · omega
  split
  · omega
  split <;> omega
theorem opsS_small (p : List Fn) (f : Fn) : ∀ l, 0 ≤ opsS p f l ∧ opsS p f l ≤ 9
  | [] => by simp [opsS]
  | x :: r => by
    have ih := opsS_small p f r
    have ho : 0 ≤ opS p f x ∧ opS p f x ≤ 9 := by
      unfold opS
      split
      · split
        · split <;> omega
        · omega
      · omega
    unfold opsS
    split
    · exact ih
    · exact ho
theorem chk_small (p : List Fn) (f : Int) : 0 ≤ chkS p f ∧ chkS p f ≤ 9 := by
  have := opsS_small p (p.getD f.toNat Fn.zero) (p.getD f.toNat Fn.zero).code
  unfold chkS
  split
  · simp only
    split
    · omega
    · split
      · exact this
      · omega
  · omega
theorem hgt_tell {p : List Fn} (hz : progS p = 0) (f : Int) : TellD (hgtS p f).1 ∧ I64 (hgtS p f).2 := by
  unfold hgtS
  split
  · rename_i hc
    obtain ⟨i, rfl, hi, hm, _⟩ := chkS_zero hc
    rw [Int.toNat_natCast]
    cases hh : heightsS p (p.getD i Fn.zero).code with
    | none => exact ⟨⟨by simp, fun z hz => by cases hz⟩, by unfold I64; simp⟩
    | some H =>
      have hH : hgt p i = H := by unfold hgt codeOf; rw [hh]; rfl
      have hlen : H.length = (codeOf p i).length := by rw [← hH]; exact (cons_code hz hi).1.len
      refine ⟨⟨?_, fun z hz' => ?_⟩, by unfold I64; simp⟩
      · simp only
        rw [hlen]
        unfold codeOf
        omega
      · replace hz' : z ∈ H := hz'
        obtain ⟨a, ha, rfl⟩ := List.getElem_of_mem hz'
        have := hgt_le hz hi a
        rw [hH] at this
        simp [List.getD, ha] at this
        unfold I64
        omega
  · refine ⟨⟨by simp, fun z hz => by cases hz⟩, ?_⟩
    have := chk_small p f
    unfold I64
    simp only
    omega
theorem trim_q {p : List Fn} (hz : progS p = 0) : (taS p).length ≤ 100 ∧ ∀ f ∈ taS p, f.code.length ≤ 1000 := by
  have ho := right_okT (trim_right hz).1
  unfold taS
  rw [if_pos hz]
  exact ⟨by have := ho.len; omega, fun f hf => by have := (ho.fn f hf).2.2.1; omega⟩
theorem trim_tell {p : List Fn} (hz : progS p = 0) : I64 (opsD (taS p)) := by
  obtain ⟨h1, h2⟩ := trim_q hz
  have := opsD_le (taS p) 1000 h2
  have h3 : (taS p).length * 1000 ≤ 100 * 1000 := Nat.mul_le_mul_right _ h1
  unfold I64
  omega
theorem rn_err {p : List Fn} {s : St} (h : stErrS p s = 0) (n : Int) : (ErrN (rnS p s n).2.2 ∨ (rnS p s n).2.2 = 3) ∧ (rnS p s n).2.1 ≤ 500 := by
  unfold rnS
  by_cases hi : inB n 0 500 = true
  · rw [if_pos hi, if_pos h]
    obtain ⟨h1, h2⟩ := runN_err p n.toNat s
    have : n ≤ 500 := by
      have := hi
      unfold inB at this
      simp at this
      omega
    exact ⟨.inl h1, by omega⟩
  · rw [if_neg hi]
    exact ⟨.inr rfl, Nat.zero_le _⟩
theorem rn_rg {p : List Fn} (hz : progS p = 0) {s : St} (h : RgD p s) (n : Int) (hn : (rnS p s n).2.2 ≠ 3) : RgD p (rnS p s n).1 := by
  unfold rnS at hn ⊢
  by_cases hi : inB n 0 500 = true
  · rw [if_pos hi, if_pos h.1]
    exact ⟨run_right _ h.1, h.2.run (right_okT hz) _⟩
  · rw [if_neg hi] at hn
    exact absurd rfl hn
theorem fault_few (e : Int) (h : I64 e) : (faultD e).length ≤ 3 ∧ (Lib.join (faultD e) [32]).length ≤ 100 := by
  have := join_len (faultD e) 20 (fun x hx => by
    unfold faultD at hx
    simp only [List.mem_cons, List.not_mem_nil, or_false] at hx
    rcases hx with rfl | rfl
    · simp
    · exact itoa_len h)
  have hl : (faultD e).length = 2 := rfl
  rw [hl] at this
  omega
theorem do_facts {p : List Fn} (hz : progS p = 0) {s : St} (h : RgD p s) (ws : List (List UInt8)) : match doD (opsOf p) s ws with
    | .inl x => RgD p x.1 ∧ x.2.length ≤ 1000 ∧ (Lib.join x.2 [32]).length ≤ 90000
    | .inr z => I64 z := by
  have h1 : I64 1 := by unfold I64; omega
  have h3 : I64 3 := by unfold I64; omega
  have hj : ∀ l, TellD l → (numsD l).length ≤ 1000 ∧ (Lib.join (numsD l) [32]).length ≤ 90000 := fun l hl => by have := tell_join hl; omega
  have hl := right_lims h.1
  match ws with
  | [] => exact h1
  | [a] =>
    show match aloneD (opsOf p) s a with | .inl x => _ | .inr z => _
    unfold aloneD
    by_cases e1 : a = [111, 117, 116]
    · rw [if_pos e1]; exact ⟨h, hj _ ⟨by omega, h.2.out⟩⟩
    rw [if_neg e1]
    by_cases e2 : a = [108, 105, 110, 101]
    · rw [if_pos e2]; exact ⟨h, hj _ (line_tell h.1)⟩
    rw [if_neg e2]
    by_cases e3 : a = [107, 105, 110, 100, 115]
    · rw [if_pos e3]; exact ⟨h, hj _ ⟨by simp; omega, fun z hz => by obtain ⟨k, _, rfl⟩ := List.mem_map.1 hz; exact kind_tell p s k⟩⟩
    rw [if_neg e3]
    by_cases e4 : a = [116, 114, 105, 109]
    · rw [if_pos e4]; exact ⟨h, hj _ ⟨by simp, fun z hz' => by obtain rfl := List.mem_singleton.1 hz'; exact trim_tell hz⟩⟩
    rw [if_neg e4]
    by_cases e5 : a = [97, 103, 97, 105, 110]
    · rw [if_pos e5]; exact ⟨⟨begin_right hz, NumI.begin p⟩, by simp, by simp [Lib.join_one]⟩
    rw [if_neg e5]
    exact h1
  | [a, b] =>
    show match (match numT b with | some n => withD (opsOf p) s a n | none => .inr 1) with | .inl x => _ | .inr z => _
    cases numT b with
    | none => exact h1
    | some n =>
      show match withD (opsOf p) s a n with | .inl x => _ | .inr z => _
      unfold withD
      by_cases e1 : a = [115, 116, 101, 112]
      · rw [if_pos e1]
        obtain ⟨he, hk⟩ := rn_err h.1 n
        by_cases e3 : ((opsOf p).run s n).2.2 = 3
        · rw [if_pos e3]; exact h3
        · rw [if_neg e3]
          have hI : I64 (rnS p s n).2.2 := by
            unfold ErrN at he
            unfold I64
            omega
          refine ⟨rn_rg hz h n e3, ?_⟩
          have h9 := join_len (numsD [((rnS p s n).2.1 : Int)] ++ if (rnS p s n).2.2 = 0 then [] else faultD (rnS p s n).2.2) 20 (fun x hx => by
            rcases List.mem_append.1 hx with hx | hx
            · obtain ⟨z, hz, rfl⟩ := List.mem_map.1 hx
              obtain rfl := List.mem_singleton.1 hz
              exact itoa_len (by unfold I64; omega)
            · split at hx
              · cases hx
              · unfold faultD at hx
                simp only [List.mem_cons, List.not_mem_nil, or_false] at hx
                rcases hx with rfl | rfl
                · simp
                · exact itoa_len hI)
          have h8 : (numsD [((rnS p s n).2.1 : Int)] ++ if (rnS p s n).2.2 = 0 then [] else faultD (rnS p s n).2.2).length ≤ 3 := by
            split <;> simp [numsD, faultD]
          have h7 : (numsD [((rnS p s n).2.1 : Int)] ++ if (rnS p s n).2.2 = 0 then [] else faultD (rnS p s n).2.2).length * 21 ≤ 3 * 21 := Nat.mul_le_mul_right _ h8
          exact ⟨by show (numsD [((rnS p s n).2.1 : Int)] ++ if (rnS p s n).2.2 = 0 then [] else faultD (rnS p s n).2.2).length ≤ 1000; omega, by show (Lib.join (numsD [((rnS p s n).2.1 : Int)] ++ if (rnS p s n).2.2 = 0 then [] else faultD (rnS p s n).2.2) [32]).length ≤ 90000; omega⟩
      rw [if_neg e1]
      by_cases e2 : a = [104, 101, 105, 103, 104, 116, 115]
      · rw [if_pos e2]
        have hg := hgt_tell hz n
        by_cases e3 : ((opsOf p).hgt n).2 = 0
        · rw [if_pos e3]; exact ⟨h, hj _ hg.1⟩
        · rw [if_neg e3]; exact hg.2
      rw [if_neg e2]
      exact h1
  | a :: b :: c :: r => exact h1
def readR (l : List UInt8) : List Fn × Int := if l.length ≤ 8192 then match wholeT l with
  | some p => if progS p = 0 then (p, 0) else ([], 1)
  | none => ([], 1) else ([], 2)
def ReadPost (l : List UInt8) (w : World) (e : Ending) (w' : World) : Prop := ∃ oa n cap, e = .returned (.tuple #[.slice oa n cap, .int .i64 (readR l).2]) ∧ n = (readR l).1.length ∧ ProgAt w' (.slice oa n cap) (readR l).1 ∧ Kept w w' ∧ ∃ b m, w.heap.size ≤ b ∧ PrR b m w' (.slice oa n cap) (readR l).1
theorem progNil (w : World) : ProgAt w (.slice none 0 0) [] := ⟨none, 0, rfl, by simp, fun i f h => by simp at h⟩
theorem foldT_size : ∀ (ls : List (List UInt8)) (p p' : List Fn) (k : Nat), foldT p ls = some p' → SizeT p k → SizeT p' (k + ls.length)
  | [], p, p', k, h, hs => by cases h; exact hs
  | l :: ls, p, p', k, h, hs => by
    cases hq : stepT p (splitT 32 l) with
    | none => simp only [foldT, hq] at h; cases h
    | some q =>
      simp only [foldT, hq] at h
      have := foldT_size ls q p' (k + 1) h (stepT_size hq hs)
      rw [List.length_cons, show k + (ls.length + 1) = k + 1 + ls.length by omega]
      exact this
theorem wholeT_size {l : List UInt8} {p : List Fn} (h : wholeT l = some p) (hl : l.length ≤ 8192) : p.length ≤ 8193 := by
  unfold wholeT at h
  cases hq : linesT l with
  | none => rw [hq] at h; cases h
  | some ls =>
    rw [hq] at h
    have h1 := (linesT_len hq hl).1
    have h2 := (foldT_size ls [] p 0 h ⟨by simp, fun f hf => by simp at hf⟩).1
    omega
theorem read_any (w : World) (l : List UInt8) (he : EnvT w) (hk : KindsAt w) : Calls Tryz.prog 12 #[.string ⟨l.toArray⟩] w (ReadPost l w) := by
  have hsz : (ByteArray.mk l.toArray).size = l.length := by simp [ByteArray.size]
  have HNIL : Hid (∀ u, Kept w u → ∃ b m, w.heap.size ≤ b ∧ PrR b m u (.slice none 0 0) []) := hide fun u hu => ⟨_, _, hu.size, PrR.nil _ u (Nat.le_refl _)⟩
  by_cases hl : l.length ≤ 8192
  · have HW := hide (whole_any w l hl he)
    have HPC : Hid (∀ u v p, Kept w u → ProgAt u v p → Calls Tryz.prog 25 #[v] u fun e w' => e = .returned (.int .i64 (progS p)) ∧ Kept u w') := hide fun u v p hu hp => progCheck_any p v u hp (hk.kept hu)
    have hl1 : ¬ (8192 : Int) < (l.length : Int) := by omega
    have HRR : Hid (readR l = match wholeT l with
      | some p => if progS p = 0 then (p, 0) else ([], 1)
      | none => ([], 1)) := hide (by unfold readR; rw [if_pos hl])
    have HWS : Hid (∀ p, wholeT l = some p → p.length ≤ 8193) := hide fun p h => wholeT_size h hl
    generalize (ByteArray.mk l.toArray) = S at *
    generalize l.length = N at *
    clear he hk hl
    go_enter Tryz.func12, Tryz.ntmps12
    go_wp2_with fail
    refine (unhide HW).mono ?_
    intro e w1 hpost
    unfold WholePost at hpost
    cases hwt : wholeT l with
    | none =>
      rw [hwt] at hpost
      obtain ⟨rfl, k1⟩ := hpost
      have HR2 : Hid (readR l = ([], 1)) := hide (by rw [unhide HRR, hwt])
      have HK := hide k1
      clear k1 hwt HW HRR HWS
      go_wp2_with fail
      go_ret2
      unfold ReadPost
      rw [unhide HR2]
      exact ⟨none, 0, 0, rfl, rfl, progNil _, unhide HK, (unhide HNIL) _ (unhide HK)⟩
    | some p =>
      rw [hwt] at hpost
      obtain ⟨v, b, m, rfl, hbw, hpr, k1⟩ := hpost
      have hps := (unhide HWS) p hwt
      have hpa := hpr.prog (by omega)
      obtain ⟨oa, cap, rfl, _⟩ := id hpa
      have HC := hide ((unhide HPC) w1 _ p k1 hpa)
      have HQ := hide (And.intro hpa (And.intro hpr (And.intro k1 hbw)))
      generalize hpl : p.length = pl at *
      have HPL := hide hpl
      by_cases hz : progS p = 0
      · have HR2 : Hid (readR l = (p, 0)) := hide (by rw [unhide HRR, hwt]; simp only [hz, if_true])
        rw [hz] at HC
        clear hpa hpr k1 hwt HW HRR HWS hpl hz hbw
        go_wp2_with fail
        refine (unhide HC).mono ?_
        rintro _ w2 ⟨rfl, k2⟩
        have HK2 := hide k2
        clear k2 HC
        go_wp2_with fail
        go_ret2
        unfold ReadPost
        rw [unhide HR2]
        obtain ⟨q1, q2, q3, q4⟩ := unhide HQ
        have k2 := unhide HK2
        exact ⟨oa, pl, cap, rfl, (unhide HPL).symm, q1.kept k2, q3.trans k2, b, m, q4, q2.kept k2⟩
      · have HR2 : Hid (readR l = ([], 1)) := hide (by rw [unhide HRR, hwt]; simp only [hz, if_false])
        have HZ := hide hz
        generalize progS p = er at *
        have hz2 : (er == 0) = false := by simpa using hz
        clear hpa hpr k1 hwt HW HRR HWS hpl hbw
        go_wp2_with fail
        refine (unhide HC).mono ?_
        rintro _ w2 ⟨rfl, k2⟩
        have HK2 := hide ((unhide HQ).2.2.1.trans k2)
        clear k2 HC
        go_wp2_with fail
        go_ret2
        unfold ReadPost
        rw [unhide HR2]
        exact ⟨none, 0, 0, rfl, rfl, progNil _, unhide HK2, (unhide HNIL) _ (unhide HK2)⟩
  · have HR2 : Hid (readR l = ([], 2)) := hide (by unfold readR; rw [if_neg hl])
    have hl1 : (8192 : Int) < (l.length : Int) := by omega
    generalize (ByteArray.mk l.toArray) = S at *
    generalize l.length = N at *
    clear he hk hl
    go_enter Tryz.func12, Tryz.ntmps12
    go_wp2_with fail
    go_ret2
    unfold ReadPost
    rw [unhide HR2]
    exact ⟨none, 0, 0, rfl, rfl, progNil _, Kept.refl w, (unhide HNIL) _ (Kept.refl w)⟩
theorem parse_app : ∀ (l : List UInt8) (acc v : Nat) (c : UInt8), Lib.parseUint10 acc l = .ok v → Lib.parseUint10 acc (l ++ [c]) = Lib.parseUint10 v [c]
  | [], acc, v, c, h => by
    simp only [Lib.parseUint10, Lib.NumEnd.ok.injEq] at h
    subst h
    rfl
  | x :: l, acc, v, c, h => by
    rw [List.cons_append]
    unfold Lib.parseUint10 at h ⊢
    split at h
    · rename_i h1
      rw [if_pos h1]
      split at h
      · cases h
      · rename_i h2
        rw [if_neg h2]
        split at h
        · cases h
        · rename_i h3
          rw [if_neg h3]
          exact parse_app l _ v c h
    · cases h
theorem digit_nat {d : Nat} (h : d < 10) : (UInt8.ofNat (48 + d)).toNat = 48 + d := by rw [UInt8.toNat_ofNat']; omega
theorem parse_dec (n : Nat) : n < 1000000 → Lib.parseUint10 0 (Lib.decDigits n) = .ok n := by
  induction n using Nat.strongRecOn with
  | ind n ih =>
    intro hn
    unfold Lib.decDigits
    split
    · rename_i h
      unfold Lib.parseUint10
      rw [digit_nat h, if_pos (by omega), if_neg (by omega), if_neg (by omega)]
      simp [Lib.parseUint10]
    · rename_i h
      rw [parse_app _ 0 (n / 10) _ (ih (n / 10) (by omega) (by omega))]
      unfold Lib.parseUint10
      rw [digit_nat (by omega), if_pos (by omega), if_neg (by omega), if_neg (by omega)]
      simp only [Lib.parseUint10, Lib.NumEnd.ok.injEq]
      omega
theorem dec_digits (n : Nat) : ∀ c ∈ Lib.decDigits n, 48 ≤ c.toNat ∧ c.toNat ≤ 57 := by
  induction n using Nat.strongRecOn with
  | ind n ih =>
    unfold Lib.decDigits
    split
    · rename_i h
      intro c hc
      obtain rfl := List.mem_singleton.1 hc
      rw [digit_nat h]
      omega
    · rename_i h
      intro c hc
      rcases List.mem_append.1 hc with hc | hc
      · exact ih (n / 10) (by omega) c hc
      · obtain rfl := List.mem_singleton.1 hc
        rw [digit_nat (by omega)]
        omega
theorem dec_ne (n : Nat) : Lib.decDigits n ≠ [] := by
  unfold Lib.decDigits
  split <;> simp
theorem numT_itoa {n : Int} (h0 : 0 ≤ n) (h1 : n ≤ 999) : numT (Lib.itoa n) = some n := by
  obtain ⟨k, rfl⟩ := Int.eq_ofNat_of_zero_le h0
  have hi : Lib.itoa (k : Int) = Lib.decDigits k := by unfold Lib.itoa; rw [if_neg (by omega), Int.toNat_natCast]
  have ha : Lib.atoiAll (Lib.decDigits k) = .ok (k : Int) := by
    have hp := parse_dec k (by omega)
    have hd := dec_digits k
    have hne := dec_ne k
    cases hq : Lib.decDigits k with
    | nil => exact absurd hq hne
    | cons c r =>
      rw [hq] at hp hd
      have hc := hd c (by simp)
      unfold Lib.atoiAll
      simp only
      rw [if_neg (show ¬ (c.toNat = 43 ∨ c.toNat = 45) by omega)]
      unfold Lib.parseMag
      rw [if_neg (by simp), hp]
      simp only
      rw [if_neg (by omega), if_neg (by omega), if_neg (by omega)]
  unfold numT
  rw [hi, ha]
  simp only
  rw [if_pos ⟨by omega, by have := dec_len k 3 (by omega) (by omega); omega, hi⟩]
theorem numT_back {w : List UInt8} {v : Int} (h : numT w = some v) : Lib.itoa v = w := by
  unfold numT at h
  split at h
  · split at h
    · rename_i q; cases h; exact q.2.2
    · cases h
  · cases h
theorem numsT_itoa : ∀ {l : List Int}, (∀ z ∈ l, 0 ≤ z ∧ z ≤ 999) → numsT (l.map Lib.itoa) = some l
  | [], _ => rfl
  | z :: l, h => by
    have h1 := numT_itoa (h z (by simp)).1 (h z (by simp)).2
    have h2 := numsT_itoa (l := l) (fun y hy => h y (by simp [hy]))
    simp only [List.map_cons, numsT, h1, h2]
theorem tk_nums (k : Nat) : (tkS.getD k ([], 0)).2 ≤ 1 := by
  by_cases h : k < 17
  · revert h; revert k; decide
  · rw [show tkS.getD k ([], 0) = ([], 0) by simp [List.getD, List.getElem?_eq_none (show tkS.length ≤ k by simp [tkS]; omega)]]; simp
theorem flat_join (c : UInt8) : ∀ {ls : List (List UInt8)}, ls ≠ [] → ls.flatMap (· ++ [c]) = Lib.join ls [c] ++ [c]
  | [], h => absurd rfl h
  | [x], _ => by simp [Lib.join_one]
  | x :: y :: ls, _ => by
    have ih := flat_join c (ls := y :: ls) (by simp)
    rw [List.flatMap_cons, ih, Lib.join_cons x (y :: ls)]
    have : Lib.joinTail [c] (y :: ls) = c :: Lib.join (y :: ls) [c] := by rw [Lib.join_cons]; simp [Lib.joinTail]
    rw [this]
    simp
end Go.Proofs.YtokhibfenccijaaGreatDoor
