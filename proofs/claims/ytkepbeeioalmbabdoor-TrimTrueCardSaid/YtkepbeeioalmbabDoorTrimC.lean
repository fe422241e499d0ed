/-
  The contracts of trim.Func and trim.All: what D1 says.
-/
import Derived.Test.YtkepbeeioalmbabDoorTrimB
import Derived.Test.YtkepbeeioalmbabDoorProgA
namespace Go.Proofs.YtkepbeeioalmbabDoor
open Go.RowKit

/-- What trim.Func (and the reference's TrimFunc) hand back: the function, the error. -/
def tfS (p : List Fn) (f : Int) : Fn × Int := if (hgtS p f).2 = 0 then (trimF p f.toNat, 0) else (Fn.zero, (hgtS p f).2)
def TfPost (g : Fn) (er : Int) (w : World) (e : Ending) (w' : World) : Prop :=
  ∃ cv, e = .returned (.tuple #[.agg #[.int .i64 g.args, .int .i64 g.locals, cv], .int .i64 er]) ∧ CodeNew w.heap.size w' cv g.code ∧ Kept w w'
theorem CodeNew.nil (N : Nat) (w : World) : CodeNew N w (.slice none 0 0) [] := ⟨none, 0, rfl, by simp, fun i x h => by simp at h⟩

theorem jumpsIn_of {p : List Fn} {g : Fn} {H : List Int} (hc : Cons p g.code H) (hr : ∀ x, x ∈ g.code → opS p g x = 0) : JumpsIn H g.code := by
  intro k x hx hs hj
  have hk : k < g.code.length := (List.getElem?_eq_some_iff.1 hx).1
  obtain ⟨_, _, hm⟩ := opS_kind (hr x (List.mem_of_getElem? hx))
  have ho : opd x.1.toNat = 3 := by rcases hj with e | e <;> rw [e] <;> rfl
  rw [ho] at hm
  have hx2 := ixB_iff.1 (show ixB x.2 g.code.length = true from hm)
  have hin : x.2.toNat ∈ nexts x k := by
    unfold nexts
    rcases hj with e | e
    · rw [if_neg (by omega), if_pos e]; simp
    · rw [if_neg (by omega), if_neg (by omega), if_pos e]; simp
  obtain ⟨s1, s2⟩ := next_stays hc ⟨g, rfl, hr⟩ hk hs hx hin
  exact ⟨x.2.toNat, by omega, s1, s2⟩

set_option maxHeartbeats 2000000 in
theorem trimFunc_bad (p : List Fn) (v : Value) (f : Int) (w : World) (hp : ProgAt w v p) (hk : KindsAt w) (hz : (hgtS p f).2 ≠ 0) :
    Calls Tryd.prog 15 #[v, .int .i64 f] w fun e w' => TfPost Fn.zero (hgtS p f).2 w e w' := by
  obtain ⟨oa, cap, rfl, _, _⟩ := id hp
  have hz' : ((hgtS p f).2 != 0) = true := by rw [bne_iff_ne]; exact hz
  have hha := heights_any p _ f (w.alloc (.cells #[.int .i64 0, .int .i64 0, .slice none 0 0] 36)) (hp.kept ((Kept.refl w).alloc _)) (hk.kept ((Kept.refl w).alloc _))
  unfold HgtPost at hha
  generalize (hgtS p f).2 = r at *
  generalize (hgtS p f).1 = l at *
  have HHA := hide hha
  clear hp hk hz hha
  go_enter Tryd.func15, Tryd.ntmps15
  go_wp2_with fail
  refine (unhide HHA).mono ?_
  rintro e w1 ⟨u1, rfl, _, hk1⟩
  have l1 := lays_kept hk1 (lays_new (b := w.heap.size) (o := .cells #[.int .i64 0, .int .i64 0, .slice none 0 0] 36) rfl)
  have e0 := cell_lays l1 0
  have e1 := cell_lays l1 1
  have e2 := cell_lays l1 2
  have z0 := frozen_lays l1 0
  have z1 := frozen_lays l1 1
  have z2 := frozen_lays l1 2
  simp only [List.getElem?_toArray, List.getElem?_cons_zero, List.getElem?_cons_succ] at e0 e1 e2
  have H1 := hide (((Kept.refl w).alloc _).trans hk1)
  have L1 := hide l1
  clear hk1 HHA l1
  go_wp2
  have hl3 := lays_set (lays_set (lays_set (unhide L1) 0 (.int .i64 0)) 1 (.int .i64 0)) 2 (.slice none 0 0)
  have k0 := cell_lays hl3 0
  have k1 := cell_lays hl3 1
  have k2 := cell_lays hl3 2
  simp only [Array.setIfInBounds, List.size_toArray, List.length_cons, List.length_nil] at k0 k1 k2
  refine bodyPost_ret (v := .tuple #[.agg #[.int .i64 0, .int .i64 0, .slice none 0 0], .int .i64 r]) (by simp [results, Tryd.results15, go_sem, k0, k1, k2]) rfl ?_
  exact ⟨.slice none 0 0, rfl, CodeNew.nil _ _, (((unhide H1).setCell (p := ⟨w.heap.size, 0, none⟩) (Nat.le_refl _) _).setCell (p := ⟨w.heap.size, 1, none⟩) (Nat.le_refl _) _).setCell (p := ⟨w.heap.size, 2, none⟩) (Nat.le_refl _) _⟩

set_option maxHeartbeats 2000000 in
theorem trimFunc_go (p : List Fn) (i b o n cap oc m cc bc : Nat) (H : List Int) (g : Fn) (w : World) (hp : ProgAt w (.slice (some ⟨b, o, none⟩) n cap) p) (hk : KindsAt w) (hi : i < n)
    (c0 : w.cell? ⟨b, o + i * 3, none⟩ = some (.int .i64 g.args)) (c1 : w.cell? ⟨b, o + i * 3 + 1, none⟩ = some (.int .i64 g.locals)) (c2 : w.cell? ⟨b, o + i * 3 + 2, none⟩ = some (.slice (some ⟨bc, oc, none⟩) m cc))
    (hc : CodeAt w (.slice (some ⟨bc, oc, none⟩) m cc) g.code) (hml : m = g.code.length) (hm24 : m ≤ 24) (hm0 : 0 < m) (hH : hgtS p i = (H, 0)) (hHl : m = H.length) (hj : JumpsIn H g.code) :
    Calls Tryd.prog 15 #[.slice (some ⟨b, o, none⟩) n cap, .int .i64 i] w fun e w' => TfPost ⟨g.args, g.locals, trimC H g.code⟩ 0 w e w' := by
  have hha := heights_any p _ i (w.alloc (.cells #[.int .i64 0, .int .i64 0, .slice none 0 0] 36)) (hp.kept ((Kept.refl w).alloc _)) (hk.kept ((Kept.refl w).alloc _))
  unfold HgtPost at hha
  rw [hH] at hha
  have HHA := hide hha
  have C0 := hide c0
  have C1 := hide c1
  have C2 := hide c2
  have HC := hide hc
  have HML := hide hml
  have HHL := hide hHl
  have HJ := hide hj
  clear hp hk c0 c1 c2 hc hml hH hHl hj hha
  go_enter Tryd.func15, Tryd.ntmps15
  go_wp2_with fail
  refine (unhide HHA).mono ?_
  rintro e w1 ⟨u1, rfl, hu1, hk1⟩
  obtain ⟨bh, oh, ch, rfl, _⟩ := hu1.opened (by have := unhide HHL; omega)
  rw [← unhide HHL] at hu1 ⊢
  have l1 := lays_kept hk1 (lays_new (b := w.heap.size) (o := .cells #[.int .i64 0, .int .i64 0, .slice none 0 0] 36) rfl)
  have hk01 := ((Kept.refl w).alloc _).trans hk1
  have d0 := hk01.cell (unhide C0)
  have d1 := hk01.cell (unhide C1)
  have d2 := hk01.cell (unhide C2)
  have htr := trimmed_go H g.code g.args g.locals bc oc m cc bh oh ch w1 ((unhide HC).kept hk01) hu1 (unhide HML) (unhide HHL) hm24 (unhide HJ)
  have HTR := hide htr
  have H1 := hide hk01
  have L1 := hide l1
  clear hk1 HHA l1 htr hu1 hk01
  go_wp2_with fail
  refine (unhide HTR).mono ?_
  rintro e w2 ⟨cv, rfl, hcv, hk2⟩
  have l2 := lays_kept hk2 (unhide L1)
  have e0 := cell_lays l2 0
  have e1 := cell_lays l2 1
  have e2 := cell_lays l2 2
  have z0 := frozen_lays l2 0
  have z1 := frozen_lays l2 1
  have z2 := frozen_lays l2 2
  simp only [List.getElem?_toArray, List.getElem?_cons_zero, List.getElem?_cons_succ] at e0 e1 e2
  have H2 := hide ((unhide H1).trans hk2)
  have L2 := hide l2
  have hsz : w.heap.size < w1.heap.size := (Array.getElem?_eq_some_iff.1 (unhide L1)).1
  obtain ⟨oa6, cp6, he6, _, _⟩ := id hcv
  subst he6
  have HCV := hide hcv
  clear hk2 HTR l2 hcv
  go_wp2
  have hl3 := lays_set (lays_set (lays_set (unhide L2) 0 (.int .i64 g.args)) 1 (.int .i64 g.locals)) 2 (.slice oa6 (trimC H g.code).length cp6)
  have k0 := cell_lays hl3 0
  have k1 := cell_lays hl3 1
  have k2 := cell_lays hl3 2
  simp only [Array.setIfInBounds, List.size_toArray, List.length_cons, List.length_nil] at k0 k1 k2
  refine bodyPost_ret (v := .tuple #[.agg #[.int .i64 g.args, .int .i64 g.locals, .slice oa6 (trimC H g.code).length cp6], .int .i64 0]) (by simp [results, Tryd.results15, go_sem, k0, k1, k2]) rfl ?_
  refine ⟨_, rfl, ?_, (((unhide H2).setCell (p := ⟨w.heap.size, 0, none⟩) (Nat.le_refl _) _).setCell (p := ⟨w.heap.size, 1, none⟩) (Nat.le_refl _) _).setCell (p := ⟨w.heap.size, 2, none⟩) (Nat.le_refl _) _⟩
  refine CodeNew.mono (N := w1.heap.size) ((unhide HCV).keptX hsz ?_) (Nat.le_of_lt hsz)
  exact (((KeptX.refl w.heap.size _).setCell (p := ⟨w.heap.size, 0, none⟩) (.inl rfl) _).setCell (p := ⟨w.heap.size, 1, none⟩) (.inl rfl) _).setCell (p := ⟨w.heap.size, 2, none⟩) (.inl rfl) _

theorem hgtS_right {p : List Fn} {f : Int} (h : (hgtS p f).2 = 0) : ∃ i : Nat, f = i ∧ chkS p i = 0 ∧ heightsS p (codeOf p i) = some (hgtL p i) ∧ hgtS p f = (hgtL p i, 0) := by
  unfold hgtS at h ⊢
  split at h
  · rename_i hz
    obtain ⟨i, rfl, _⟩ := chkS_zero hz
    rw [if_pos hz] at *
    rw [Int.toNat_natCast] at *
    refine ⟨i, rfl, hz, ?_⟩
    unfold hgtL codeOf
    cases hh : heightsS p (p.getD i Fn.zero).code with
    | none => rw [hh] at h; cases h
    | some H => exact ⟨rfl, rfl⟩
  · rename_i hz; exact absurd h hz

/-- trim.Func answers what D1 says. -/
theorem trimFunc_any (p : List Fn) (v : Value) (f : Int) (w : World) (hp : ProgAt w v p) (hk : KindsAt w) :
    Calls Tryd.prog 15 #[v, .int .i64 f] w fun e w' => TfPost (tfS p f).1 (tfS p f).2 w e w' := by
  by_cases hz : (hgtS p f).2 = 0
  · obtain ⟨i, rfl, hck, hh, hg⟩ := hgtS_right hz
    have ht : tfS p i = (trimF p i, 0) := by unfold tfS; rw [if_pos hz, Int.toNat_natCast]
    rw [ht]
    obtain ⟨i', hi0, hi, hm, hr, hops⟩ := chkS_zero hck
    obtain rfl : i = i' := by omega
    have hR : Right p (codeOf p i) := ⟨p.getD i Fn.zero, rfl, opsS_all hops⟩
    obtain ⟨hcons, _⟩ := heightsS_ok hR hh
    have hl : (hgtL p i).length = (p.getD i Fn.zero).code.length := hcons.len
    have hpos : 0 < (p.getD i Fn.zero).code.length := hcons.pos
    obtain ⟨oa, cap, rfl, _, hcell⟩ := id hp
    obtain ⟨b, o, cv, rfl, c0, c1, c2, hc⟩ := hcell i _ (getD_of_lt p i Fn.zero hi)
    obtain ⟨oc, cc, rfl, _, hcc⟩ := id hc
    obtain ⟨bc, oc', rfl, _, _⟩ := hcc 0 _ (getD_of_lt _ 0 (0, 0) hpos)
    exact trimFunc_go p i b o _ cap oc' _ cc bc (hgtL p i) _ w hp hk hi c0 c1 c2 hc rfl hm hpos hg hl.symm (jumpsIn_of hcons (opsS_all hops))
  · have ht : tfS p f = (Fn.zero, (hgtS p f).2) := by unfold tfS; rw [if_neg hz]
    rw [ht]
    exact trimFunc_bad p v f w hp hk hz
end Go.Proofs.YtkepbeeioalmbabDoor
