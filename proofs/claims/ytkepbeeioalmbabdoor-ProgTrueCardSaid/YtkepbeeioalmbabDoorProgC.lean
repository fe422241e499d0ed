/-
  The contract of prog.Calls: what B2 says.
-/
import Derived.Test.YtkepbeeioalmbabDoorProgA
import Derived.Test.YtkepbeeioalmbabDoorProgB
namespace Go.Proofs.YtkepbeeioalmbabDoor
open Go.RowKit

def CallPost (p : List Fn) (f : Int) (w : World) (e : Ending) (w' : World) : Prop :=
  ∃ v, e = .returned (.tuple #[v, .int .i64 (callE p f)]) ∧ BoolsAt w' v (callB p f) ∧ Kept w w'

set_option maxHeartbeats 1000000 in
theorem calls_bad (p : List Fn) (v : Value) (f : Int) (w : World) (hp : ProgAt w v p) (hk : KindsAt w) (hz : progS p ≠ 0) :
    Calls Tryd.prog 7 #[v, .int .i64 f] w fun e w' => CallPost p f w e w' := by
  obtain ⟨oa, cap, rfl, _, _⟩ := id hp
  have hz' : (progS p != 0) = true := by rw [bne_iff_ne]; exact hz
  have he : callE p f = progS p := by unfold callE; rw [if_neg hz]
  have hb : callB p f = [] := by unfold callB; rw [he, if_neg hz]
  have hck := progCheck_any p _ (w.alloc (.cells #[.slice oa p.length cap] 22)) (hp.kept ((Kept.refl w).alloc _)) (hk.kept ((Kept.refl w).alloc _))
  have HC := hide hck
  have HE := hide he
  have HB := hide hb
  clear hp hk hz he hb hck
  go_enter Tryd.func7, Tryd.ntmps7
  go_wp2_with fail
  refine (unhide HC).mono ?_
  clear HC
  rintro e w1 ⟨rfl, hk1⟩
  have H1 := hide (((Kept.refl w).alloc _).trans hk1)
  clear hk1
  generalize hc : progS p = r at *
  have HC := hide hc
  clear hc
  go_wp2
  go_ret2
  exact ⟨.slice none 0 0, by rw [unhide HE]; rfl, by rw [unhide HB]; exact BoolsAt.nil _, unhide H1⟩

set_option maxHeartbeats 1000000 in
theorem calls_none (p : List Fn) (oa : Option Addr) (n cap : Nat) (f : Int) (w : World) (hn : n = p.length) (hp : ProgAt w (.slice oa n cap) p) (hk : KindsAt w) (hz : progS p = 0) (hf : f < 0 ∨ (0 ≤ f ∧ (n : Int) ≤ f)) :
    Calls Tryd.prog 7 #[.slice oa n cap, .int .i64 f] w fun e w' => CallPost p f w e w' := by
  have he : callE p f = 5 := by unfold callE; rw [if_pos hz, if_neg (by rw [ixB_iff]; omega)]
  have hb : callB p f = [] := by unfold callB; rw [he, if_neg (by decide)]
  have hck := progCheck_is p _ 0 (w.alloc (.cells #[.slice oa n cap] 22)) (hp.kept ((Kept.refl w).alloc _)) (hk.kept ((Kept.refl w).alloc _)) hz
  have HC := hide hck
  have HE := hide he
  have HB := hide hb
  clear hp hk hz he hb hck hn
  go_enter Tryd.func7, Tryd.ntmps7
  go_wp2_with fail
  refine (unhide HC).mono ?_
  clear HC
  rintro e w1 ⟨rfl, hk1⟩
  have cp := cell_lays (lays_kept hk1 (lays_new (o := .cells #[.slice oa n cap] 22) rfl)) 0
  simp only [List.getElem?_toArray, List.getElem?_cons_zero] at cp
  have H1 := hide (((Kept.refl w).alloc _).trans hk1)
  clear hk1
  rcases hf with hf | ⟨hf0, hf⟩
  all_goals go_wp2
  all_goals go_ret2
  all_goals exact ⟨.slice none 0 0, by rw [unhide HE]; rfl, by rw [unhide HB]; exact BoolsAt.nil _, unhide H1⟩

set_option maxHeartbeats 4000000 in
theorem calls_go (p : List Fn) (oa : Option Addr) (n cap i : Nat) (w : World) (hn : n = p.length) (hp : ProgAt w (.slice oa n cap) p) (hk : KindsAt w) (hz : progS p = 0) (hi : i < n) :
    Calls Tryd.prog 7 #[.slice oa n cap, .int .i64 i] w fun e w' => CallPost p i w e w' := by
  have he : callE p i = 0 := by unfold callE; rw [if_pos hz, if_pos (by rw [ixB_iff]; omega)]
  have hb : callB p i = callsS p i := by unfold callB; rw [he, if_pos rfl, Int.toNat_natCast]
  obtain ⟨hn5, hn0, hright⟩ := progS_right hz
  have hck := progCheck_is p _ 0 (w.alloc (.cells #[.slice oa n cap] 22)) (hp.kept ((Kept.refl w).alloc _)) (hk.kept ((Kept.refl w).alloc _)) hz
  have hmk := make_bools n (by omega)
  have HC := hide hck
  have HE := hide he
  have HB := hide hb
  have HP := hide hp
  have HN := hide hn
  have HR := hide hright
  clear hp hk hz he hb hck hn hright hn0
  go_enter Tryd.func7, Tryd.ntmps7
  go_wp2_with fail
  refine (unhide HC).mono ?_
  clear HC
  rintro e w1 ⟨rfl, hk1⟩
  have lp := lays_kept hk1 (lays_new (o := .cells #[.slice oa n cap] 22) rfl)
  have cp := cell_lays lp 0
  simp only [List.getElem?_toArray, List.getElem?_cons_zero] at cp
  have LP := hide lp
  have hsz : w.heap.size < w1.heap.size := cell_lt cp
  have H1 := hide (((Kept.refl w).alloc _).trans hk1)
  clear hk1 lp
  go_wp2_with fail
  generalize hW : ((w1.alloc (Obj.cells (Array.replicate n (Value.bool false)) 4)).alloc (Obj.cells #[Value.slice (some { block := w1.heap.size, off := 0 }) n n] 23)).alloc (Obj.cells #[Value.func (Fn.func 24) #[] #[Value.pointer (some { block := w1.heap.size + 1, off := 0 }), Value.pointer (some { block := w.heap.size, off := 0 }), Value.pointer (some { block := w1.heap.size + 1 + 1, off := 0 })]] 50) = W
  have hKW : Kept w1 W := by rw [← hW]; exact (((Kept.refl _).alloc _).alloc _).alloc _
  have hva : VisitAt w1 W p (.slice oa n cap) n w1.heap.size (w1.heap.size + 1) w.heap.size (w1.heap.size + 1 + 1) := by
    refine ⟨(unhide HP).kept (unhide H1), unhide HN, unhide HR, hKW, Nat.le_refl _, ?_, lays_kept hKW (unhide LP), ?_, by omega, by omega, by omega⟩
    · rw [← hW]; exact lays_alloc (lays_new (by simp)) _
    · rw [← hW]; exact lays_new (by simp)
  have hbs : BoolsIn W w1.heap.size (List.replicate n false) := by
    rw [← hW]; exact bools_zero (lays_alloc (lays_alloc (lays_new rfl) _) _)
  have hu := unvB_le (List.replicate n false)
  rw [List.length_replicate] at hu
  refine (visit_any p _ n _ _ _ _ w1 (n + 1) (List.replicate n false) i W hva hbs (by simp) hi (by omega)).mono ?_
  rintro e w2 ⟨⟨v2, rfl⟩, hB2, hK2⟩
  have hvc := visit_calls (right_named (unhide HR)) (f := i) (by have := unhide HN; omega)
  rw [← unhide HN] at hvc
  rw [hvc] at hB2
  have hlen := (callsS_ok (right_named (unhide HR)) (f := i) (by have := unhide HN; omega)).1
  have c7 := cell_lays (hva.on hK2).l7 0
  simp only [List.getElem?_toArray, List.getElem?_cons_zero] at c7
  have H2 := hide ((unhide H1).trans (hK2.kept hKW (Nat.le_refl _)))
  have HB2 := hide hB2
  have HLN := hide hlen
  clear hva hbs hu hB2 hK2 hvc hlen hW hKW
  go_wp2
  go_ret2
  have hlen := unhide HLN
  exact ⟨_, by rw [unhide HE]; rfl, by rw [unhide HB]; exact (unhide HB2).slice (by have := unhide HN; omega) (by rw [hlen]; exact unhide HN), unhide H2⟩

/-- prog.Calls answers what B2 says. -/
theorem calls_any (p : List Fn) (v : Value) (f : Int) (w : World) (hp : ProgAt w v p) (hk : KindsAt w) :
    Calls Tryd.prog 7 #[v, .int .i64 f] w fun e w' => CallPost p f w e w' := by
  by_cases hz : progS p = 0
  · obtain ⟨oa, cap, rfl, _, _⟩ := id hp
    by_cases hf : 0 ≤ f ∧ f < p.length
    · obtain ⟨i, rfl⟩ := Int.eq_ofNat_of_zero_le hf.1
      exact calls_go p oa _ cap i w rfl hp hk hz (by omega)
    · exact calls_none p oa _ cap f w rfl hp hk hz (by omega)
  · exact calls_bad p v f w hp hk hz
theorem calls_is (p : List Fn) (v : Value) (f : Int) (l : List Bool) (r : Int) (w : World) (hp : ProgAt w v p) (hk : KindsAt w) (h1 : callE p f = r) (h2 : callB p f = l) :
    Calls Tryd.prog 7 #[v, .int .i64 f] w fun e w' => ∃ u, e = .returned (.tuple #[u, .int .i64 r]) ∧ BoolsAt w' u l ∧ Kept w w' := by
  refine (calls_any p v f w hp hk).mono ?_
  rintro e w' ⟨u, g1, g2, g3⟩
  rw [h1] at g1
  rw [h2] at g2
  exact ⟨u, g1, g2, g3⟩

end Go.Proofs.YtkepbeeioalmbabDoor
