/-
  The contract of prog.Calls' own visit: a function literal that calls itself.
-/
import Derived.Test.YtkepbeeioalmbabDoorProgT
import Derived.Test.YtkepbeeioalmbabDoorFlowC
import Derived.Test.YtkepbeeioalmbabDoorBools
import Derived.Test.YtkepbeeioalmbabDoorChecked
import Derived.Deep.RegionWith
import Derived.Deep.DeepCutAuto
import Derived.JoinedCond
namespace Go.Proofs.YtkepbeeioalmbabDoor
open Go.RowKit

/-- What lies when visit has been made. -/
structure VisitAt (w0 w : World) (p : List Fn) (vp : Value) (n Bn B7 Bp B8 : Nat) : Prop where
  prog : ProgAt w0 vp p
  len : n = p.length
  right : ∀ k, k < p.length → chkS p k = 0
  kept : Kept w0 w
  new : w0.heap.size ≤ Bn
  l7 : w.heap[B7]? = some (.cells #[.slice (some ⟨Bn, 0, none⟩) n n] 23)
  lp : w.heap[Bp]? = some (.cells #[vp] 22)
  l8 : w.heap[B8]? = some (.cells #[.func (.func 24) #[] #[.pointer (some ⟨B7, 0, none⟩), .pointer (some ⟨Bp, 0, none⟩), .pointer (some ⟨B8, 0, none⟩)]] 50)
  n7 : B7 ≠ Bn
  np : Bp ≠ Bn
  n8 : B8 ≠ Bn
theorem VisitAt.on {w0 w w' : World} {p : List Fn} {vp : Value} {n Bn B7 Bp B8 : Nat} (h : VisitAt w0 w p vp n Bn B7 Bp B8) (k : KeptX Bn w w') : VisitAt w0 w' p vp n Bn B7 Bp B8 :=
  ⟨h.prog, h.len, h.right, k.kept h.kept h.new, h.new, k.lays h.n7 h.l7, k.lays h.np h.lp, k.lays h.n8 h.l8, h.n7, h.np, h.n8⟩

def VisitPost (p : List Fn) (n : Nat) (B : List Bool) (g : Nat) (Bn : Nat) (w : World) (e : Ending) (w' : World) : Prop :=
  (∃ v, e = .returned v) ∧ BoolsIn w' Bn (visitS p n B g) ∧ KeptX Bn w w'

theorem named_in {p : List Fn} (h : ∀ k, k < p.length → chkS p k = 0) {k : Nat} (hk : k < p.length) {x : Int × Int} (hx : x ∈ codeOf p k) (hn : namesB x = true) : 0 ≤ x.2 ∧ x.2 < p.length := by
  obtain ⟨_, _, h1⟩ := chkS_ops (h k hk)
  have ho := opsS_all h1 x hx
  simp only [namesB, Bool.or_eq_true, decide_eq_true_eq] at hn
  obtain ⟨_, _, hm⟩ := opS_kind ho
  have hop : opd x.1.toNat = 4 := by rcases hn with e | e <;> rw [e] <;> rfl
  rw [hop] at hm
  have := mayB4 hm
  omega

theorem targets_snoc {c : List (Int × Int)} {k : Nat} {x : Int × Int} (h : c[k]? = some x) : targets (c.take (k + 1)) = targets (c.take k) ++ if namesB x = true then [x.2.toNat] else [] := by
  rw [List.take_add_one, h]
  unfold targets
  rw [List.filter_append, List.map_append]
  cases hn : namesB x <;> simp [hn]
theorem mem_targets_take {c : List (Int × Int)} {k j : Nat} (h : j ∈ targets (c.take k)) : j ∈ targets c := by
  simp only [targets, List.mem_map, List.mem_filter] at h ⊢
  obtain ⟨x, ⟨hx, hn⟩, rfl⟩ := h
  exact ⟨x, ⟨List.mem_of_mem_take hx, hn⟩, rfl⟩

set_option maxHeartbeats 1000000 in
theorem visit_seen (p : List Fn) (n0 n g Bn B7 Bp B8 : Nat) (B : List Bool) (w : World) (hB : BoolsIn w Bn B) (hl : B.length = n) (hg : g < n) (l7 : w.heap[B7]? = some (.cells #[.slice (some ⟨Bn, 0, none⟩) n n] 23)) (hs : B.getD g false = true) :
    Calls Tryd.prog 24 #[.int .i64 g, .pointer (some ⟨B7, 0, none⟩), .pointer (some ⟨Bp, 0, none⟩), .pointer (some ⟨B8, 0, none⟩)] w fun e w' => VisitPost p (n0 + 1) B g Bn w e w' := by
  have q := hB.cell (k := g) (by omega)
  rw [hs] at q
  have c7 := cell_lays l7 0
  simp only [List.getElem?_toArray, List.getElem?_cons_zero] at c7
  have HB := hide hB
  have HS := hide hs
  clear hB hs hl l7
  go_enter Tryd.func24, Tryd.ntmps24
  go_wp2
  go_end0
  refine ⟨⟨_, rfl⟩, ?_, KeptX.refl _ _⟩
  unfold visitS
  rw [if_pos (unhide HS)]
  exact unhide HB

theorem unv_fold {p : List Fn} (hp : Named p) {n0 g : Nat} {B : List Bool} (hl : B.length = p.length) (hg : g < p.length) (hs : B.getD g false = false) (hu : unvB B < n0 + 1) (k : Nat) :
    ((targets ((codeOf p g).take k)).foldl (visitS p n0) (B.set g true)).length = p.length ∧ unvB ((targets ((codeOf p g).take k)).foldl (visitS p n0) (B.set g true)) < n0 := by
  have h1 := unvB_set B g (by omega) hs
  obtain ⟨a, _⟩ := visits_ok (visitS p n0) n0 (fun B j h1 h2 h3 => visit_ok hp n0 B j h1 h2 h3) (targets ((codeOf p g).take k)) (B.set g true) (by simpa using hl) (by omega) (fun j hj => hp g j hg (mem_targets_take hj))
  have h2 := (unvB_mono _ _ a.1).1
  exact ⟨a.1.1.trans (by simpa using hl), by omega⟩

set_option maxHeartbeats 4000000 in
theorem visit_new (p : List Fn) (n0 n g b o cap m cc Bn B7 Bp B8 : Nat) (oc : Option Addr) (B : List Bool) (w0 w : World) (hw : VisitAt w0 w p (.slice (some ⟨b, o, none⟩) n cap) n Bn B7 Bp B8)
    (hB : BoolsIn w Bn B) (hl : B.length = n) (hg : g < n) (hs : B.getD g false = false) (hu : unvB B < n0 + 1)
    (c2 : w0.cell? ⟨b, o + g * 3 + 2, none⟩ = some (.slice oc m cc)) (hc : CodeAt w0 (.slice oc m cc) (codeOf p g)) (hml : m = (codeOf p g).length)
    (IH : ∀ (B' : List Bool) (g' : Nat) (w' : World), VisitAt w0 w' p (.slice (some ⟨b, o, none⟩) n cap) n Bn B7 Bp B8 → BoolsIn w' Bn B' → B'.length = n → g' < n → unvB B' < n0 →
      Calls Tryd.prog 24 #[.int .i64 g', .pointer (some ⟨B7, 0, none⟩), .pointer (some ⟨Bp, 0, none⟩), .pointer (some ⟨B8, 0, none⟩)] w' fun e w'' => VisitPost p n0 B' g' Bn w' e w'') :
    Calls Tryd.prog 24 #[.int .i64 g, .pointer (some ⟨B7, 0, none⟩), .pointer (some ⟨Bp, 0, none⟩), .pointer (some ⟨B8, 0, none⟩)] w fun e w' => VisitPost p (n0 + 1) B g Bn w e w' := by
  have q := hB.cell (k := g) (by omega)
  rw [hs] at q
  have qf := hB.frozen g
  have c7 := cell_lays hw.l7 0
  simp only [List.getElem?_toArray, List.getElem?_cons_zero] at c7
  have hK1 : KeptX Bn w (w.setCell ⟨Bn, g, none⟩ (.bool true)) := (KeptX.refl Bn w).setCell (p := ⟨Bn, g, none⟩) (.inl rfl) _
  have hw1 := hw.on hK1
  have cp := cell_lays hw1.lp 0
  simp only [List.getElem?_toArray, List.getElem?_cons_zero] at cp
  have d2 := hw1.kept.cell c2
  have hm8 : m ≤ 8796093022208 := by obtain ⟨_, _, _, h, _⟩ := id hc; omega
  have hB1 := hB.set g true
  have hlen : n = p.length := hw.len
  have HW := hide hw
  have HC := hide hc
  have HL := hide hl
  have HML := hide hml
  have HU := hide hu
  have HS := hide hs
  have HI := hide IH
  have HK1 := hide hK1
  have HB1 := hide hB1
  have HN := hide hlen
  clear hw hc hl hml hu hs IH hK1 hB1 hw1 c2 hB hlen
  go_enter Tryd.func24, Tryd.ntmps24
  go_wp2
  go_loopw [20] (fun s wr => ∃ k : Nat, k ≤ m ∧ s = .int .i64 k ∧ Hid (BoolsIn wr Bn ((targets ((codeOf p g).take k)).foldl (visitS p n0) (B.set g true))) ∧ Hid (KeptX Bn w wr)) (fun s _ => m - (intOf s).toNat)
  case atStart => exact ⟨0, Nat.zero_le _, rfl, HB1, HK1⟩
  case round =>
    obtain ⟨k, hkm, rfl, HBr, HKr⟩ := hrel
    clear q qf c7 cp d2
    by_cases hlt : k < m
    · obtain ⟨⟨kd, a⟩, hx⟩ : ∃ x, (codeOf p g)[k]? = some x := ⟨_, List.getElem?_eq_getElem (by rw [← unhide HML]; exact hlt)⟩
      have hwr := (unhide HW).on (unhide HKr)
      obtain ⟨oa', cap', he, _, hcell⟩ := (unhide HC).kept hwr.kept
      obtain ⟨b', o', rfl, x0, x1⟩ := hcell k _ hx
      obtain ⟨rfl, -, -⟩ := (by simpa using he : oc = some ⟨b', o', none⟩ ∧ m = (codeOf p g).length ∧ cc = cap')
      have hsn := targets_snoc hx
      have hnm := fun h => named_in (unhide HW).right (by have := unhide HN; omega) (List.mem_of_getElem? hx) h
      have hKa : KeptX Bn w (wr.alloc (.cells #[.int .i64 kd, .int .i64 a] 38)) := (unhide HKr).alloc _
      have hwa := (unhide HW).on hKa
      have hBa := (unhide HBr).kept ((Kept.refl wr).alloc (.cells #[.int .i64 kd, .int .i64 a] 38))
      have c8 := cell_lays hwa.l8 0
      simp only [List.getElem?_toArray, List.getElem?_cons_zero] at c8
      obtain ⟨f1, f2⟩ := unv_fold (right_named (unhide HW).right) ((unhide HL).trans (unhide HN)) (by have := unhide HN; omega) (unhide HS) (unhide HU) k
      have HIC : Hid (∀ j : Nat, j < n → Calls Tryd.prog 24 #[.int .i64 j, .pointer (some ⟨B7, 0, none⟩), .pointer (some ⟨Bp, 0, none⟩), .pointer (some ⟨B8, 0, none⟩)] (wr.alloc (.cells #[.int .i64 kd, .int .i64 a] 38)) fun e w'' => VisitPost p n0 ((targets ((codeOf p g).take k)).foldl (visitS p n0) (B.set g true)) j Bn (wr.alloc (.cells #[.int .i64 kd, .int .i64 a] 38)) e w'') :=
        hide (fun j hj => (unhide HI) _ j _ hwa hBa (f1.trans (unhide HN).symm) hj f2)
      have HSN := hide hsn
      have HKA := hide hKa
      have HBA := hide hBa
      clear he hcell hx hwr hwa hKa hBa f1 f2 hsn
      by_cases hn : namesB (kd, a) = true
      · obtain ⟨hn0, hn1⟩ := hnm hn
        obtain ⟨j, rfl⟩ := Int.eq_ofNat_of_zero_le hn0
        have hsn := unhide HSN
        rw [if_pos hn] at hsn
        have HS2 := hide hsn
        have hkd : kd = 11 ∨ kd = 13 := by simpa [namesB] using hn
        have hjn : j < n := by have := unhide HN; simp only at hn1; omega
        clear hsn hn hnm hn0 hn1 HSN
        rcases hkd with rfl | rfl
        all_goals go_wp2_with fail
        all_goals refine ((unhide HIC) j hjn).mono ?_
        all_goals clear HIC
        all_goals rintro e w3 ⟨⟨v3, rfl⟩, hB3, hK3⟩
        all_goals have HB3 := hide hB3
        all_goals have HK3 := hide ((unhide HKA).trans hK3)
        all_goals clear hB3 hK3
        all_goals go_wp2
        all_goals go_roundw
        case rel => exact ⟨k + 1, by omega, by go_num, by rw [unhide HS2, List.foldl_append]; exact unhide HB3, HK3⟩
        case measure => simp [intOf]; omega
        case rel => exact ⟨k + 1, by omega, by go_num, by rw [unhide HS2, List.foldl_append]; exact unhide HB3, HK3⟩
        case measure => simp [intOf]; omega
      · have hsn := unhide HSN
        rw [if_neg hn] at hsn
        have HS2 := hide hsn
        have h11 : (kd == 11) = false := by rw [beq_eq_false_iff_ne]; intro e; exact hn (by simp [namesB, e])
        have h13 : (kd == 13) = false := by rw [beq_eq_false_iff_ne]; intro e; exact hn (by simp [namesB, e])
        clear hsn hn hnm HSN HIC
        go_wp2
        go_roundw
        case rel => exact ⟨k + 1, by omega, by go_num, by rw [unhide HS2, List.append_nil]; exact unhide HBA, HKA⟩
        case measure => simp [intOf]; omega
    · have hke : k = m := by omega
      have hres := unhide HBr
      rw [hke, unhide HML, List.take_length] at hres
      have HR := hide hres
      clear hres hke
      go_wp2
      go_end0
      refine ⟨⟨_, rfl⟩, ?_, unhide HKr⟩
      unfold visitS
      rw [if_neg (by rw [unhide HS]; decide)]
      exact unhide HR

/-- visit does what visitS says. -/
theorem visit_any (p : List Fn) (vp : Value) (n Bn B7 Bp B8 : Nat) (w0 : World) : ∀ (n0 : Nat) (B : List Bool) (g : Nat) (w : World), VisitAt w0 w p vp n Bn B7 Bp B8 → BoolsIn w Bn B → B.length = n → g < n → unvB B < n0 →
    Calls Tryd.prog 24 #[.int .i64 g, .pointer (some ⟨B7, 0, none⟩), .pointer (some ⟨Bp, 0, none⟩), .pointer (some ⟨B8, 0, none⟩)] w fun e w' => VisitPost p n0 B g Bn w e w'
  | 0, B, g, w, _, _, _, _, hu => by omega
  | n0 + 1, B, g, w, hw, hB, hl, hg, hu => by
    by_cases hs : B.getD g false = true
    · exact visit_seen p n0 n g Bn B7 Bp B8 B w hB hl hg hw.l7 hs
    · obtain ⟨oa, cap, rfl, h8, hcell⟩ := id hw.prog
      have hn := hw.len
      subst hn
      obtain ⟨b, o, cv, rfl, c0, c1, c2, hc⟩ := hcell g _ (getD_of_lt p g Fn.zero hg)
      obtain ⟨oc, cc, rfl, h24, _⟩ := id hc
      exact visit_new p n0 _ g b o cap _ cc Bn B7 Bp B8 oc B w0 w hw hB hl hg (by simpa using hs) hu c2 hc rfl (fun B' g' w' a1 a2 a3 a4 a5 => visit_any p _ _ Bn B7 Bp B8 w0 n0 B' g' w' a1 a2 a3 a4 a5)
end Go.Proofs.YtkepbeeioalmbabDoor
