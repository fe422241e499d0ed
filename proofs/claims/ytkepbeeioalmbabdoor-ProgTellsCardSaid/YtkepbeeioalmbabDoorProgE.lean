/-
  The contract of the reference's CallsOf: who is called, round by round.
-/
import Derived.Test.YtkepbeeioalmbabDoorProgC
import Derived.Deep.LoopGhost
namespace Go.Proofs.YtkepbeeioalmbabDoor
open Go.RowKit

def CofPost (p : List Fn) (i : Nat) (w : World) (e : Ending) (w' : World) : Prop :=
  ∃ v, e = .returned v ∧ BoolsAt w' v (callsS p i) ∧ Kept w w'

theorem roundB_len {p : List Fn} (hp : Named p) : ∀ (k : Nat) (B : List Bool), k ≤ p.length → B.length = p.length → (roundB p k B).length = p.length
  | 0, B, _, h => h
  | k + 1, B, hk, h => by
    have ih := roundB_len hp k B (by omega) h
    unfold roundB stepB
    split
    · exact (mark_ok _ _ p.length ih (fun j hj => hp k j (by omega) hj)).1.1.trans ih
    · exact ih
theorem roundsB_len {p : List Fn} (hp : Named p) : ∀ (r : Nat) (B : List Bool), B.length = p.length → (roundsB p r B).length = p.length
  | 0, B, h => h
  | r + 1, B, h => by
    unfold roundsB
    exact roundB_len hp p.length _ (Nat.le_refl _) (roundsB_len hp r B h)
theorem mark_snoc {c : List (Int × Int)} {k : Nat} {x : Int × Int} (C : List Bool) (h : c[k]? = some x) : markS C (targets (c.take (k + 1))) = if namesB x = true then (markS C (targets (c.take k))).set x.2.toNat true else markS C (targets (c.take k)) := by
  rw [targets_snoc h]
  unfold markS
  rw [List.foldl_append]
  split <;> rfl

set_option maxHeartbeats 4000000 in
theorem callsOf_go (p : List Fn) (b o n cap i : Nat) (w : World) (hn : n = p.length) (hp : ProgAt w (.slice (some ⟨b, o, none⟩) n cap) p) (hright : ∀ k, k < p.length → chkS p k = 0) (hn5 : n ≤ 5) (hi : i < n) :
    Calls Tryd.prog 9 #[.slice (some ⟨b, o, none⟩) n cap, .int .i64 i] w fun e w' => CofPost p i w e w' := by
  have hmk := make_bools n (by omega)
  have hnm := right_named hright
  have q : (w.alloc (.cells (Array.replicate n (.bool false)) 4)).cell? ⟨w.heap.size, i, none⟩ = some (.bool false) := by
    rw [cell_lays (lays_new rfl)]; simp [hi]
  have qf : (w.alloc (.cells (Array.replicate n (.bool false)) 4)).frozen? ⟨w.heap.size, i, none⟩ = false := frozen_lays (lays_new rfl) i
  have hB1 : BoolsIn (w.alloc (.cells ((Array.replicate n (.bool false)).setIfInBounds i (.bool true)) 4)) w.heap.size (startB p i) := by
    unfold BoolsIn startB
    rw [lays_new rfl, ← hn]
    congr 2
    apply Array.ext'
    simp [List.map_set]
  have hK1 : Kept w (w.alloc (.cells ((Array.replicate n (.bool false)).setIfInBounds i (.bool true)) 4)) := (Kept.refl w).alloc _
  have hcode : ∀ k, k < n → ∃ oc m cc, w.cell? ⟨b, o + k * 3 + 2, none⟩ = some (.slice oc m cc) ∧ CodeAt w (.slice oc m cc) (codeOf p k) ∧ m = (codeOf p k).length ∧ m ≤ 24 := by
    intro k hk
    obtain ⟨oa, cap', he, _, hcell⟩ := id hp
    obtain ⟨b', o', cv, rfl, c0, c1, c2, hc⟩ := hcell k _ (getD_of_lt p k Fn.zero (by omega))
    obtain ⟨he1, -, -⟩ := (by simpa using he : (b = b' ∧ o = o') ∧ n = p.length ∧ cap = cap')
    obtain ⟨rfl, rfl⟩ := he1
    obtain ⟨oc, cc, rfl, _, _⟩ := id hc
    exact ⟨oc, _, cc, c2, hc, rfl, (chkS_ops (hright k (by omega))).2.1⟩
  have HN := hide hn
  have HR := hide hright
  have HNM := hide hnm
  have HB1 := hide hB1
  have HK1 := hide hK1
  have HCD := hide hcode
  clear hn hp hright hnm hB1 hK1 hcode
  go_enter Tryd.func9, Tryd.ntmps9
  go_wp2
  go_loopg [6] n (fun gk s6 wr => ∃ r : Nat, r ≤ n ∧ gk = n - r ∧ s6 = .int .i64 r ∧ Hid (BoolsIn wr w.heap.size (roundsB p r (startB p i))) ∧ Hid (Kept w wr))
  case atStart => exact ⟨0, Nat.zero_le _, rfl, rfl, HB1, HK1⟩
  case round =>
    obtain ⟨r, hrn, rfl, rfl, HBr, HKr⟩ := hrel
    clear q qf hmk HB1 HK1
    have hRl : (roundsB p r (startB p i)).length = p.length := roundsB_len (unhide HNM) r _ (by simp [startB])
    have HRL := hide hRl
    clear hRl
    by_cases hlt : r < n
    · go_wp2
      go_loopg [7] n (fun gk2 s7 wr => ∃ k : Nat, k ≤ n ∧ gk2 = n - k ∧ s7 = .int .i64 k ∧ Hid (BoolsIn wr w.heap.size (roundB p k (roundsB p r (startB p i)))) ∧ Hid (Kept w wr))
      case atStart => exact ⟨0, Nat.zero_le _, rfl, rfl, HBr, HKr⟩
      case round =>
        obtain ⟨k, hkn, rfl, rfl, HBk, HKk⟩ := hrel
        have hCl : (roundB p k (roundsB p r (startB p i))).length = p.length := roundB_len (unhide HNM) k _ (by have := unhide HN; omega) (unhide HRL)
        have hnext : roundB p (k + 1) (roundsB p r (startB p i)) = stepB p (roundB p k (roundsB p r (startB p i))) k := rfl
        generalize hC : roundB p k (roundsB p r (startB p i)) = C at *
        have HCL := hide hCl
        have HNX := hide hnext
        clear hCl hnext
        by_cases hlk : k < n
        · obtain ⟨oc, m, cc, c2, hc, hml, hm24⟩ := (unhide HCD) k hlk
          have C2 := hide c2
          have HC := hide hc
          have HML := hide hml
          clear c2 hc hml
          go_wp2
          cases hmark : C.getD k false with
          | true =>
            have HMK := hide hmark
            clear hmark
            go_loopg [8] m (fun gk3 s8 wr => ∃ j : Nat, j ≤ m ∧ gk3 = m - j ∧ s8 = .int .i64 j ∧ Hid (BoolsIn wr w.heap.size (markS C (targets ((codeOf p k).take j)))) ∧ Hid (Kept w wr))
            case atStart => exact ⟨0, Nat.zero_le _, rfl, rfl, HBk, HKk⟩
            case round =>
              obtain ⟨j, hjm, rfl, rfl, HBj, HKj⟩ := hrel
              have d2 := (unhide HKj).cell (unhide C2)
              by_cases hlj : j < m
              · obtain ⟨⟨kd, a⟩, hx⟩ : ∃ x, (codeOf p k)[j]? = some x := ⟨_, List.getElem?_eq_getElem (by rw [← unhide HML]; exact hlj)⟩
                obtain ⟨oa', cap', he, _, hcell⟩ := (unhide HC).kept (unhide HKj)
                obtain ⟨b', o', rfl, x0, x1⟩ := hcell j _ hx
                obtain ⟨rfl, -, -⟩ := (by simpa using he : oc = some ⟨b', o', none⟩ ∧ m = (codeOf p k).length ∧ cc = cap')
                have hms := mark_snoc C hx
                have hnames := fun h => named_in (unhide HR) (by have := unhide HN; omega) (List.mem_of_getElem? hx) h
                obtain ⟨hmo, _⟩ := mark_ok (targets ((codeOf p k).take j)) C p.length (unhide HCL) (fun j' hj' => (unhide HNM) k j' (by have := unhide HN; omega) (mem_targets_take hj'))
                have hml2 : (markS C (targets ((codeOf p k).take j))).length = n := hmo.1.trans ((unhide HCL).trans (unhide HN).symm)
                have hout := (unhide HBj).cell (k := k) (by omega)
                rw [hmo.2 k (unhide HMK)] at hout
                have HMS := hide hms
                have HKA := hide ((unhide HKj).alloc (.cells #[.int .i64 kd, .int .i64 a] 38))
                have HBA := hide ((unhide HBj).kept ((Kept.refl wr).alloc (.cells #[.int .i64 kd, .int .i64 a] 38)))
                clear he hcell hx hms hmo
                by_cases hnb : namesB (kd, a) = true
                · obtain ⟨hn0, hn1⟩ := hnames hnb
                  obtain ⟨t, rfl⟩ := Int.eq_ofNat_of_zero_le hn0
                  have hms := unhide HMS
                  rw [if_pos hnb] at hms
                  have htn : t < n := by have := unhide HN; simp only at hn1; omega
                  have hst := (unhide HBA).cell (k := t) (by omega)
                  have hsf := (unhide HBA).frozen t
                  generalize (markS C (targets ((codeOf p k).take j))).getD t false = zz at hst
                  have HM2 := hide hms
                  have HB2 := hide ((unhide HBA).set t true)
                  have HK2 := hide ((unhide HKA).setCell (p := ⟨w.heap.size, t, none⟩) (Nat.le_refl _) (.bool true))
                  have hkd : kd = 11 ∨ kd = 13 := by simpa [namesB] using hnb
                  clear hms hnb hnames hn0 hn1 HMS hml2
                  rcases hkd with rfl | rfl
                  all_goals go_wp2
                  all_goals go_roundg (m - (j + 1))
                  case measure => omega
                  case rel => exact ⟨j + 1, by omega, rfl, by go_num, by rw [unhide HM2]; exact HB2, HK2⟩
                  case measure => omega
                  case rel => exact ⟨j + 1, by omega, rfl, by go_num, by rw [unhide HM2]; exact HB2, HK2⟩
                · have hms := unhide HMS
                  rw [if_neg hnb] at hms
                  have HM2 := hide hms
                  have h11 : (kd == 11) = false := by rw [beq_eq_false_iff_ne]; intro e; exact hnb (by simp [namesB, e])
                  have h13 : (kd == 13) = false := by rw [beq_eq_false_iff_ne]; intro e; exact hnb (by simp [namesB, e])
                  clear hms hnb hnames HMS hml2
                  go_wp2
                  go_roundg (m - (j + 1))
                  case measure => omega
                  case rel => exact ⟨j + 1, by omega, rfl, by go_num, by rw [unhide HM2]; exact HBA, HKA⟩
              · have hjm' : j = m := by omega
                have hres := unhide HBj
                rw [hjm', unhide HML, List.take_length] at hres
                have hstep : stepB p C k = markS C (targets (codeOf p k)) := by unfold stepB; rw [if_pos (unhide HMK)]
                have HRS := hide hres
                have HSB := hide hstep
                clear hjm' hres hstep
                go_wp2
                go_roundg (n - (k + 1))
                case measure => omega
                case rel => exact ⟨k + 1, by omega, rfl, by go_num, by rw [unhide HNX, unhide HSB]; exact HRS, HKj⟩
          | false =>
            have hstep : stepB p C k = C := by unfold stepB; rw [if_neg (by rw [hmark]; decide)]
            have HSB := hide hstep
            have HMK := hide hmark
            clear hmark hstep
            go_loopg [8] 0 (fun gk3 s8 wr => s8 = .int .i64 0 ∧ Hid (BoolsIn wr w.heap.size C) ∧ Hid (Kept w wr))
            case atStart => exact ⟨rfl, HBk, HKk⟩
            case round =>
              obtain ⟨rfl, HBj, HKj⟩ := hrel
              have d2 := (unhide HKj).cell (unhide C2)
              have hout := (unhide HBj).cell (k := k) (by have := unhide HCL; have := unhide HN; omega)
              rw [unhide HMK] at hout
              by_cases hm0 : 0 < m
              · go_wp2
                go_roundg (n - (k + 1))
                case measure => omega
                case rel => exact ⟨k + 1, by omega, rfl, by go_num, by rw [unhide HNX, unhide HSB]; exact HBj, HKj⟩
              · go_wp2
                go_roundg (n - (k + 1))
                case measure => omega
                case rel => exact ⟨k + 1, by omega, rfl, by go_num, by rw [unhide HNX, unhide HSB]; exact HBj, HKj⟩
        · have hkn' : k = n := by omega
          have hres : roundsB p (r + 1) (startB p i) = C := by
            rw [← hC, hkn', unhide HN]
            rfl
          have HRS := hide hres
          clear hkn' hres
          go_wp2
          go_roundg (n - (r + 1))
          case measure => omega
          case rel => exact ⟨r + 1, by omega, rfl, by go_num, by rw [unhide HRS]; exact HBk, HKk⟩
    · have hrn' : r = n := by omega
      have hres := unhide HBr
      have hl2 := unhide HRL
      rw [hrn', unhide HN] at hres hl2
      have HRS := hide hres
      have HL2 := hide hl2
      clear hrn' hres hl2
      go_wp2
      go_ret
      refine ⟨_, rfl, BoolsIn.slice (unhide HRS) (by rw [unhide HL2]; have := unhide HN; omega) (by rw [unhide HL2]; exact unhide HN), unhide HKr⟩

/-- The reference's CallsOf, of a right program. -/
theorem callsOf_any (p : List Fn) (v : Value) (i : Nat) (w : World) (hp : ProgAt w v p) (hz : progS p = 0) (hi : i < p.length) :
    Calls Tryd.prog 9 #[v, .int .i64 i] w fun e w' => CofPost p i w e w' := by
  obtain ⟨hn5, hn0, hright⟩ := progS_right hz
  obtain ⟨oa, cap, rfl, hl, hcell⟩ := id hp
  obtain ⟨b, o, cv, rfl, c0, c1, c2, hc⟩ := hcell i _ (getD_of_lt p i Fn.zero hi)
  exact callsOf_go p b o _ cap i w rfl hp hright hn5 hi
end Go.Proofs.YtkepbeeioalmbabDoor
