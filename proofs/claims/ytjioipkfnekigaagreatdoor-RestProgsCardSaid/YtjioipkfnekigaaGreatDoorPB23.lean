/- ExprB0, ForgeHc, TrimA -/
import Derived.Test.YtjioipkfnekigaaGreatDoorPB22
import Derived.Test.YtjioipkfnekigaaGreatDoorPB02
import Derived.Test.YtjioipkfnekigaaGreatDoorPB12
import Derived.Maps.OwnSet
set_option maxRecDepth 100000
set_option maxHeartbeats 8000000
namespace Go.Proofs.YtjioipkfnekigaaGreatDoor
open Go.RowKit
theorem within_yes (i l n : Int) (w : World) (h1 : l ≤ i) (h2 : i ≤ n) :
    Calls Tryz.prog 37 #[.int .i64 i, .int .i64 l, .int .i64 n] w fun e w' => e = .returned (.bool true) ∧ w = w' := by
  go_enter Tryz.func37, Tryz.ntmps37
  go_wp2
  go_ret
  exact ⟨rfl, rfl⟩
theorem within_no (i l n : Int) (w : World) (h : ¬ (l ≤ i ∧ i ≤ n)) :
    Calls Tryz.prog 37 #[.int .i64 i, .int .i64 l, .int .i64 n] w fun e w' => e = .returned (.bool false) ∧ w = w' := by
  by_cases h1 : l ≤ i
  · have h2 : ¬ i ≤ n := fun x => h ⟨h1, x⟩
    clear h
    go_enter Tryz.func37, Tryz.ntmps37
    go_wp2
    go_ret
    exact ⟨rfl, rfl⟩
  · clear h
    go_enter Tryz.func37, Tryz.ntmps37
    go_wp2
    go_ret
    exact ⟨rfl, rfl⟩
theorem exprError_locals (v : Value) (n : Int) (w : World) (h : ¬ (0 ≤ n ∧ n ≤ 4)) :
    Calls Tryz.prog 36 #[v, .int .i64 n] w fun x w' => x = .returned (.int .i64 3) ∧ w = w' := by
  have HH := hide h
  clear h
  go_enter Tryz.func36, Tryz.ntmps36
  go_wp2_with fail
  refine (within_no _ _ _ _ (unhide HH)).mono ?_
  rintro _ _ ⟨rfl, rfl⟩
  go_wp2
  go_ret
  exact ⟨rfl, rfl⟩
theorem exprError_many (oa : Option Addr) (l cap : Nat) (n : Int) (w : World) (h0 : 0 ≤ n) (h4 : n ≤ 4) (hl : 9 < (l : Int)) :
    Calls Tryz.prog 36 #[.slice oa l cap, .int .i64 n] w fun x w' => x = .returned (.int .i64 2) ∧ w = w' := by
  go_enter Tryz.func36, Tryz.ntmps36
  go_wp2_with fail
  refine (within_yes _ _ _ _ h0 h4).mono ?_
  rintro _ _ ⟨rfl, rfl⟩
  go_wp2
  go_ret
  exact ⟨rfl, rfl⟩
theorem exprError_go (e : List (Int × Int)) (oa : Option Addr) (m cap : Nat) (n : Int) (w : World) (he : NodesAt w (.slice oa m cap) e) (hm : m = e.length) (h0 : 0 ≤ n) (h4 : n ≤ 4) (hl : ¬ 9 < (m : Int)) :
    Calls Tryz.prog 36 #[.slice oa m cap, .int .i64 n] w fun x w' => x = .returned (.int .i64 (exErrS e n)) ∧ w = w' := by
  have HI : Hid (∀ i x, e[i]? = some x → ∃ b o, oa = some ⟨b, o, none⟩ ∧ w.cell? ⟨b, o + i * 2, none⟩ = some (.int .i64 x.1) ∧ w.cell? ⟨b, o + i * 2 + 1, none⟩ = some (.int .i64 x.2)) := by
    obtain ⟨oa', cap', e1, _, hi⟩ := he
    obtain ⟨rfl, _, _⟩ : oa = oa' ∧ m = e.length ∧ cap = cap' := by simpa using e1
    exact hide hi
  have HM := hide hm
  have HL : Hid (¬ 9 < e.length) := by rw [← hm]; exact hide (by omega)
  clear he hm
  generalize hr : exErrS e n = rr
  have HR := hide hr
  clear hr
  go_enter Tryz.func36, Tryz.ntmps36
  go_wp2_with fail
  refine (within_yes _ _ _ _ h0 h4).mono ?_
  rintro _ _ ⟨rfl, rfl⟩
  go_wp2
  go_loopw [5] (fun s wr => ∃ k : Nat, k ≤ m ∧ s = .int .i64 k ∧ Hid (∀ i x, i < k → e[i]? = some x → kindOk x) ∧ w = wr) (fun s _ => m - (intOf s).toNat)
  case atStart => exact ⟨0, Nat.zero_le _, rfl, hide (fun i x hi => by omega), rfl⟩
  case round =>
    obtain ⟨k, hkm, rfl, HO, rfl⟩ := hrel
    by_cases hlt : k < m
    · obtain ⟨b, o, rfl, c0, c1⟩ := (unhide HI) k _ (getD_of_lt e k (0, 0) (by rw [← unhide HM]; exact hlt))
      have HX := hide (getD_of_lt e k (0, 0) (by rw [← unhide HM]; exact hlt))
      generalize e.getD k (0, 0) = x at c0 c1 HX
      obtain ⟨kd, z⟩ := x
      simp only [] at c0 c1
      have hk0 : (0 : Int) ≤ (k : Int) := by omega
      have hk1 : (k : Int) < (m : Int) := by omega
      by_cases hok : 0 ≤ kd ∧ kd ≤ 7
      · have HN : Hid (∀ i x, i < k + 1 → e[i]? = some x → kindOk x) := hide (fun i x hi hx => by
          by_cases hik : i = k
          · subst hik; rw [unhide HX] at hx; obtain rfl := Option.some.inj hx; exact hok
          · exact (unhide HO) i x (by omega) hx)
        obtain ⟨g0, g7⟩ := hok
        go_wp2_with fail
        refine (within_yes _ _ _ _ g0 g7).mono ?_
        rintro _ _ ⟨rfl, rfl⟩
        go_wp2
        go_roundw
        case rel => exact ⟨k + 1, by omega, by go_num, HN, trivial⟩
        case measure => simp [intOf]; omega
      · have hrr : rr = 4 := by rw [← unhide HR]; exact exErr_kind h0 h4 (unhide HL) k _ (unhide HX) hok
        have HOK := hide hok
        clear hok
        subst hrr
        go_wp2_with fail
        refine (within_no _ _ _ _ (unhide HOK)).mono ?_
        rintro _ _ ⟨rfl, rfl⟩
        go_wp2
        go_ret
        exact ⟨rfl, rfl⟩
    · have hke : k = e.length := by have := unhide HM; omega
      have HKS : Hid (∀ x ∈ e, kindOk x) := hide (all_of (fun i x hi hx => (unhide HO) i x (by omega) hx))
      clear HO hke
      go_wp2
      go_loopw [6] (fun s wr => ∃ k : Nat, k ≤ m ∧ s = .int .i64 k ∧ Hid (∀ i x, i < k → e[i]? = some x → numOk n x) ∧ w = wr) (fun s _ => m - (intOf s).toNat)
      case atStart => exact ⟨0, Nat.zero_le _, rfl, hide (fun i x hi => by omega), rfl⟩
      case round =>
        obtain ⟨k, hkm, rfl, HO, rfl⟩ := hrel
        by_cases hlt : k < m
        · obtain ⟨b, o, rfl, c0, c1⟩ := (unhide HI) k _ (getD_of_lt e k (0, 0) (by rw [← unhide HM]; exact hlt))
          have HX := hide (getD_of_lt e k (0, 0) (by rw [← unhide HM]; exact hlt))
          generalize e.getD k (0, 0) = x at c0 c1 HX
          obtain ⟨kd, z⟩ := x
          simp only [] at c0 c1
          have hk0 : (0 : Int) ≤ (k : Int) := by omega
          have hk1 : (k : Int) < (m : Int) := by omega
          have HNX : Hid (numOk n (kd, z) → ∀ i x, i < k + 1 → e[i]? = some x → numOk n x) := hide (fun hok i x hi hx => by
            by_cases hik : i = k
            · subst hik; rw [unhide HX] at hx; obtain rfl := Option.some.inj hx; exact hok
            · exact (unhide HO) i x (by omega) hx)
          have HBX : Hid (¬ numOk n (kd, z) → rr = 3) := hide (fun hok => by rw [← unhide HR]; exact exErr_num h0 h4 (unhide HL) (unhide HKS) k _ (unhide HX) hok)
          clear HO HX
          have hcase : ∃ mo, mostS n kd = mo := ⟨_, rfl⟩
          obtain ⟨mo, hmo⟩ := hcase
          by_cases hok : 0 ≤ z ∧ z ≤ mo
          · have HN : Hid (∀ i x, i < k + 1 → e[i]? = some x → numOk n x) := hide ((unhide HNX) ⟨hok.1, by rw [hmo]; exact hok.2⟩)
            clear HNX HBX
            obtain ⟨g0, g7⟩ := hok
            by_cases z0 : kd = 0
            · subst z0
              obtain rfl : 999 = mo := by rw [← hmo]; rfl
              clear hmo
              go_wp2_with fail
              refine (within_yes _ _ _ _ g0 g7).mono ?_
              rintro _ _ ⟨rfl, rfl⟩
              go_wp2
              go_roundw
              case rel => exact ⟨k + 1, by omega, by go_num, HN, trivial⟩
              case measure => simp [intOf]; omega
            · by_cases z1 : kd = 1
              · subst z1
                obtain rfl : n - 1 = mo := by rw [← hmo]; rfl
                clear hmo
                go_wp2_with fail
                refine (within_yes _ _ _ _ g0 g7).mono ?_
                rintro _ _ ⟨rfl, rfl⟩
                go_wp2
                go_roundw
                case rel => exact ⟨k + 1, by omega, by go_num, HN, trivial⟩
                case measure => simp [intOf]; omega
              · obtain rfl : 0 = mo := by rw [← hmo]; unfold mostS; rw [if_neg z0, if_neg z1]
                have b0 : (kd == 0) = false := beq_eq_false_iff_ne.2 z0
                have b1 : (kd == 1) = false := beq_eq_false_iff_ne.2 z1
                clear hmo z0 z1
                go_wp2_with fail
                refine (within_yes _ _ _ _ g0 g7).mono ?_
                rintro _ _ ⟨rfl, rfl⟩
                go_wp2
                go_roundw
                case rel => exact ⟨k + 1, by omega, by go_num, HN, trivial⟩
                case measure => simp [intOf]; omega
          · obtain rfl : 3 = rr := ((unhide HBX) (fun h => hok ⟨h.1, by rw [← hmo]; exact h.2⟩)).symm
            clear HNX HBX
            have HOK := hide hok
            clear hok
            by_cases z0 : kd = 0
            · subst z0
              obtain rfl : 999 = mo := by rw [← hmo]; rfl
              clear hmo
              go_wp2_with fail
              refine (within_no _ _ _ _ (unhide HOK)).mono ?_
              rintro _ _ ⟨rfl, rfl⟩
              go_wp2
              go_ret
              exact ⟨rfl, rfl⟩
            · by_cases z1 : kd = 1
              · subst z1
                obtain rfl : n - 1 = mo := by rw [← hmo]; rfl
                clear hmo
                go_wp2_with fail
                refine (within_no _ _ _ _ (unhide HOK)).mono ?_
                rintro _ _ ⟨rfl, rfl⟩
                go_wp2
                go_ret
                exact ⟨rfl, rfl⟩
              · obtain rfl : 0 = mo := by rw [← hmo]; unfold mostS; rw [if_neg z0, if_neg z1]
                have b0 : (kd == 0) = false := beq_eq_false_iff_ne.2 z0
                have b1 : (kd == 1) = false := beq_eq_false_iff_ne.2 z1
                clear hmo z0 z1
                go_wp2_with fail
                refine (within_no _ _ _ _ (unhide HOK)).mono ?_
                rintro _ _ ⟨rfl, rfl⟩
                go_wp2
                go_ret
                exact ⟨rfl, rfl⟩
        · have hke : k = e.length := by have := unhide HM; omega
          have HNS : Hid (∀ x ∈ e, numOk n x) := hide (all_of (fun i x hi hx => (unhide HO) i x (by omega) hx))
          have HRR : Hid (rr = if onlyS e 1 = true then 0 else 1) := hide (by rw [← unhide HR]; exact exErr_one h0 h4 (unhide HL) (unhide HKS) (unhide HNS))
          clear HO hke HNS HR
          go_wp2
          go_loopw [8, 9] (fun s8 s9 wr => ∃ (k : Nat) (o : Int), k ≤ m ∧ s9 = .int .i64 k ∧ s8 = .int .i64 o ∧ 0 ≤ o ∧ o ≤ 1 + 2 * k ∧ Hid (onlyS (e.drop k) o = onlyS e 1) ∧ w = wr) (fun _ s _ => m - (intOf s).toNat)
          case atStart => exact ⟨0, 1, Nat.zero_le _, rfl, rfl, by omega, by omega, hide rfl, rfl⟩
          case round =>
            obtain ⟨k, op, hkm, rfl, rfl, ho0, ho1, HO, rfl⟩ := hrel
            by_cases hlt : k < m
            · obtain ⟨b, o, rfl, c0, c1⟩ := (unhide HI) k _ (getD_of_lt e k (0, 0) (by rw [← unhide HM]; exact hlt))
              have hx := getD_of_lt e k (0, 0) (by rw [← unhide HM]; exact hlt)
              have hkx := (unhide HKS) _ (List.mem_of_getElem? hx)
              have hst := onlyS_step hx op
              have HST := hide hst
              generalize e.getD k (0, 0) = x at c0 c1 hkx HST
              obtain ⟨kd, z⟩ := x
              simp only [] at c0 c1
              unfold kindOk at hkx
              simp only [] at hkx
              have hk0 : (0 : Int) ≤ (k : Int) := by omega
              have hk1 : (k : Int) < (m : Int) := by omega
              clear hx hst c1
              by_cases hop : op = 0
              · obtain rfl : 1 = rr := by
                  rw [unhide HRR, ← unhide HO, unhide HST, if_pos hop]; rfl
                subst hop
                go_wp2
                go_ret
                exact ⟨rfl, rfl⟩
              · have HN : Hid (onlyS (e.drop (k + 1)) (op - 1 + partsS kd) = onlyS e 1) := hide (by rw [← unhide HO, unhide HST, if_neg hop])
                have hp0 : 0 ≤ partsS kd ∧ partsS kd ≤ 3 := by unfold partsS; split <;> (try split) <;> omega
                have bop : (op == 0) = false := beq_eq_false_iff_ne.2 hop
                obtain ⟨hpa, hpb⟩ := hp0
                clear HO HST
                go_wp2_with fail
                refine (size_any _ _).mono ?_
                rintro _ _ ⟨rfl, rfl⟩
                generalize partsS kd = pk at HN hpa hpb ⊢
                go_wp2
                go_roundw
                case rel => exact ⟨k + 1, op - 1 + pk, by omega, by go_num, by go_num, by omega, by omega, HN, trivial⟩
                case measure => simp [intOf]; omega
            · have hke : k = e.length := by have := unhide HM; omega
              have hfin : onlyS e 1 = decide (op = 0) := by rw [← unhide HO, hke]; simp [onlyS]
              by_cases hop : op = 0
              · obtain rfl : 0 = rr := by rw [unhide HRR, hfin]; simp [hop]
                subst hop
                clear hfin hke
                go_wp2
                go_ret
                exact ⟨rfl, rfl⟩
              · obtain rfl : 1 = rr := by rw [unhide HRR, hfin]; simp [hop]
                have bop : (op != 0) = true := bne_iff_ne.2 hop
                clear hfin hke hop
                go_wp2
                go_ret
                exact ⟨rfl, rfl⟩
theorem exprError_any (e : List (Int × Int)) (v : Value) (n : Int) (w : World) (he : NodesAt w v e) :
    Calls Tryz.prog 36 #[v, .int .i64 n] w fun x w' => x = .returned (.int .i64 (exErrS e n)) ∧ w = w' := by
  by_cases hn : 0 ≤ n ∧ n ≤ 4
  · obtain ⟨oa, cap, rfl, hl, hi⟩ := id he
    by_cases h9 : 9 < e.length
    · rw [exErr_many hn.1 hn.2 h9]
      exact exprError_many oa _ cap n w hn.1 hn.2 (by omega)
    · exact exprError_go e oa _ cap n w he rfl hn.1 hn.2 (by omega)
  · rw [exErr_locals (by omega)]
    exact exprError_locals v n w hn
open Go.RowKit Go.Maps
theorem refForgeProg_bad (e : List (Int × Int)) (oa ob : Option Addr) (m cap l cb : Nat) (w : World) (HEX : Hid (Calls Tryz.prog 36 #[.slice oa m cap, .int .i64 l] w fun x u' => x = .returned (.int .i64 (exErrS e l)) ∧ w = u')) (hz : exErrS e l ≠ 0) :
    Calls Tryz.prog 16 #[.slice oa m cap, .slice ob l cb] w (PgPost [] (exErrS e l) w) := by
  have hz' : (exErrS e l != 0) = true := by rw [bne_iff_ne]; exact hz
  generalize exErrS e l = r at *
  clear hz
  go_enter Tryz.func16, Tryz.ntmps16
  go_wp2_with fail
  refine (unhide HEX).mono ?_
  rintro _ _ ⟨rfl, rfl⟩
  clear HEX
  go_wp2
  go_ret2
  exact ⟨_, rfl, ⟨none, 0, rfl, by simp, fun i f h => by simp at h⟩, Kept.refl w⟩
def MnAt (w wr : World) (k : Nat) (c : List (Int × Int)) : Prop :=
  ∃ oc cc, wr.heap[w.heap.size]? = some (.cells #[.int .i64 0, .int .i64 0, .slice oc k cc] 42) ∧ c.length = k ∧ OpsOwn w.heap.size wr (.slice oc k cc) c ∧ (Value.slice oc k cc).ownBlock ≠ some w.heap.size ∧ Kept w wr
theorem MnAt.new (w : World) : MnAt w (w.alloc (.cells #[.int .i64 0, .int .i64 0, .slice none 0 0] 42)) 0 [] :=
  ⟨none, 0, lays_new rfl, rfl, OpsOwn.start _ _, by simp [Value.ownBlock], (Kept.refl w).alloc _⟩
theorem MnAt.app {w wr : World} {k : Nat} {c : List (Int × Int)} {oc : Option Addr} {cc : Nat} (hB : wr.heap[w.heap.size]? = some (.cells #[.int .i64 0, .int .i64 0, .slice oc k cc] 42)) (hl : c.length = k) (ho : OpsOwn w.heap.size wr (.slice oc k cc) c) (hn : (Value.slice oc k cc).ownBlock ≠ some w.heap.size) (hk : Kept w wr)
    (cells : Array Value) (m : Nat) (d : List (Int × Int)) (hm : m = d.length) (hc : cells = (flatOps d).toArray) (hl2 : k + m ≤ 100) :
    ∃ o' c' y', (Builtin.append_ #[40, 40] 40 #[.slice oc k cc, .slice (some ⟨wr.heap.size, 0, none⟩) m m]).run Tryz.prog (wr.alloc (.cells cells 44)) = .ok (.slice o' (k + m) c') y' ∧ Kept w y' ∧
      y'.heap[w.heap.size]? = some (.cells #[.int .i64 0, .int .i64 0, .slice oc k cc] 42) ∧ (∀ p v, wr.cell? p = some v → p.block < w.heap.size → y'.cell? p = some v) ∧ MnAt w (y'.setCell ⟨w.heap.size, 2, none⟩ (.slice o' (k + m) c')) (k + m) (c ++ d) := by
  subst hl hm hc
  have hcell : ∀ j u, (flatOps d)[j]? = some u → (wr.alloc (.cells (flatOps d).toArray 44)).cell? ((⟨wr.heap.size, 0, none⟩ : Addr).add j) = some u := fun j u hj => by
    rw [add_zero, cell_lays (lays_new rfl)]
    simpa using hj
  obtain ⟨o', c', y', hr, hown, hk', hold⟩ := app_ops (hk.alloc (.cells (flatOps d).toArray 44)) (ho.kept ((Kept.refl wr).alloc _)) ⟨wr.heap.size, 0, none⟩ d.length d.length d rfl hcell (by omega)
  rw [List.length_append] at hr hown hold
  obtain ⟨hB', hn'⟩ := hold _ _ (lays_alloc hB _) hn
  refine ⟨o', c', y', hr, hk', hB', fun p v hp hlt => (Below.cell hk' hlt).trans ((Below.cell hk hlt).symm.trans hp), o', c', lays_set hB' 2 _, by simp, ?_, hn', hk'.setCell (p := ⟨w.heap.size, 2, none⟩) (Nat.le_refl _) _⟩
  have := ownsRow_setCell_other (a := ⟨w.heap.size, 2, none⟩) hown hn' (.slice o' (c.length + d.length) c')
  exact this
theorem refForgeProg_go (e : List (Int × Int)) (vals : List Int) (oa ob : Option Addr) (m cap l cb : Nat) (w : World) (hv : IntsW w (.slice ob l cb) vals) (hvl : l = vals.length) (hl4 : l ≤ 4)
    (HEX : Hid (Calls Tryz.prog 36 #[.slice oa m cap, .int .i64 l] w fun x u' => x = .returned (.int .i64 0) ∧ w = u'))
    (HFD : Hid (∀ u, Kept w u → Calls Tryz.prog 38 #[.slice oa m cap, .int .i64 l] u fun x u' => ∃ cv, x = .returned (.agg #[.int .i64 l, .int .i64 l, cv]) ∧ FCode u.heap.size u' cv (fnS e l).code ∧ Kept u u'))
    (rp : List Fn) (rr : Int) (hrr : Hid ((valsOk vals → (rp, rr) = (forgeP e vals, 0)) ∧ (¬ valsOk vals → (rp, rr) = ([], 3)))) :
    Calls Tryz.prog 16 #[.slice oa m cap, .slice ob l cb] w (PgPost rp rr w) := by
  have HV := hide hv
  have HVL := hide hvl
  clear hv hvl
  have HWN : Hid (∀ (i : Int) (u : World), Calls Tryz.prog 37 #[.int .i64 i, .int .i64 0, .int .i64 999] u fun e w' => e = .returned (.bool (decide (0 ≤ i ∧ i ≤ 999))) ∧ u = w') := hide (fun i u => by
    by_cases h : 0 ≤ i ∧ i ≤ 999
    · rw [decide_eq_true h]; exact within_yes i 0 999 u h.1 h.2
    · rw [decide_eq_false h]; exact within_no i 0 999 u h)
  go_enter Tryz.func16, Tryz.ntmps16
  go_wp2_with fail
  refine (unhide HEX).mono ?_
  rintro _ _ ⟨rfl, rfl⟩
  clear HEX
  go_wp2_with fail
  have HM0 := hide (MnAt.new w)
  generalize w.alloc (.cells #[.int .i64 0, .int .i64 0, .slice none 0 0] 42) = wf at HM0 ⊢
  generalize hBB : w.heap.size = B
  have HBB := hide hBB
  clear hBB
  go_loopw [8] (fun s8 wr => ∃ k : Nat, k ≤ l ∧ s8 = .int .i64 k ∧ Hid (∀ j, j < k → 0 ≤ vals.getD j 0 ∧ vals.getD j 0 ≤ 999) ∧ Hid (MnAt w wr k ((vals.take k).map (fun v => ((0 : Int), v))))) (fun s8 _ => l - (intOf s8).toNat)
  case atStart => exact ⟨0, Nat.zero_le _, rfl, hide (fun j hj => by omega), HM0⟩
  case round =>
    obtain ⟨k, hkm, rfl, HO, HSr⟩ := hrel
    by_cases hlt : k < l
    · have hx := getD_of_lt vals k 0 (by rw [← unhide HVL]; exact hlt)
      obtain ⟨oc, cc, hBk, hlen, hops, hne, hkr⟩ := unhide HSr
      obtain ⟨bv, ov, c5, ev, cz0⟩ := (unhide HV).at (i := k) (by rw [← unhide HVL]; exact hlt)
      obtain ⟨rfl, rfl⟩ : ob = some ⟨bv, ov, none⟩ ∧ cb = c5 := by
        simp only [Value.slice.injEq] at ev
        exact ⟨ev.1, ev.2.2⟩
      have cz := hkr.cell cz0
      have hbv := cell_lt cz0
      have hk0 : (0 : Int) ≤ (k : Int) := by omega
      have hk1 : (k : Int) < (l : Int) := by omega
      have HX := hide hx
      generalize hz : vals.getD k 0 = z at cz0 cz HX
      have HZ := hide hz
      clear cz0 ev hx hz
      by_cases hin : 0 ≤ z ∧ z ≤ 999
      · have HW := hide ((unhide HWN) z wr)
        rw [decide_eq_true hin] at HW
        obtain ⟨o2, c2, y2, hr, hk2, hB2, hc2, hmn⟩ := MnAt.app (wr := wr.drew) hBk hlen (hops.kept ((Kept.refl wr).drew)) hne hkr.drew #[.int .i64 0, .int .i64 z] 1 [(0, z)] rfl rfl (by omega)
        have HR := hide hr
        have HMN := hide hmn
        rw [unhide HBB] at hBk hB2
        have HH : Hid (∀ u, Kept wr u → u.cell? ⟨B, 2, none⟩ = some (.slice oc k cc) ∧ u.cell? ⟨bv, ov + k, none⟩ = some (.int .i64 z)) := hide (fun u hu => ⟨cell_lays (lays_kept hu hBk) 2, hu.cell cz⟩)
        have HO2 : Hid (∀ j, j < k + 1 → 0 ≤ vals.getD j 0 ∧ vals.getD j 0 ≤ 999) := hide (fun j hj => by
          by_cases hj' : j = k
          · rw [hj', unhide HZ]; exact hin
          · exact (unhide HO) j (by omega))
        have m2 := cell_lays hB2 2
        have f2 := frozen_lays hB2 2
        have HCZ := hide (hc2 ⟨bv, ov + k, none⟩ _ cz hbv)
        clear hr hmn HSr HO hBk hB2 hops hne hkr hlen hin hk2 hc2
        go_wp2_with fail
        refine (unhide HW).mono ?_
        rintro _ _ ⟨rfl, rfl⟩
        clear HW
        go_wp2_with fail
        refine wp_regionP 10 [0, 1, 2, 3, 4, 5, 6] (fun u => u.cell? ⟨B, 2, none⟩ = some (.slice oc k cc) ∧ u.cell? ⟨bv, ov + k, none⟩ = some (.int .i64 z)) (by kernel_rfl) ?_
        have hHeld := (unhide HH) _ (Kept.refl wr)
        repeat
          refine takeP (v := ?_) hHeld (fun u hSu => ?_) ?_
          rotate_left
          · ((try dsimp only at hSu); go_simp) <;> with_reducible rfl
          try simp only [Act.put, List.setIfInBounds_toArray, List.set_cons_zero, List.set_cons_succ]
        refine takeP_end ?_
        refine takeT_one (i := 7) rfl (by kernel_rfl) (fun K hK => ?_)
        go_simp
        refine hK.out _ _ (fun _ => (unhide HH) _ (((Kept.refl wr).drew).alloc _)) ?_
        clear hK K
        try simp only [Act.put, List.setIfInBounds_toArray, List.set_cons_zero, List.set_cons_succ]
        refine takeT_one (i := 8) rfl (by kernel_rfl) (fun K hK => ?_)
        refine step_appR _ rfl (.tmp 29) (.tmp 35) 40 rfl rfl rfl (unhide HR) ?_
        simp only [Act.put, List.setIfInBounds_toArray, List.set_cons_zero, List.set_cons_succ]
        refine hK.out _ _ (fun _ => ⟨m2, unhide HCZ⟩) ?_
        clear hK K HR
        refine takeT_one (i := 9) rfl (by kernel_rfl) (fun K hK => ?_)
        go_simp
        refine hK.out _ _ (fun _ => ⟨m2, unhide HCZ⟩) ?_
        clear hK K
        try simp only [Act.put, List.setIfInBounds_toArray, List.set_cons_zero, List.set_cons_succ]
        refine takeT_one (i := 10) rfl (by kernel_rfl) (fun K hK => ?_)
        go_simp
        refine hK.out _ _ (fun h => absurd rfl h) ?_
        clear hK K
        refine takeT_done (by kernel_rfl) ?_ _
        have HMN2 : Hid (MnAt w (y2.setCell ⟨B, 2, none⟩ (.slice o2 (k + 1) c2)) (k + 1) ((vals.take (k + 1)).map (fun v => ((0 : Int), v)))) := hide (by
          have := unhide HMN
          rw [unhide HBB] at this
          rw [List.take_add_one, unhide HX, List.map_append]
          exact this)
        clear m2 f2 HMN HCZ HH hHeld
        go_wp2_with fail
        go_roundw
        case rel => exact ⟨k + 1, by omega, by go_num, HO2, HMN2⟩
        case measure => simp [intOf]; omega
      · obtain ⟨rfl, rfl⟩ : rp = [] ∧ rr = 3 := by
          have := (unhide hrr).2 (fun h => hin (h z (List.mem_of_getElem? (unhide HX))))
          simpa using this
        have HW := hide ((unhide HWN) z wr)
        rw [decide_eq_false hin] at HW
        have HK9 := hide hkr
        clear hBk hlen hops hne hkr HSr HO hin
        go_wp2_with fail
        refine (unhide HW).mono ?_
        rintro _ _ ⟨rfl, rfl⟩
        go_wp2_with fail
        go_ret2
        exact ⟨_, rfl, ⟨none, 0, rfl, by simp, fun i f h => by simp at h⟩, unhide HK9⟩
    · have hke : k = l := by omega
      have hok : valsOk vals := fun v hv => by
        obtain ⟨i, hi⟩ := List.mem_iff_getElem?.1 hv
        have hil := (List.getElem?_eq_some_iff.1 hi).1
        have := (unhide HO) i (by have := unhide HVL; omega)
        rwa [List.getD_eq_getElem?_getD, hi] at this
      obtain ⟨rfl, rfl⟩ : rp = forgeP e vals ∧ rr = 0 := by simpa using (unhide hrr).1 hok
      have hall : (vals.take k).map (fun v => ((0 : Int), v)) = vals.map (fun v => ((0 : Int), v)) := by rw [hke, unhide HVL, List.take_length]
      obtain ⟨oc, cc, hBk, hlen, hops, hne, hkr⟩ := unhide HSr
      rw [hall] at hlen hops
      obtain ⟨o2, c2, y2, hr, hk2, hB2, -, hmn⟩ := MnAt.app hBk hlen hops hne hkr #[.int .i64 11, .int .i64 1, .int .i64 12, .int .i64 0] 2 [(11, 1), (12, 0)] rfl rfl (by omega)
      have hG : (mainS vals).code = vals.map (fun v => ((0 : Int), v)) ++ [(11, 1), (12, 0)] := rfl
      rw [← hG] at hmn
      have HR := hide hr
      obtain ⟨o3, c3, hB3, hlen3, hops3, -, hk3⟩ := hmn
      have hcd := hops3.code (by rw [hlen3]; omega)
      rw [unhide HBB] at hBk hB2 hB3 hops3 hk3 hcd
      have x2 := cell_lays hBk 2
      have m2 := cell_lays hB2 2
      have f2 := frozen_lays hB2 2
      have HB3 := hide hB3
      have HCD := hide hcd
      have HK3 := hide hk3
      have HQ := hide hlen3
      have hlt2 : B < y2.heap.size := (Array.getElem?_eq_some_iff.1 hB2).1
      clear hr hok hall HSr HO hBk hlen hops hne hkr hk2 hB2 hG hB3 hcd hk3 hlen3 hops3 hlt
      subst hke
      go_wp2_with (at_builtin; refine unhide ?_)
      refine hide ?_
      refine wpList_appR _ rfl (.tmp 39) (.tmp 42) 40 rfl rfl rfl (unhide HR) ?_
      clear HR
      go_wp2_with fail
      generalize y2.setCell ⟨B, 2, none⟩ (.slice o2 (k + 2) c2) = wm at HB3 HCD HK3 ⊢
      clear x2 m2 f2 hlt2
      have x0 := cell_lays (unhide HB3) 0
      have x1 := cell_lays (unhide HB3) 1
      have x2 := cell_lays (unhide HB3) 2
      simp only [List.getElem?_toArray, List.getElem?_cons_zero, List.getElem?_cons_succ] at x0 x1 x2
      refine wp_region_held_drew (S := fun y => Kept wm y) (by kernel_rfl) ((Kept.refl wm).drew) (fun hHeld => ?_)
      refine planY [0, 1, 2, 3] ?_
      repeat
        refine takeY (v := ?_) hHeld (fun u hSu => ?_) ?_
        rotate_left
        · (have y0 := Kept.cell hSu x0; have y1 := Kept.cell hSu x1; have y2 := Kept.cell hSu x2; (try dsimp only at y0 y1 y2); go_simp) <;> with_reducible rfl
        try simp only [Act.put, List.setIfInBounds_toArray, List.set_cons_zero, List.set_cons_succ]
      refine endY ?_
      refine take_oneF (i := 4) rfl (by kernel_rfl) (fun K hK => ?_)
      go_simp
      refine ((unhide HFD) _ ((unhide HK3).drew)).mono ?_
      rintro _ w5 ⟨cv, rfl, hcv, hk5⟩
      obtain ⟨o6, c6, rfl, _, _⟩ := id hcv
      have hk6 : Kept wm w5 := ((Kept.refl wm).drew).trans hk5
      refine hK.out _ _ hk6 (fun hHeld => ?_)
      have HC5 := hide hcv
      have HK5 := hide hk6
      generalize hF : (fnS e k).code.length = M at *
      have HFL := hide hF
      clear hcv hk5 hk6 hF hK K x0 x1 x2
      try simp only [Act.put, List.setIfInBounds_toArray, List.set_cons_zero, List.set_cons_succ]
      refine take_oneF (i := 5) rfl (by kernel_rfl) (fun K hK => ?_)
      go_simp
      refine hK.out _ _ (Kept.alloc hHeld _) (fun hHeld => ?_)
      clear hK K
      try simp only [Act.put, List.setIfInBounds_toArray, List.set_cons_zero, List.set_cons_succ]
      refine planY [6, 7] ?_
      repeat
        refine takeY (v := ?_) hHeld (fun u hSu => ?_) ?_
        rotate_left
        · go_simp <;> with_reducible rfl
        try simp only [Act.put, List.setIfInBounds_toArray, List.set_cons_zero, List.set_cons_succ]
      refine endY ?_
      refine wpAnyH_done (by kernel_rfl) ?_ _
      clear hHeld
      go_wp2_with fail
      go_ret2
      refine ⟨_, rfl, ?_, ((unhide HK3).trans (unhide HK5)).alloc _⟩
      have hl6 : (w5.alloc (.cells #[.int .i64 0, .int .i64 0, .slice o3 (k + 2) c3, .int .i64 k, .int .i64 k, .slice o6 M c6] 42)).heap[w5.heap.size]? = some (.cells #[.int .i64 0, .int .i64 0, .slice o3 (k + 2) c3, .int .i64 k, .int .i64 k, .slice o6 M c6] 42) := lays_new rfl
      have hk7 := (Kept.refl w5).alloc (.cells #[.int .i64 0, .int .i64 0, .slice o3 (k + 2) c3, .int .i64 k, .int .i64 k, .slice o6 M c6] 42)
      refine ⟨some ⟨w5.heap.size, 0, none⟩, 2, rfl, by simp [forgeP], fun i f h => ?_⟩
      match i, h with
      | 0, h =>
        obtain rfl : mainS vals = f := by simpa [forgeP] using h
        exact ⟨_, _, .slice o3 (k + 2) c3, rfl, cell_lays hl6 0, cell_lays hl6 1, cell_lays hl6 2, (((unhide HCD).kept (unhide HK5)).kept hk7).code⟩
      | 1, h =>
        obtain rfl : fnS e k = f := by
          have h2 : fnS e vals.length = f := by simpa [forgeP] using h
          rw [← h2, ← unhide HVL]
        exact ⟨_, _, .slice o6 M c6, rfl, cell_lays hl6 3, cell_lays hl6 4, cell_lays hl6 5, ((unhide HC5).kept hk7).code⟩
      | i + 2, h => simp [forgeP] at h
theorem refForgeProg_any (e : List (Int × Int)) (vals : List Int) (v vv : Value) (w : World) (he : NodesAt w v e) (hv : IntsW w vv vals) :
    Calls Tryz.prog 16 #[v, vv] w (PgPost (pgS e vals).1 (pgS e vals).2 w) := by
  obtain ⟨oa, cap, rfl, _, _⟩ := id he
  obtain ⟨ob, cb, rfl, _, _⟩ := id hv
  have HEX := hide (exprError_any e _ vals.length w he)
  unfold pgS
  by_cases hz : exErrS e vals.length = 0
  · rw [if_pos hz]
    rw [hz] at HEX
    have hg := ExG.of hz
    have h4 := hg.hi
    have hiff : vals.all (fun v => decide (0 ≤ v ∧ v ≤ 999)) = true ↔ valsOk vals := by simp [valsOk]
    refine refForgeProg_go e vals oa ob _ cap _ cb w hv rfl (by omega) HEX (hide fun u hu => forged_any e _ _ u (he.kept hu) hg.len hg.one hg.kinds) _ _ (hide ⟨fun h => ?_, fun h => ?_⟩)
    · rw [if_pos (hiff.2 h)]
    · rw [if_neg (fun c => h (hiff.1 c))]
  · rw [if_neg hz]
    exact refForgeProg_bad e oa ob _ cap _ cb w HEX hz
def placesD (H : List Int) : Nat → DataW Unit
  | 0 => .map []
  | k + 1 => if 0 ≤ H.getD k 0 then (placesD H k).put (.int .i64 k) (.lit (.int .i64 (placeS H k))) else placesD H k
theorem key_is (a : Int) : WideAt.IsKeyLit (Lit.int .i64 a) := trivial
theorem key_ne {a b : Nat} (h : a ≠ b) : Lit.int .i64 (a : Int) ≠ Lit.int .i64 (b : Int) := by
  intro e
  simp only [Lit.int.injEq, true_and] at e
  omega
theorem placesD_tidy (H : List Int) : ∀ n, Tidy (placesD H n)
  | 0 => tidy_empty
  | n + 1 => by
    unfold placesD
    split
    · exact (placesD_tidy H n).put (key_is _) _
    · exact placesD_tidy H n
theorem placesD_has (H : List Int) (j : Nat) : ∀ n, Maps.has (placesD H n) (.int .i64 j) = decide (j < n ∧ 0 ≤ H.getD j 0)
  | 0 => by simp [placesD, Maps.has]
  | n + 1 => by
    have ih := placesD_has H j n
    unfold placesD
    by_cases hj : j = n
    · subst hj
      by_cases hs : 0 ≤ H.getD j 0
      · rw [if_pos hs, has_put_same (placesD_tidy H j).isMap (key_is _)]; exact (decide_eq_true ⟨Nat.lt_succ_self _, hs⟩).symm
      · rw [if_neg hs, ih]; simp only [hs, and_false]
    · have e : decide (j < n + 1 ∧ 0 ≤ H.getD j 0) = decide (j < n ∧ 0 ≤ H.getD j 0) := by
        apply decide_eq_decide.2
        omega
      rw [e]
      split
      · rw [has_put_other (key_ne hj), ih]
      · exact ih
theorem placesD_at (H : List Int) (j : Nat) (hs : 0 ≤ H.getD j 0) (z : DataW Unit) : ∀ n, j < n → (placesD H n).atKey (.int .i64 j) z = .lit (.int .i64 (placeS H j))
  | 0, h => by omega
  | n + 1, h => by
    unfold placesD
    by_cases hj : j = n
    · subst hj
      rw [if_pos hs, atKey_put_same (placesD_tidy H j).isMap (key_is _)]
    · have ih := placesD_at H j hs z n (by omega)
      split
      · rw [atKey_put_other (key_ne hj), ih]
      · exact ih
theorem placesD_size (H : List Int) : ∀ n, Maps.size (placesD H n) = placeS H n
  | 0 => rfl
  | n + 1 => by
    have ih := placesD_size H n
    have hh := placesD_has H n n
    unfold placesD placeS
    split
    · rw [size_put (placesD_tidy H n), hh, ih]; simp
    · exact ih
theorem lawInt : Keyed Tryz.prog 3 := int_keyed Tryz.underlying3
theorem zeroInt (w : World) : (zeroValue 3).run Tryz.prog w = .ok (.int .i64 0) w := by kernel_rfl
theorem make_hint (n : Nat) (u : World) : (Instr.makeMap 118 (some (.int .i64 n))).run Tryz.prog u = .ok (.map (some u.heap.size)) (u.alloc (.map #[] 0)) := by
  simp [Instr.makeMap, run_underlying Tryz.underlying118, asInt, asIntOf, Result.andThen]
def MapAt (w : World) (B : Nat) (H : List Int) : Prop := w.ownsMap Tryz.prog 3 (plainElem (H := Unit) Tryz.prog 3) B H.length (placesD H H.length)
theorem MapAt.kept {w w' : World} {B : Nat} {H : List Int} (h : MapAt w B H) (k : Kept w w') : MapAt w' B H := by
  obtain ⟨es, clock, hb, F, hs, hD⟩ := h
  exact ⟨es, clock, lays_kept k hb, F, hs, hD⟩
theorem IntsAt.opened {w : World} {v : Value} {l : List Int} (h : IntsAt w v l) (h0 : 0 < l.length) : ∃ b o cap, v = .slice (some ⟨b, o, none⟩) l.length cap ∧ ∀ j, j < l.length → w.cell? ⟨b, o + j, none⟩ = some (.int .i64 (l.getD j 0)) := by
  obtain ⟨oa, cap, rfl, _, hi⟩ := h
  obtain ⟨b, o, rfl, _⟩ := hi 0 _ (getD_of_lt l 0 0 h0)
  refine ⟨b, o, cap, rfl, fun j hj => ?_⟩
  obtain ⟨b', o', e, hc⟩ := hi j _ (getD_of_lt l j 0 hj)
  obtain ⟨rfl, rfl⟩ := (by simpa using e : b = b' ∧ o = o')
  exact hc
theorem places_any (H : List Int) (b o m cap : Nat) (w : World) (hm : m = H.length) (hm24 : m ≤ 24) (hc : ∀ j, j < m → w.cell? ⟨b, o + j, none⟩ = some (.int .i64 (H.getD j 0))) :
    Calls Tryz.prog 70 #[.slice (some ⟨b, o, none⟩) m cap] w fun e w' => e = .returned (.map (some w.heap.size)) ∧ MapAt w' w.heap.size H ∧ Kept w w' := by
  have hmm := make_hint m
  have HM := hide hm
  have HC := hide hc
  clear hm hc
  go_enter Tryz.func70, Tryz.ntmps70
  go_wp2
  go_loopw [11] (fun s wr => ∃ k : Nat, k ≤ m ∧ s = .int .i64 k ∧ Hid (wr.ownsMap Tryz.prog 3 (plainElem (H := Unit) Tryz.prog 3) w.heap.size k (placesD H k)) ∧ Hid (Kept w wr)) (fun s _ => m - (intOf s).toNat)
  case atStart => exact ⟨0, Nat.zero_le _, rfl, World.ownsMap_made _ _ _ _, (Kept.refl _).alloc _⟩
  case round =>
    obtain ⟨k, hkm, rfl, HO, HKr⟩ := hrel
    by_cases hlt : k < m
    · have ck := (unhide HKr).cell ((unhide HC) k hlt)
      by_cases hs : 0 ≤ H.getD k 0
      · have hsz : (Maps.size (placesD H k) : Int) = (placeS H k : Nat) := by rw [placesD_size]
        have hle := placeS_le H k
        have hD : placesD H (k + 1) = (placesD H k).put (.int .i64 k) (.lit (.int .i64 (placeS H k))) := by
          conv => lhs; unfold placesD
          rw [if_pos hs]
        have hwf : (Lit.int .i64 (Maps.size (placesD H k) : Int)).wf = true := WalkArith.wf_i64 (by omega)
        have hown := unhide HO
        generalize H.getD k 0 = z at ck hs
        have HD := hide hD
        have HSZ := hide hsz
        clear hD hle
        go_wp2_with (first
          | (at_len; refine wpList_len_own _ rfl _ 118 rfl 3 3 Tryz.underlying118 _ w.heap.size k _ rfl hown ?_)
          | (at_mapUpdate; refine wpList_mapUpdate_own _ rfl _ _ _ 118 rfl 3 3 lawInt Tryz.underlying118 _ w.heap.size k _ rfl hown (by unfold maxLen; omega) _ _ _ rfl rfl (keyOf_int_mk Tryz.underlying3 (WalkArith.wf_i64 (by omega))) _ [] (plainElem_int Tryz.underlying3 hwf) ?_; intro w1 hown1 hgrow1)
          | go_in)
        have HO1 := hide hown1
        have HK1 := hide (Below.grown (unhide HKr) hgrow1 (unhide HKr).size (fun j hj => by cases hj; exact Nat.le_refl _))
        clear hown1 hgrow1 hown
        go_roundw
        case rel => exact ⟨k + 1, by omega, by go_num, by rw [unhide HD, ← unhide HSZ]; exact HO1, HK1⟩
        case measure => simp [intOf]; omega
      · have hD : placesD H (k + 1) = placesD H k := by
          conv => lhs; unfold placesD
          rw [if_neg hs]
        generalize H.getD k 0 = z at ck hs
        have HD := hide hD
        clear hD
        go_wp2
        go_roundw
        case rel => exact ⟨k + 1, by omega, by go_num, by rw [unhide HD]; exact (unhide HO).mono (Nat.le_succ _), HKr⟩
        case measure => simp [intOf]; omega
    · have hke : k = H.length := by have := unhide HM; omega
      have HE := hide hke
      clear hke
      go_wp2
      go_ret
      refine ⟨rfl, ?_, unhide HKr⟩
      have := unhide HO
      rw [unhide HE] at this
      exact this
end Go.Proofs.YtjioipkfnekigaaGreatDoor
