/- StateD0, StateP, EngG, EngH, EngI -/
import Derived.Test.YtokhibfenccijaaGreatDoorKB15
import Derived.Test.YtokhibfenccijaaGreatDoorKB19
import Derived.Test.YtokhibfenccijaaGreatDoorKB06
import Derived.Deep.RegionHeld3
import Derived.Defers
import Derived.Recover
import Derived.Test.YtokhibfenccijaaGreatDoorKB25
import Derived.Test.YtokhibfenccijaaGreatDoorKB01
set_option maxRecDepth 100000
set_option maxHeartbeats 8000000
namespace Go.Proofs.YtokhibfenccijaaGreatDoor
open Go.RowKit
def FrV (w : World) (v : Value) (x : Fr) : Prop := ∃ vl vs, v = .agg #[.int .i64 x.fn, .int .i64 x.at_, vl, vs] ∧ IntsW w vl x.locals ∧ IntsW w vs x.stack
def FbV (w : World) (v : Value) (b : Fb) : Prop := ∃ vf, v = .agg #[vf, .int .i64 b.caller] ∧ FramesAt w vf b.frames
theorem FrV.kept {w w' : World} (h : Kept w w') {v : Value} {x : Fr} (hx : FrV w v x) : FrV w' v x := by
  obtain ⟨vl, vs, e, h1, h2⟩ := hx; exact ⟨vl, vs, e, h1.kept h, h2.kept h⟩
theorem FbV.kept {w w' : World} (h : Kept w w') {v : Value} {x : Fb} (hx : FbV w v x) : FbV w' v x := by
  obtain ⟨vl, e, h1⟩ := hx; exact ⟨vl, e, h1.kept h⟩
def HLen (p : List Fn) : Prop := ∀ k, k < p.length → (hgt p k).length = (codeOf p k).length
theorem frameB_mk {p : List Fn} {x : Fr} {i : Nat} (hf : x.fn = i) (hi : i < p.length) : frameB p x = (decide ((x.locals.length : Int) = (p.getD i Fn.zero).locals) && (ixB x.at_ (codeOf p i).length && decide (0 ≤ (hgt p i).getD x.at_.toNat 0))) := by
  unfold frameB hAt
  rw [hf, ixB_true (by omega) (by omega), Bool.true_and, Int.toNat_natCast]
structure InFrame (p : List Fn) (x : Fr) : Prop where
  fn0 : 0 ≤ x.fn
  fn1 : x.fn < p.length
  at0 : 0 ≤ x.at_
  at1 : x.at_ < (codeOf p x.fn.toNat).length
theorem InFrame.of {p : List Fn} {x : Fr} (h : frameB p x = true) : InFrame p x := by
  simp only [frameB, Bool.and_eq_true, ixB_iff, decide_eq_true_eq] at h
  exact ⟨h.1.1, h.1.2, h.2.2.1.1, h.2.2.1.2⟩
theorem wrap_tiny (a : Int) (h1 : -17592186044416 ≤ a) (h2 : a ≤ 17592186044416) : IntKind.i64.wrap a = a := by
  rw [IntKind.wrap_i64]
  omega
def HBound (p : List Fn) : Prop := ∀ k a, k < p.length → -1000 ≤ (hgt p k).getD a 0 ∧ (hgt p k).getD a 0 ≤ 1000
def left (e : Int) : Ending := .panicked [{ v := .iface 22 (.int .i64 e), recovered := false }]
def FlagsAt (w : World) (b o : Nat) (l : List Bool) : Prop := ∀ i z, l[i]? = some z → w.cell? ⟨b, o + i, none⟩ = some (.bool z)
theorem ask_all (e : Int) (l : List Bool) (b o n cap : Nat) (w : World) (hn : n = l.length) (hl : l.length ≤ 1000) (hf : FlagsAt w b o l) (ha : ∀ z, z ∈ l → z = true) :
    Calls Tryz.prog 156 #[.int .i64 e, .slice (some ⟨b, o, none⟩) n cap] w fun en w' => en = .returned (.tuple #[]) ∧ w = w' := by
  subst hn
  have HF := hide hf
  have HA := hide ha
  clear hf ha
  go_enter Tryz.func156, Tryz.ntmps156
  go_wp2
  go_loopw [8] (fun s8 wr => ∃ k : Nat, k ≤ l.length ∧ s8 = .int .i64 k ∧ Hid (w = wr)) (fun s8 _ => l.length - (intOf s8).toNat)
  case atStart => exact ⟨0, Nat.zero_le _, rfl, rfl⟩
  case round =>
    obtain ⟨k, hkm, rfl, HW⟩ := hrel
    have hw := unhide HW
    subst hw
    clear HW
    by_cases hlt : k < l.length
    · have hc := (unhide HF) k _ (getD_of_lt l k false hlt)
      have ht : l.getD k false = true := (unhide HA) _ (List.mem_of_getElem? (getD_of_lt l k false hlt))
      rw [ht] at hc
      clear ht
      go_wp2
      go_roundw
      case rel => exact ⟨k + 1, by omega, by go_num, trivial⟩
      case measure => simp [intOf]; omega
    · go_wp2
      go_end0
      exact ⟨rfl, rfl⟩
theorem ask_not (e : Int) (l : List Bool) (b o n cap : Nat) (w : World) (hn : n = l.length) (hl : l.length ≤ 1000) (hf : FlagsAt w b o l) (ha : ∃ z, z ∈ l ∧ z = false) :
    Calls Tryz.prog 156 #[.int .i64 e, .slice (some ⟨b, o, none⟩) n cap] w fun en w' => en = left e ∧ w = w' := by
  subst hn
  have HF := hide hf
  have HA := hide ha
  clear hf ha
  go_enter Tryz.func156, Tryz.ntmps156
  go_wp2
  go_loopw [8] (fun s8 wr => ∃ k : Nat, k ≤ l.length ∧ s8 = .int .i64 k ∧ Hid (∀ i, i < k → l.getD i false = true) ∧ Hid (w = wr)) (fun s8 _ => l.length - (intOf s8).toNat)
  case atStart => exact ⟨0, Nat.zero_le _, rfl, (fun i hi => by omega), rfl⟩
  case round =>
    obtain ⟨k, hkm, rfl, HT, HW⟩ := hrel
    have hw := unhide HW
    subst hw
    clear HW
    by_cases hlt : k < l.length
    · have hc := (unhide HF) k _ (getD_of_lt l k false hlt)
      by_cases ht : l.getD k false = true
      · rw [ht] at hc
        have HT2 := hide ht
        clear ht
        go_wp2
        go_roundw
        case rel =>
          refine ⟨k + 1, by omega, by go_num, ?_, trivial⟩
          intro i hi
          by_cases e : i = k
          · subst e; exact unhide HT2
          · exact (unhide HT) i (by omega)
        case measure => simp [intOf]; omega
      · have ht' : l.getD k false = false := by simpa using ht
        rw [ht'] at hc
        clear ht ht'
        go_wp2
        first | exact ⟨rfl, rfl⟩ | (refine bodyPost_panic ?_; exact ⟨rfl, rfl⟩) | (simp [bodyPost, left]; done)
    · obtain ⟨z, hz, hzf⟩ := unhide HA
      obtain ⟨i, hi, rfl⟩ := List.getElem_of_mem hz
      have := (unhide HT) i (by omega)
      simp [List.getD, hi] at this
      rw [this] at hzf
      cases hzf
theorem flags_one {w : World} {b : Nat} {z : Bool} (h : w.cell? ⟨b, 0, none⟩ = some (.bool z)) : FlagsAt w b 0 [z] := fun i y hy => by
  cases i with
  | zero => simp at hy; subst hy; exact h
  | succ i => simp at hy
theorem flags_two {w : World} {b : Nat} {z y : Bool} (h : w.cell? ⟨b, 0, none⟩ = some (.bool z)) (h' : w.cell? ⟨b, 1, none⟩ = some (.bool y)) : FlagsAt w b 0 [z, y] := fun i u hu => by
  match i, hu with
  | 0, hu => simp at hu; subst hu; exact h
  | 1, hu => simp at hu; subst hu; exact h'
theorem ask1_ok (e : Int) (b cap : Nat) (w : World) (h : w.cell? ⟨b, 0, none⟩ = some (.bool true)) :
    Calls Tryz.prog 156 #[.int .i64 e, .slice (some ⟨b, 0, none⟩) 1 cap] w fun en w' => en = .returned (.tuple #[]) ∧ w = w' :=
  ask_all e [true] b 0 1 cap w rfl (by decide) (flags_one h) (by simp)
theorem ask1_no (e : Int) (b cap : Nat) (w : World) (h : w.cell? ⟨b, 0, none⟩ = some (.bool false)) :
    Calls Tryz.prog 156 #[.int .i64 e, .slice (some ⟨b, 0, none⟩) 1 cap] w fun en w' => en = left e ∧ w = w' :=
  ask_not e [false] b 0 1 cap w rfl (by decide) (flags_one h) ⟨false, by simp, rfl⟩
theorem ask2_ok (e : Int) (b cap : Nat) (w : World) (h : w.cell? ⟨b, 0, none⟩ = some (.bool true)) (h' : w.cell? ⟨b, 1, none⟩ = some (.bool true)) :
    Calls Tryz.prog 156 #[.int .i64 e, .slice (some ⟨b, 0, none⟩) 2 cap] w fun en w' => en = .returned (.tuple #[]) ∧ w = w' :=
  ask_all e [true, true] b 0 2 cap w rfl (by decide) (flags_two h h') (by simp)
theorem ask2_no (e : Int) (b cap : Nat) (y : Bool) (w : World) (h : w.cell? ⟨b, 0, none⟩ = some (.bool false)) (h' : w.cell? ⟨b, 1, none⟩ = some (.bool y)) :
    Calls Tryz.prog 156 #[.int .i64 e, .slice (some ⟨b, 0, none⟩) 2 cap] w fun en w' => en = left e ∧ w = w' :=
  ask_not e [false, y] b 0 2 cap w rfl (by simp) (flags_two h h') ⟨false, by simp, rfl⟩
theorem ask2_no' (e : Int) (b cap : Nat) (y : Bool) (w : World) (h : w.cell? ⟨b, 0, none⟩ = some (.bool y)) (h' : w.cell? ⟨b, 1, none⟩ = some (.bool false)) :
    Calls Tryz.prog 156 #[.int .i64 e, .slice (some ⟨b, 0, none⟩) 2 cap] w fun en w' => en = left e ∧ w = w' :=
  ask_not e [y, false] b 0 2 cap w rfl (by simp) (flags_two h h') ⟨false, by simp, rfl⟩
def askEnd (e : Int) (ok : Bool) : Ending := if ok = true then .returned (.tuple #[]) else left e
theorem sIsIndex_any (i n : Int) (w : World) : Calls Tryz.prog 158 #[.int .i64 i, .int .i64 n] w fun e w' => e = .returned (.bool (ixB i n)) ∧ w = w' := by
  by_cases h1 : 0 ≤ i
  · by_cases h2 : i < n
    · rw [ixB_true h1 h2]
      go_enter Tryz.func158, Tryz.ntmps158
      go_wp2
      go_ret
      exact ⟨rfl, rfl⟩
    · rw [ixB_false (fun h => h2 h.2)]
      have hd : decide (i < n) = false := decide_eq_false h2
      go_enter Tryz.func158, Tryz.ntmps158
      go_wp2
      go_ret
      exact ⟨by rw [← hd]; rfl, rfl⟩
  · rw [ixB_false (fun h => h1 h.1)]
    have hd : decide (0 ≤ i) = false := decide_eq_false h1
    go_enter Tryz.func158, Tryz.ntmps158
    go_wp2
    go_ret
    exact ⟨rfl, rfl⟩
def HgtsAt (w : World) (v : Value) (p : List Fn) : Prop :=
  ∃ b o cap, v = .slice (some ⟨b, o, none⟩) p.length cap ∧ ∀ k, k < p.length → ∃ u, w.cell? ⟨b, o + k, none⟩ = some u ∧ IntsAt w u (hgt p k)
theorem HgtsAt.kept {w w' : World} (h : Kept w w') {v : Value} {p : List Fn} (hv : HgtsAt w v p) : HgtsAt w' v p := by
  obtain ⟨b, o, cap, e, hi⟩ := hv
  refine ⟨b, o, cap, e, fun k hk => ?_⟩
  obtain ⟨u, h1, h2⟩ := hi k hk
  exact ⟨u, h.cell h1, h2.kept h⟩
def JudgeV (w : World) (v : Value) (p : List Fn) (s : St) : Prop :=
  ∃ vF vO vp vh, v = .agg #[vF, .int .i64 s.now, vO, vp, vh] ∧ FibersAt w vF s.fibers ∧ IntsW w vO s.out ∧ ProgAt w vp p ∧ HgtsAt w vh p
theorem JudgeV.kept {w w' : World} (h : Kept w w') {v : Value} {p : List Fn} {s : St} (hv : JudgeV w v p s) : JudgeV w' v p s := by
  obtain ⟨vF, vO, vp, vh, e, h1, h2, h3, h4⟩ := hv
  exact ⟨vF, vO, vp, vh, e, h1.kept h, h2.kept h, h3.kept h, h4.kept h⟩
def nameB (n : Int) (len : Nat) : Bool := decide (n = -1) || ixB n len
theorem nameB_inB (n : Int) (len : Nat) : nameB n len = inB n (-1) ((len : Int) - 1) := by
  rw [Bool.eq_iff_iff, inB_iff]
  simp only [nameB, Bool.or_eq_true, decide_eq_true_eq, ixB_iff]
  omega
theorem mayName_any (p : List Fn) (s : St) (v : Value) (n : Int) (w : World) (hj : JudgeV w v p s) :
    Calls Tryz.prog 157 #[v, .int .i64 n] w fun e w' => e = .returned (.bool (nameB n s.fibers.length)) ∧ Kept w w' := by
  obtain ⟨vF, vO, vp, vh, rfl, h1, _, _, _⟩ := hj
  obtain ⟨oa, cap, rfl, hlen, _⟩ := h1
  unfold nameB
  generalize s.fibers.length = m at *
  by_cases hn : n = -1
  · subst hn
    go_enter Tryz.func157, Tryz.ntmps157
    go_wp2
    go_ret
    exact ⟨rfl, (Kept.refl w).alloc _⟩
  · have hb : (n == -1) = false := by rw [beq_eq_false_iff_ne]; exact hn
    rw [decide_eq_false hn, Bool.false_or]
    clear hn
    go_enter Tryz.func157, Tryz.ntmps157
    go_wp2_with (go_at_call 158; refine (sIsIndex_any _ _ _).mono ?_; rintro e w' ⟨rfl, rfl⟩)
    go_ret
    exact ⟨rfl, (Kept.refl w).alloc _⟩
theorem height_any (p : List Fn) (s : St) (v u : Value) (x : Fr) (w : World) (hj : JudgeV w v p s) (hx : FrV w u x) (hl : HLen p) (hin : InFrame p x) :
    Calls Tryz.prog 159 #[v, u] w fun e w' => e = .returned (.int .i64 (hAt p x)) ∧ Kept w w' := by
  obtain ⟨vF, vO, vp, vh, rfl, h1, h2, h3, h4⟩ := hj
  obtain ⟨of, cf, rfl, _, _⟩ := h1
  obtain ⟨oo, co, rfl, _, _⟩ := h2
  obtain ⟨op, cp, rfl, hpl, _⟩ := h3
  obtain ⟨b, o, cap, rfl, hh⟩ := h4
  obtain ⟨vl, vs, rfl, _, _⟩ := hx
  obtain ⟨f0, f1, a0, a1⟩ := hin
  obtain ⟨i, hi⟩ : ∃ i : Nat, x.fn = i := ⟨x.fn.toNat, by omega⟩
  obtain ⟨a, ha⟩ : ∃ a : Nat, x.at_ = a := ⟨x.at_.toNat, by omega⟩
  have hip : i < p.length := by omega
  rw [hi, Int.toNat_natCast] at a1
  have hlen := hl i hip
  obtain ⟨uv, c0, hu⟩ := hh i hip
  obtain ⟨oh, ch, rfl, _, hcell⟩ := hu
  obtain ⟨bh, oh2, rfl, d0⟩ := hcell a _ (getD_of_lt (hgt p i) a 0 (by omega))
  unfold hAt
  rw [hi, ha, Int.toNat_natCast, Int.toNat_natCast]
  generalize hz : (hgt p i).getD a 0 = z at *
  have hi1 : (i : Int) < (p.length : Int) := by omega
  have hi0 : (0 : Int) ≤ (i : Int) := by omega
  have ha1 : (a : Int) < ((hgt p i).length : Int) := by omega
  have ha0 : (0 : Int) ≤ (a : Int) := by omega
  generalize (hgt p i).length = m at *
  generalize p.length = n at *
  generalize s.fibers.length = nf at *
  generalize s.out.length = no at *
  have l0 := cell_lt c0
  have l1 := cell_lt d0
  simp only at l0 l1
  clear hh hcell hlen hz
  go_enter Tryz.func159, Tryz.ntmps159
  go_wp2
  go_quiet (fail)
  go_wp2
  go_ret
  exact ⟨rfl, (((Kept.refl w).alloc _).alloc _).drewN _⟩
def EngPost (base bs : Nat) (V : Key → Value) (s : St) (r : St × Int) (w : World) (e : Ending) (w' : World) : Prop :=
  (r.2 = 0 ∧ e = .returned (.tuple #[]) ∧ ∃ V', Moved base bs V s w V' r.1 w') ∨ (r.2 ≠ 0 ∧ e = left r.2 ∧ Past bs V s w w')
theorem giveWay_any (base bs : Nat) (V : Key → Value) (s : St) (i n cp : Nat) (oa : Option Addr) (w : World) (h : OwnVar base w bs V s) (hn : s.now = i) (hi : i < s.fibers.length) :
    Calls Tryz.prog 195 #[eng bs (.slice oa n cp)] w (OnePost base bs V s { setFib s i { fibAt s i with caller := -1 } with now := (fibAt s i).caller } (.tuple #[]) w) := by
  obtain ⟨gF, capF, eF, hrun⟩ := running_own h hn hi oa n cp
  have HT := hide hrun
  have HO := hide h
  have HEF := hide eF
  clear hrun h
  generalize hc : (fibAt s i).caller = c at *
  have HC := hide hc
  clear hc
  go_enter Tryz.func195, Tryz.ntmps195
  go_wp2_with fail
  generalize hwb : w.alloc (.cells #[.pointer (some ⟨bs, 0, none⟩), .slice oa n cp] 170) = wb
  have hkb : Kept w wb := by rw [← hwb]; exact (Kept.refl w).alloc _
  have lB : wb.heap[w.heap.size]? = some (.cells #[.pointer (some ⟨bs, 0, none⟩), .slice oa n cp] 170) := by rw [← hwb]; exact lays_new rfl
  have hob : OwnVar base wb bs V s := (unhide HO).kept hkb
  refine ((unhide HT) wb hob).mono ?_
  rintro e w1 ⟨rfl, hk1⟩
  have ho1 := hob.kept hk1
  have hk01 := hkb.trans hk1
  have l1 := lays_kept hk1 lB
  have b0 : w1.cell? ⟨w.heap.size, 0, none⟩ = some (.pointer (some ⟨bs, 0, none⟩)) := cell_lays l1 0
  obtain ⟨gF', capF', eF', _, k0, k1, kz, _⟩ := ho1.own.fib hi
  rw [unhide HEF] at eF'
  obtain ⟨⟨rfl⟩, -, rfl⟩ := (by simpa using eF' : (gF = gF') ∧ True ∧ capF = capF')
  rw [unhide HC] at k1
  obtain ⟨_, c1, _, cz⟩ := ho1.cells
  have kz1 := kz (i * 2 + 1)
  have cz1 := cz 1
  have hm1 := Moved.setNow ho1 c
  have hm2 := Moved.setCaller hm1.own hi (unhide HEF) (-1)
  have HM := hide ((Moved.of_kept (unhide HO) hk01).trans (hm1.trans hm2))
  have hne : bs ≠ gF := fun e => (unhide HO).off .fibers trivial (by rw [unhide HEF, e]; rfl)
  have hne' : gF ≠ bs := fun e => hne e.symm
  have hBb : bs ≠ w.heap.size := by have := lt_of_block (unhide HO).var; omega
  have hBg : gF ≠ w.heap.size := by have := (((unhide HO).own.piece .fibers trivial).block gF (by rw [unhide HEF]; rfl)).2; omega
  clear hwb hob hk01 hk1 ho1 eF' kz cz hkb lB l1 k0 HT hm1 hm2
  go_upto_region 2 with fail
  go_region
  go_wp2
  go_end0
  exact ⟨rfl, V, (unhide HM).drew⟩
theorem putOut_any (base bs : Nat) (V : Key → Value) (s : St) (n cp : Nat) (oa : Option Addr) (z : Int) (w : World) (h : OwnVar base w bs V s) (ho : s.out.length ≤ 30) :
    Calls Tryz.prog 178 #[eng bs (.slice oa n cp), .int .i64 z] w (EngPost base bs V s (putS s z) w) := by
  obtain ⟨i0, hi0, hz0, hz1, hz2⟩ := info_int
  obtain ⟨_, _, c2, fz⟩ := h.cells
  have hs : w.ownsRow base 3 1 (V .out) s.out.length (ints s.out) := h.own.piece .out trivial
  have hbw := lt_of_block h.var
  have hlow := h.low
  obtain ⟨oo, co, eo, _⟩ := row_slice hs
  have d2 : ∀ o, (w.alloc o).cell? ⟨bs, 2, none⟩ = some (.slice oo s.out.length co) := fun o => by rw [← eo]; exact ((Kept.refl w).alloc o).cell c2
  have HO := hide h
  have HEO := hide eo
  rw [eo] at c2
  have hme : ∀ (e : Int), (Instr.makeInterface 22 (.int .i64 e)).run Tryz.prog w = .ok (.iface 22 (.int .i64 e)) w := fun _ => rfl
  by_cases h30 : s.out.length = 30
  · have hp : putS s z = (St.zero, 2) := by unfold putS; rw [if_pos h30]
    rw [hp]
    rw [h30] at d2
    clear h hp h30 hs c2 fz
    go_enter Tryz.func178, Tryz.ntmps178
    go_wp2
    exact ⟨rfl, Or.inr ⟨by decide, rfl, Past.of_kept ((Kept.refl w).alloc _)⟩⟩
  · have hp : putS s z = ({ s with out := s.out ++ [z] }, 0) := by unfold putS; rw [if_neg h30]
    rw [hp]
    have hb30 : ((s.out.length : Int) == 30) = false := by rw [beq_eq_false_iff_ne]; omega
    generalize hl : s.out = l at *
    have HL := hide hl
    generalize hwb : w.alloc (.cells #[.pointer (some ⟨bs, 0, none⟩), .slice oa n cp] 170) = wb
    have hkb : Kept w wb := by rw [← hwb]; exact (Kept.refl w).alloc _
    have lB : wb.heap[w.heap.size]? = some (.cells #[.pointer (some ⟨bs, 0, none⟩), .slice oa n cp] 170) := by rw [← hwb]; exact lays_new rfl
    have hob : OwnVar base wb bs V s := h.kept hkb
    have hku : Kept wb ((wb.alloc (.cells #[.int .i64 z] 3)).drew) := ((Kept.refl wb).alloc _).drew
    have hou := hob.kept hku
    have hsu : ((wb.alloc (.cells #[.int .i64 z] 3)).drew).ownsRow base 3 1 (V .out) s.out.length (ints s.out) := hou.own.piece .out trivial
    obtain ⟨v', w2, hrun, hown', hgrow, _, hat⟩ := run_append_own_at (P := Tryz.prog) _ base 30 30 3 i0 (.int .i64 0) 1 8 Tryz.underlying30 hi0 hz0 hz1 hz2 rfl (by decide) _ _ _ hsu ⟨wb.heap.size, 0, none⟩ 1 1 [.int .i64 z] rfl (new_one wb _ _) (int_one _) (by unfold maxLen; rw [hl]; omega) (by rw [hl]; omega) (by have := hkb.size; simp; omega)
    have hm := Moved.turnOut hou (l ++ [z]) v' hgrow (by rw [ints_append, List.length_append, ← hl]; exact hown') hat
    obtain ⟨o2, q2, rfl, -⟩ := row_slice hown'
    have hbso : (V .out).ownBlock ≠ some bs := h.off .out trivial
    have g2 : w2.cell? ⟨bs, 2, none⟩ = some (.slice oo l.length co) := by
      have := hou.cells.2.2.1
      rw [eo] at this
      exact hgrow.cell this (fun e => hbso e.symm)
    have gz : w2.frozen? ⟨bs, 2, none⟩ = false := (World.frozen?_of_block (hgrow.block bs (by have := hkb.size; simp; omega) (fun e => hbso e.symm))).trans (hou.cells.2.2.2 2)
    rw [eo] at hrun
    rw [hl] at hrun
    have HRUN := hide hrun
    rw [hl] at hm
    have HM := hide (((Moved.of_kept h hkb).trans (Moved.of_kept hob hku)).trans hm)
    have b0 : wb.cell? ⟨w.heap.size, 0, none⟩ = some (.pointer (some ⟨bs, 0, none⟩)) := cell_lays lB 0
    have d2' : wb.cell? ⟨bs, 2, none⟩ = some (.slice oo l.length co) := by rw [← hwb]; exact d2 _
    have e2 : ∀ o, (wb.alloc o).cell? ⟨bs, 2, none⟩ = some (.slice oo l.length co) := fun o => ((Kept.refl wb).alloc o).cell d2'
    have e0 : ∀ o, (wb.alloc o).cell? ⟨w.heap.size, 0, none⟩ = some (.pointer (some ⟨bs, 0, none⟩)) := fun o => ((Kept.refl wb).alloc o).cell b0
    have b2 : w2.cell? ⟨w.heap.size, 0, none⟩ = some (.pointer (some ⟨bs, 0, none⟩)) := hgrow.cell (hku.cell b0) (fun e => h.own.new_off (.inl (Nat.le_refl _)) .out trivial e.symm)
    have HWB := hide hwb
    clear h hp h30 hs c2 fz d2 hwb lB hob hou hsu hown' hgrow hat hm hrun hku hl
    go_enter Tryz.func178, Tryz.ntmps178
    go_upto_region 1 with fail
    rw [unhide HWB]
    go_upto_region 3 with fail
    go_region_law ((refine step_appR _ (by rfl) _ _ 30 (by rfl) (by rfl) (by rfl) (unhide HRUN) ?_))
    all_goals go_wp2
    all_goals go_end0
    all_goals exact Or.inl ⟨rfl, rfl, _, unhide HM⟩
theorem yield_any (base bs : Nat) (V : Key → Value) (s : St) (i n cp : Nat) (oa : Option Addr) (z : Int) (w : World) (h : OwnVar base w bs V s) (hn : s.now = i) (hi : i < s.fibers.length)
    (hc : (fibAt s i).caller ≠ -1 → ∃ m : Nat, (fibAt s i).caller = m ∧ m ≠ i ∧ Runs s m) :
    Calls Tryz.prog 177 #[eng bs (.slice oa n cp), .int .i64 z] w (EngPost base bs V s (yieldS s i z) w) := by
  obtain ⟨gF, capF, eF, hrun⟩ := running_own h hn hi oa n cp
  have HT := hide hrun
  have HO := hide h
  have HEF := hide eF
  have hbw : base ≤ w.heap.size := by have := h.low; have := lt_of_block h.var; omega
  have HW := hide (fun u V' (hu : OwnVar base u bs V' s) => giveWay_any base bs V' s i n cp oa u hu hn hi)
  generalize hcc : (fibAt s i).caller = c at *
  have HCC := hide hcc
  have HC := hide hc
  clear hrun h hc hcc
  by_cases hm1 : c = -1
  · have hp : yieldS s i z = (St.zero, 7) := by unfold yieldS; rw [if_pos (by rw [unhide HCC]; exact hm1)]
    rw [hp]
    subst hm1
    clear hp
    go_enter Tryz.func177, Tryz.ntmps177
    go_wp2_with fail
    generalize hwb : w.alloc (.cells #[.pointer (some ⟨bs, 0, none⟩), .slice oa n cp] 170) = wb
    have hkb : Kept w wb := by rw [← hwb]; exact (Kept.refl w).alloc _
    have hob : OwnVar base wb bs V s := (unhide HO).kept hkb
    refine ((unhide HT) wb hob).mono ?_
    rintro e w1 ⟨rfl, hk1⟩
    have ho1 := hob.kept hk1
    obtain ⟨gF', capF', eF', _, k0, k1, kz, _⟩ := ho1.own.fib hi
    rw [unhide HEF] at eF'
    obtain ⟨⟨rfl⟩, -, rfl⟩ := (by simpa using eF' : (gF = gF') ∧ True ∧ capF = capF')
    rw [unhide HCC] at k1
    have HB : Hid (Past bs V s w w1) := hide (Past.of_kept (hkb.trans hk1))
    clear hwb hob hkb hk1 ho1 kz k0 eF'
    go_wp2
    exact ⟨rfl, Or.inr ⟨by decide, rfl, unhide HB⟩⟩
  · obtain ⟨m, hcm, hmi, hrm⟩ := (unhide HC) hm1
    have hp : yieldS s i z = (pushV (gaveWay s i) m z, 0) := by unfold yieldS; rw [if_neg (by rw [unhide HCC]; exact hm1), unhide HCC, hcm]
    rw [hp]
    subst hcm
    have hb1 : ((m : Int) == -1) = false := by rw [beq_eq_false_iff_ne]; omega
    have HR2 := hide (way_runs hmi hrm)
    have HN2 : Hid ((gaveWay s i).now = m) := hide (by show (fibAt s i).caller = _; rw [unhide HCC])
    have HP : Hid (∀ V2 u, OwnVar base u bs V2 (gaveWay s i) → Calls Tryz.prog 163 #[eng bs (.slice oa n cp), .slice (some ⟨u.heap.size, 0, none⟩) 1 1] (u.alloc (.cells #[.int .i64 z] 3)) (OnePost base bs V2 (gaveWay s i) (pushV (gaveWay s i) m z) (.tuple #[]) (u.alloc (.cells #[.int .i64 z] 3)))) := hide (fun V2 u hu =>
      engPut_any base bs V2 (gaveWay s i) m n cp u.heap.size oa z _ (hu.alloc _) (unhide HN2) (unhide HR2) (cell_lays (lays_new rfl) 0))
    have HWS : Hid (∀ u V', OwnVar base u bs V' s → Calls Tryz.prog 195 #[eng bs (.slice oa n cp)] u (OnePost base bs V' s (gaveWay s i) (.tuple #[]) u)) := hide (fun u V' hu => by
      have := giveWay_any base bs V' s i n cp oa u hu hn hi
      exact this)
    clear hp hm1 HC HW hrm
    generalize hs2 : gaveWay s i = s2 at *
    clear hs2
    go_enter Tryz.func177, Tryz.ntmps177
    go_wp2_with fail
    generalize hwb : w.alloc (.cells #[.pointer (some ⟨bs, 0, none⟩), .slice oa n cp] 170) = wb
    have hkb : Kept w wb := by rw [← hwb]; exact (Kept.refl w).alloc _
    have lB : wb.heap[w.heap.size]? = some (.cells #[.pointer (some ⟨bs, 0, none⟩), .slice oa n cp] 170) := by rw [← hwb]; exact lays_new rfl
    have hob : OwnVar base wb bs V s := (unhide HO).kept hkb
    refine ((unhide HT) wb hob).mono ?_
    rintro e w1 ⟨rfl, hk1⟩
    have ho1 := hob.kept hk1
    have hk01 := hkb.trans hk1
    have l1 := lays_kept hk1 lB
    have b0 : w1.cell? ⟨w.heap.size, 0, none⟩ = some (.pointer (some ⟨bs, 0, none⟩)) := cell_lays l1 0
    have b1 : w1.cell? ⟨w.heap.size, 1, none⟩ = some (.slice oa n cp) := cell_lays l1 1
    obtain ⟨gF', capF', eF', _, k0, k1, kz, _⟩ := ho1.own.fib hi
    rw [unhide HEF] at eF'
    obtain ⟨⟨rfl⟩, -, rfl⟩ := (by simpa using eF' : (gF = gF') ∧ True ∧ capF = capF')
    rw [unhide HCC] at k1
    obtain ⟨hBn, hBo⟩ := (unhide HO).new (b := w.heap.size) (by omega)
    have HM1 := hide (Moved.of_kept (unhide HO) hk01)
    have HO1 := hide ho1
    have HL1 := hide l1
    have HBO := hide hBo
    clear hwb hob hkb hk1 ho1 kz k0 eF' hk01 lB l1 hBo HT
    go_wp2_with fail
    refine ((unhide HWS) w1 V (unhide HO1)).mono ?_
    rintro e w2 ⟨rfl, V2, hm2⟩
    have l2 := hm2.lays (unhide HL1) hBn (unhide HBO)
    have q0 : w2.cell? ⟨w.heap.size, 0, none⟩ = some (.pointer (some ⟨bs, 0, none⟩)) := cell_lays l2 0
    have q1 : w2.cell? ⟨w.heap.size, 1, none⟩ = some (.slice oa n cp) := cell_lays l2 1
    have HM2 := hide ((unhide HM1).trans hm2)
    clear hm2 l2 b0 b1 k1
    go_wp2_with fail
    refine ((unhide HP) V2 w2 (unhide HM2).own).mono ?_
    rintro e w3 ⟨rfl, V3, hm3⟩
    have HM3 := hide ((unhide HM2).trans (hm3.pre (unhide HM2).own ((Kept.refl _).alloc _)))
    clear hm3
    go_wp2
    go_end0
    exact Or.inl ⟨rfl, rfl, V3, unhide HM3⟩
theorem EngPost.pre {base bs : Nat} {V V1 : Key → Value} {s s1 : St} {r : St × Int} {w w1 : World} {e : Ending} {w' : World} (h : EngPost base bs V1 s1 r w1 e w') (_ : OwnVar base w bs V s) (hm : Moved base bs V s w V1 s1 w1) : EngPost base bs V s r w e w' := by
  rcases h with ⟨h1, h2, V', h3⟩ | ⟨h1, h2, h3⟩
  · exact .inl ⟨h1, h2, V', hm.trans h3⟩
  · exact .inr ⟨h1, h2, hm.past h3⟩
theorem giveBack_any (base bs : Nat) (V : Key → Value) (s : St) (i n cp : Nat) (oa : Option Addr) (z : Int) (w : World) (h : OwnVar base w bs V s) (hn : s.now = i) (hr : Runs s i) (hout : s.out.length ≤ 30)
    (hc1 : (fibAt s i).frames.length = 1 → (fibAt s i).caller ≠ -1 → ∃ m : Nat, (fibAt s i).caller = m ∧ m ≠ i ∧ Runs s m) (hc2 : (fibAt s i).frames.length ≠ 1 → Runs (dropped s i) i) :
    Calls Tryz.prog 174 #[eng bs (.slice oa n cp), .int .i64 z] w (EngPost base bs V s (gaveBack s i z) w) := by
  have hi := hr.lt
  obtain ⟨gF, capF, eF, hrun⟩ := running_own h hn hi oa n cp
  obtain ⟨g, cap, eg, hqc, _⟩ := h.own.fr hi (j := 0) hr.fr
  have HMD : Hid (∀ u, OwnVar base u bs V s → Moved base bs V s u (upd V (.frames i) (.slice (some ⟨g, 0, none⟩) ((fibAt s i).frames.length - 1) cap)) (dropped s i) (u.setCell ⟨gF, i * 2, none⟩ (.slice (some ⟨g, 0, none⟩) ((fibAt s i).frames.length - 1) cap))) := hide (fun u hu => Moved.dropFrame hu hi eF eg)
  have hfr := hr.fr
  have hfrs := hr.frs
  have hout1 : (gaveWay (dropped s i) i).out.length ≤ 30 := hout
  have hfd := dropped_fib hi
  have hnd : (dropped s i).now = i := hn
  have hid : i < (dropped s i).fibers.length := by rw [dropped_len]; exact hi
  have HWS : Hid (∀ u V', OwnVar base u bs V' (dropped s i) → Calls Tryz.prog 195 #[eng bs (.slice oa n cp)] u (OnePost base bs V' (dropped s i) (gaveWay (dropped s i) i) (.tuple #[]) u)) := hide (fun u V' hu => giveWay_any base bs V' (dropped s i) i n cp oa u hu hnd hid)
  have HPO : Hid (∀ u V', OwnVar base u bs V' (gaveWay (dropped s i) i) → Calls Tryz.prog 178 #[eng bs (.slice oa n cp), .int .i64 z] u (EngPost base bs V' (gaveWay (dropped s i) i) (putS (gaveWay (dropped s i) i) z) u)) := hide (fun u V' hu => putOut_any base bs V' _ n cp oa z u hu hout1)
  have HPI : Hid ((fibAt s i).frames.length ≠ 1 → ∀ u V', OwnVar base u bs V' (dropped s i) → Calls Tryz.prog 163 #[eng bs (.slice oa n cp), .slice (some ⟨u.heap.size, 0, none⟩) 1 1] (u.alloc (.cells #[.int .i64 z] 3)) (OnePost base bs V' (dropped s i) (pushV (dropped s i) i z) (.tuple #[]) (u.alloc (.cells #[.int .i64 z] 3)))) := hide (fun hq u V' hu =>
    engPut_any base bs V' _ i n cp u.heap.size oa z _ (hu.alloc _) hnd (hc2 hq) (cell_lays (lays_new rfl) 0))
  have HPW : Hid ((fibAt s i).frames.length = 1 → ∀ m : Nat, (fibAt s i).caller = m → m ≠ i → Runs s m → ∀ u V', OwnVar base u bs V' (gaveWay (dropped s i) i) → Calls Tryz.prog 163 #[eng bs (.slice oa n cp), .slice (some ⟨u.heap.size, 0, none⟩) 1 1] (u.alloc (.cells #[.int .i64 z] 3)) (OnePost base bs V' (gaveWay (dropped s i) i) (pushV (gaveWay (dropped s i) i) m z) (.tuple #[]) (u.alloc (.cells #[.int .i64 z] 3)))) := hide (fun hq m hm hmi hrm u V' hu =>
    engPut_any base bs V' _ m n cp u.heap.size oa z _ (hu.alloc _) (by show (fibAt (dropped s i) i).caller = m; rw [hfd]; exact hm) (way_runs hmi (hrm.other (dropped_len s i) (fibAt_ne _ (fun e => hmi e.symm)))) (cell_lays (lays_new rfl) 0))
  have HNW : Hid ((gaveWay (dropped s i) i).now = (fibAt s i).caller) := hide (by show (fibAt (dropped s i) i).caller = _; rw [hfd])
  have HGB : Hid (((fibAt s i).frames.length = 1 → (fibAt s i).caller = -1 → gaveBack s i z = putS (gaveWay (dropped s i) i) z) ∧ (∀ m : Nat, (fibAt s i).frames.length = 1 → (fibAt s i).caller = m → gaveBack s i z = (pushV (gaveWay (dropped s i) i) m z, 0)) ∧ ((fibAt s i).frames.length ≠ 1 → gaveBack s i z = (pushV (dropped s i) i z, 0))) := hide ⟨fun h1 h2 => by unfold gaveBack; rw [if_pos h1, if_pos h2], fun m h1 h2 => by unfold gaveBack; rw [if_pos h1, if_neg (by omega), h2], fun h1 => by unfold gaveBack; rw [if_neg h1]⟩
  have HC1 := hide hc1
  generalize hqq : (fibAt s i).frames.length = q at *
  have HQ := hide hqq
  obtain ⟨t, rfl⟩ : ∃ t, q = t + 1 := ⟨q - 1, by omega⟩
  have hw1 : IntKind.i64.wrap ((t : Int) + 1 - 1) = (t : Int) := by rw [IntKind.wrap_i64]; omega
  have hw2 : IntKind.i64.wrap (t : Int) = (t : Int) := by rw [IntKind.wrap_i64]; omega
  have ht0 : (0 : Int) ≤ (t : Int) := by omega
  have ht1 : (t : Int) ≤ (cap : Int) := by omega
  have HT := hide hrun
  have HO := hide h
  have HEF := hide eF
  have HEG := hide eg
  have HND : Hid ((dropped s i).now = i) := hide hnd
  generalize hcc : (fibAt s i).caller = c at *
  generalize hR : gaveBack s i z = R at *
  have HCC := hide hcc
  have HNOW := hide hn
  generalize hsd : dropped s i = sd at *
  generalize hsw : gaveWay sd i = sw at *
  rw [Nat.add_sub_cancel] at HMD
  generalize hVd : upd V (.frames i) (.slice (some ⟨g, 0, none⟩) t cap) = Vd at *
  have hVdF : Vd .fibers = .slice (some ⟨gF, 0, none⟩) s.fibers.length capF := by rw [← hVd, upd_ne V _ (by simp)]; exact unhide HEF
  have hVdf : Vd (.frames i) = .slice (some ⟨g, 0, none⟩) t cap := by rw [← hVd, upd_same]
  have HVF := hide hVdF
  have HVf := hide hVdf
  have HLD : Hid (sd.fibers.length = s.fibers.length) := by rw [← hsd]; exact hide (dropped_len s i)
  clear hrun h eF eg hqq hcc hn hnd hR hsd hsw hVd hVdF hVdf hfd hc1 hc2 hr hout1 hid hqc
  go_enter Tryz.func174, Tryz.ntmps174
  go_wp2_with fail
  generalize hwb : w.alloc (.cells #[.pointer (some ⟨bs, 0, none⟩), .slice oa n cp] 170) = wb
  have hkb : Kept w wb := by rw [← hwb]; exact (Kept.refl w).alloc _
  have lB : wb.heap[w.heap.size]? = some (.cells #[.pointer (some ⟨bs, 0, none⟩), .slice oa n cp] 170) := by rw [← hwb]; exact lays_new rfl
  have hob : OwnVar base wb bs V s := (unhide HO).kept hkb
  refine ((unhide HT) wb hob).mono ?_
  rintro e w1 ⟨rfl, hk1⟩
  have ho1 := hob.kept hk1
  have hk01 := hkb.trans hk1
  have l1 := lays_kept hk1 lB
  obtain ⟨gF', capF', eF', _, k0, k1, kz, _⟩ := ho1.own.fib hi
  rw [unhide HEF] at eF'
  obtain ⟨⟨rfl⟩, -, rfl⟩ := (by simpa using eF' : (gF = gF') ∧ True ∧ capF = capF')
  rw [unhide HEG] at k0
  have kz0 := kz (i * 2)
  obtain ⟨hBn, hBo⟩ := (unhide HO).new (b := w.heap.size) (by omega)
  have hmd := (unhide HMD) w1 ho1
  have l2 := hmd.lays l1 hBn hBo
  have HBO := hide (hmd.off _ (Array.getElem?_eq_some_iff.1 l1).1 hBo)
  have HM2 := hide (((Moved.of_kept (unhide HO) hk01).trans hmd).drew)
  have HL2 := hide l2
  clear hwb hob hkb hk1 ho1 kz k1 eF' hk01 lB l1 hBo HT hmd l2
  go_upto_region 2 with fail
  go_region
  go_upto_region 3 with fail
  generalize hw2 : (w1.setCell ⟨gF, i * 2, none⟩ (.slice (some ⟨g, 0, none⟩) t cap)).drew = w2 at *
  have ho2 := (unhide HM2).own
  obtain ⟨gF2, capF2, eF2, _, j0, j1, _, _⟩ := ho2.own.fib (i := i) (by rw [unhide HLD]; exact hi)
  rw [unhide HVF, unhide HLD] at eF2
  obtain ⟨⟨rfl⟩, -, rfl⟩ := (by simpa using eF2 : (gF = gF2) ∧ True ∧ capF = capF2)
  rw [unhide HVf] at j0
  obtain ⟨_, n1, _, _⟩ := ho2.cells
  rw [unhide HND] at n1
  have L2 : w2.heap[w.heap.size]? = some (.cells #[.pointer (some ⟨bs, 0, none⟩), .slice oa n cp] 170) := by rw [← hw2]; exact lays_drew (unhide HL2)
  have b0 : w2.cell? ⟨w.heap.size, 0, none⟩ = some (.pointer (some ⟨bs, 0, none⟩)) := cell_lays L2 0
  have b1 : w2.cell? ⟨w.heap.size, 1, none⟩ = some (.slice oa n cp) := cell_lays L2 1
  have HLL := hide L2
  have HO2 := hide ho2
  clear hw2 ho2 eF2 L2 k0 kz0 j1
  by_cases hq1 : t = 0
  · subst hq1
    clear n1
    have hq : 0 + 1 = 1 := rfl
    go_wp2_with fail
    refine ((unhide HWS) w2 Vd (unhide HO2)).mono ?_
    rintro e w3 ⟨rfl, V3, hm3⟩
    have l3 := hm3.lays (unhide HLL) hBn (unhide HBO)
    have HBO3 := hide (hm3.off _ (Array.getElem?_eq_some_iff.1 (unhide HLL)).1 (unhide HBO))
    have q0 : w3.cell? ⟨w.heap.size, 0, none⟩ = some (.pointer (some ⟨bs, 0, none⟩)) := cell_lays l3 0
    have q1 : w3.cell? ⟨w.heap.size, 1, none⟩ = some (.slice oa n cp) := cell_lays l3 1
    obtain ⟨_, n3, _, _⟩ := hm3.own.cells
    rw [unhide HNW] at n3
    have HM3 := hide ((unhide HM2).trans hm3)
    clear hm3 l3 b0 b1 j0
    by_cases hm1 : c = -1
    · have HR := hide ((unhide HGB).1 hq hm1)
      subst hm1
      go_wp2_with fail
      refine ((unhide HPO) w3 V3 (unhide HM3).own).mono ?_
      intro e w4 hp
      have hp' := hp.pre (unhide HO) (unhide HM3)
      rw [← unhide HR] at hp'
      rcases hp with ⟨_, rfl, _⟩ | ⟨_, rfl, _⟩
      · have HP := hide hp'
        clear hp'
        go_wp2
        go_end0
        exact unhide HP
      · have HP := hide hp'
        clear hp'
        dsimp only [left]
        go_wp2
        exact ⟨rfl, unhide HP⟩
    · obtain ⟨m, hcm, hmi, hrm⟩ := (unhide HC1) hq hm1
      have HR := hide ((unhide HGB).2.1 m hq hcm)
      have hb1 : ((m : Int) == -1) = false := by rw [beq_eq_false_iff_ne]; omega
      have HPM := hide ((unhide HPW) hq m hcm hmi hrm)
      subst hcm
      clear hrm hm1
      go_wp2_with fail
      refine ((unhide HPM) w3 V3 (unhide HM3).own).mono ?_
      rintro e w4 ⟨rfl, V4, hm4⟩
      have HM4 := hide ((unhide HM3).trans (hm4.pre (unhide HM3).own ((Kept.refl _).alloc _)))
      clear hm4
      go_wp2
      go_end0
      rw [unhide HR]
      exact Or.inl ⟨rfl, rfl, V4, unhide HM4⟩
  · have hb0 : ((t : Int) == 0) = false := by rw [beq_eq_false_iff_ne]; omega
    have hbi : ((i : Int) == -1) = false := by rw [beq_eq_false_iff_ne]; omega
    have HR := hide ((unhide HGB).2.2 (by omega))
    have HPM := hide ((unhide HPI) (by omega))
    go_wp2_with fail
    refine ((unhide HPM) w2 Vd (unhide HO2)).mono ?_
    rintro e w4 ⟨rfl, V4, hm4⟩
    have HM4 := hide ((unhide HM2).trans (hm4.pre (unhide HO2) ((Kept.refl _).alloc _)))
    clear hm4
    go_wp2
    go_end0
    rw [unhide HR]
    exact Or.inl ⟨rfl, rfl, V4, unhide HM4⟩
end Go.Proofs.YtokhibfenccijaaGreatDoor
