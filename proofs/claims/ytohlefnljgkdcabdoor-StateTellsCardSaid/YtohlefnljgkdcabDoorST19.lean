/- StepL, TakesU, StepM0, StepM1 -/
import Derived.Test.YtohlefnljgkdcabDoorST18
import Derived.Test.YtohlefnljgkdcabDoorST17
import Derived.Deep.RegionHeld3
namespace Go.Proofs.YtohlefnljgkdcabDoor
open Go.RowKit
theorem next_fits {s : St} {i : Nat} (hn : s.now = i) (hr : Runs s i) (ai : Nat) (h : Fits s) : Fits (nextS s i ai) := by
  obtain ⟨h1, h2, h3, h4, h5, h6, h7, h8⟩ := next_facts hn hr ai
  refine ⟨by rw [h2]; exact h.fibers, by rw [h3]; exact h.out, fun a ha => by rw [h5]; rw [h2] at ha; exact h.frames a ha, fun a b ha hb => ?_, fun a b ha hb => ?_⟩
  · rw [(next_fr hr ai a b).2.1]; rw [h2] at ha; rw [h5] at hb; exact h.locals a b ha hb
  · rw [(next_fr hr ai a b).1]; rw [h2] at ha; rw [h5] at hb; exact h.stack a b ha hb
theorem next_callers {s : St} {i : Nat} (hn : s.now = i) (hr : Runs s i) (ai : Nat) (h : ∀ b, b ∈ s.fibers → -1 ≤ b.caller ∧ b.caller < s.fibers.length) : ∀ b, b ∈ (nextS s i ai).fibers → -1 ≤ b.caller ∧ b.caller < (nextS s i ai).fibers.length := by
  obtain ⟨h1, h2, h3, h4, h5, h6, h7, h8⟩ := next_facts hn hr ai
  intro b hb
  obtain ⟨q, hq, rfl⟩ := List.getElem_of_mem hb
  have e1 : fibAt (nextS s i ai) q = (nextS s i ai).fibers[q] := by simp [fibAt, List.getD, hq]
  have hq' : q < s.fibers.length := by rw [← h2]; exact hq
  have e2 : fibAt s q = s.fibers[q] := by simp [fibAt, List.getD, hq']
  rw [← e1, h4, e2, h2]
  exact h _ (List.getElem_mem hq')
theorem next_line {s : St} {i : Nat} (hn : s.now = i) (hr : Runs s i) (ai : Nat) : lineS (nextS s i ai) = lineS s := by
  obtain ⟨h1, h2, h3, h4, h5, h6, h7, h8⟩ := next_facts hn hr ai
  unfold lineS
  rw [h2, h1, hn]
  rw [lineF_congr (fs := (nextS s i ai).fibers) (fs' := s.fibers) (fun n => h4 n.toNat)]
end Go.Proofs.YtohlefnljgkdcabDoor
namespace Go.Proofs.YtohlefnljgkdcabDoor
open Go.RowKit
def Closed (md : Region.Mode) (ops : Array Oper) (listed : Array Bool) : Prop :=
  ∀ k o, ops[k]? = some o → listed.getD k false = true → ∀ e ∈ o.after, Region.binds md e = true → listed.getD e.on false = true
def closedB (md : Region.Mode) (ops : Array Oper) (listed : Array Bool) : Bool :=
  (List.range ops.size).all fun k => !(listed.getD k false) || (match ops[k]? with | none => true | some o => o.after.all fun e => !(Region.binds md e) || listed.getD e.on false)
theorem closedB_spec {md : Region.Mode} {ops : Array Oper} {listed : Array Bool} (h : closedB md ops listed = true) : Closed md ops listed := by
  intro k o hk hl e he hb
  have hks : k < ops.size := (Array.getElem?_eq_some_iff.1 hk).1
  have := List.all_eq_true.1 h k (by simpa using hks)
  rw [hl, hk] at this
  simp only [Bool.not_true, Bool.false_or] at this
  have h2 := Array.all_eq_true_iff_forall_mem.1 this e he
  rw [hb] at h2
  simpa using h2
def waitsB (md : Region.Mode) (ops : Array Oper) (i : Nat) : Nat → Nat → Bool
  | 0, _ => false
  | f + 1, T => match ops[T]? with | none => false | some o => o.after.any fun e => Region.binds md e && (e.on == i || waitsB md ops i f e.on)
def Waits (md : Region.Mode) (ops : Array Oper) (i T : Nat) : Prop := ∃ f, waitsB md ops i f T = true
theorem waitsB_spec {md : Region.Mode} {ops : Array Oper} {i : Nat} (f T : Nat) (h : waitsB md ops i f T = true) : Waits md ops i T := ⟨f, h⟩
theorem waits_listed {md : Region.Mode} {ops : Array Oper} {i : Nat} {listed : Array Bool} (hc : Closed md ops listed) : ∀ (f T : Nat), waitsB md ops i f T = true →
    (∀ o, ops[T]? = some o → ∀ e ∈ o.after, Region.binds md e = true → listed.getD e.on false = true) → listed.getD i false = true
  | 0, _, h, _ => by cases h
  | f + 1, T, h, hp => by
    unfold waitsB at h
    cases ho : ops[T]? with
    | none => rw [ho] at h; cases h
    | some o =>
      rw [ho] at h
      simp only [Array.any_eq_true, Bool.and_eq_true, Bool.or_eq_true, beq_iff_eq] at h
      obtain ⟨q, hq, hb, h1 | h1⟩ := h
      · rw [← h1]; exact hp o ho _ (Array.getElem_mem hq) hb
      · exact waits_listed hc f _ h1 fun o' ho' e' he' hb' => hc _ o' ho' (hp o ho _ (Array.getElem_mem hq) hb) e' he' hb'
theorem Waits.listed {md : Region.Mode} {ops : Array Oper} {i T : Nat} {listed : Array Bool} (hc : Closed md ops listed) (h : Waits md ops i T)
    (hp : ∀ o, ops[T]? = some o → ∀ e ∈ o.after, Region.binds md e = true → listed.getD e.on false = true) : listed.getD i false = true :=
  let ⟨f, h⟩ := h; waits_listed hc f T h hp
theorem getD_set_mono {listed : Array Bool} (j k : Nat) (h : listed.getD k false = true) : (listed.setIfInBounds j true).getD k false = true := by
  by_cases e : j = k
  · subst e
    have hs : j < listed.size := by
      rcases Nat.lt_or_ge j listed.size with h' | h'
      · exact h'
      · simp [Array.getElem?_eq_none h'] at h
    simp [hs]
  · rw [Go.getD_set_ne false e]; exact h
theorem Closed.set {md : Region.Mode} {ops : Array Oper} {listed : Array Bool} (hc : Closed md ops listed) {j : Nat} (hj : j ∈ Region.ready md ops listed) : Closed md ops (listed.setIfInBounds j true) := by
  intro k o hk hl e he hb
  obtain ⟨_, oj, hoj, hall⟩ := mem_ready.1 hj
  by_cases ejk : j = k
  · subst ejk
    rw [hoj] at hk
    obtain rfl := Option.some.inj hk
    exact getD_set_mono j _ (hall e he hb)
  · rw [Go.getD_set_ne false ejk] at hl
    exact getD_set_mono j _ (hc k o hk hl e he hb)
variable {P : Program} {md : Region.Mode} {ops : Array Oper} {Q : Exit → Act → World → Prop} {S : World → Prop} {T : Nat}
theorem AnyT.firstU {i : Nat} {oi : Oper} {v : Value} (hi : ops[i]? = some oi) (hsel : ∀ (j : Nat) (o : Oper) cs b, ops[j]? = some o → o.op ≠ .select cs b)
    (hQ : ∀ c a w, Q (.panic c) (a.put oi.dst v) w → Q (.panic c) a w) (hT : Waits md ops i T) :
    ∀ (n : Nat) (listed : Array Bool) (a : Act) (w : World), Closed md ops listed →
      (∀ j oj, ops[j]? = some oj → j ≠ i → listed.getD j true = false → (∀ e ∈ oj.after, Region.binds md e = true → e.on ≠ i) → oi.apart ops oj = true) →
      i ∈ Region.ready md ops listed → YieldsIf P ops S oi v a → S w →
      AnyT P md ops Q S T n (listed.setIfInBounds i true) (a.put oi.dst v) w → AnyT P md ops Q S T (n + 1) listed a w := by
  intro n
  induction n with
  | zero =>
    intro listed a w _ _ hr hy hS H
    refine ⟨fun h => (by rw [h] at hr; cases hr), fun j hj => ?_⟩
    by_cases hji : j = i
    · subst hji
      exact hy.wpOp hi hS ⟨fun _ => hS, H⟩
    · have := ready_mono hj hji
      rw [H.1] at this
      cases this
  | succ n ih =>
    intro listed a w hC hfree hr hy hS H
    refine ⟨fun h => (by rw [h] at hr; cases hr), fun j hj => ?_⟩
    by_cases hji : j = i
    · subst hji
      exact hy.wpOp hi hS ⟨fun _ => hS, H⟩
    · have h1 := H.2 j (ready_mono hj hji)
      obtain ⟨hjun, oj, hoj, hall⟩ := mem_ready.1 hj
      have hun := (mem_ready.1 hr).1
      have hnl : listed.getD i false ≠ true := by
        intro hc
        rcases Nat.lt_or_ge i listed.size with h' | h'
        · simp [h'] at hun hc
          rw [hun] at hc
          cases hc
        · simp [Array.getElem?_eq_none h'] at hc
      have hnot : ∀ e ∈ oj.after, Region.binds md e = true → e.on ≠ i := fun e he hb heq => hnl (by have := hall e he hb; rwa [heq] at this)
      have hjT : j ≠ T := by
        intro e
        subst e
        exact hnl (hT.listed hC (fun o ho e he hb => by rw [hoj] at ho; obtain rfl := Option.some.inj ho; exact hall e he hb))
      have h2 := wpOp_putIf hoj (hfree j oj hoj hji hjun hnot) (fun cs b => hsel i oi cs b hi) (fun cs b => hsel j oj cs b hoj) hQ hy h1
      refine wpOp_mono (fun a' w' h3 => ⟨fun _ => h3.2.1 hjT, ih (listed.setIfInBounds j true) a' w' (hC.set hj) ?_ (ready_mono hr (Ne.symm hji)) h3.1 (h3.2.1 hjT) ?_⟩) h2
      · intro k ok hk hki hku hno
        refine hfree k ok hk hki ?_ hno
        by_cases hjk : j = k
        · subst hjk; exact hjun
        · rw [Go.getD_set_ne true hjk] at hku; exact hku
      · rw [Array.setIfInBounds_comm _ _ hji]
        exact h3.2.2
theorem takeU {L tl : List Oper} {i : Nat} {oi : Oper} {v : Value} {fuel : Nat} {listed : Array Bool} {a : Act} {w : World} (hd : L.drop i = oi :: tl)
    (hs : Region.noSelect L.toArray = true) (hf : Region.free md L.toArray listed i = true) (hr : (Region.ready md L.toArray listed).contains i = true) (hT : (waitsB md L.toArray i 40 T && closedB md L.toArray listed) = true)
    (hQ : ∀ c a w, Q (.panic c) (a.put oi.dst v) w → Q (.panic c) a w) (hw : Region.wanted oi (yielded L.toArray a.tmps) = true) (hy : ∀ u, S u → (execOp a.eval oi).run P u = .ok (.value v) u) (hS : S w)
    (h : AnyT P md L.toArray Q S T fuel (listed.setIfInBounds i true) (a.put oi.dst v) w) : AnyT P md L.toArray Q S T (fuel + 1) listed a w :=
  AnyT.firstU (at_drop hd) (Region.noSelect_spec hs) hQ (waitsB_spec 40 T (Bool.and_eq_true_iff.1 hT).1) fuel listed a w (closedB_spec (Bool.and_eq_true_iff.1 hT).2) (Region.free_spec (at_drop hd) hf) (by simpa using hr) (.inl ⟨hw, hy⟩) hS h
end Go.Proofs.YtohlefnljgkdcabDoor
namespace Go.Proofs.YtohlefnljgkdcabDoor
open Go.RowKit
set_option maxRecDepth 100000 in
set_option maxHeartbeats 4000000 in
theorem done_push (base bs : Nat) (V : Key → Value) (s : St) (i cp bp op n fi ai cb co cl cc : Nat) (a : Int) (w : World) (h : OwnVar base w bs V s) (hd : DoAt base w s i bp op n fi ai cb co cl cc 0 a) :
    Calls Tryd.prog 117 #[.slice (some ⟨bp, op, none⟩) n cp, .pointer (some ⟨bs, 0, none⟩)] w fun e w' => EndPost base bs  (pushV (nextS s i ai) i a, 0) w e w' := by
  obtain ⟨hn, hr, hfn, hat, hfin, hain, hcl, hpc⟩ := hd
  have hj : (fibAt s i).frames.length - 1 < (fibAt s i).frames.length := by have := hr.fr; omega
  obtain ⟨g, cap, eg, htop⟩ := top_own h hr.lt hr.fr hr.frs
  obtain ⟨b0, b1, _, _⟩ := h.cells
  rw [hn] at b1
  have HTOP := hide htop
  have HO := hide h
  have HPC := hide hpc
  have HRU := hide hr
  have HNX := hide (next_facts hn hr ai)
  have HEG := hide eg
  have hf1 : (fi : Int) < (n : Int) := by omega
  have hf0 : (0 : Int) ≤ (fi : Int) := by omega
  have ha1 : (ai : Int) < (cl : Int) := by omega
  have ha0 : (0 : Int) ≤ (ai : Int) := by omega
  have hwa : IntKind.i64.wrap ((ai : Int) + 1) = (ai : Int) + 1 := by rw [IntKind.wrap_i64]; omega
  generalize hjj : (fibAt s i).frames.length - 1 = j at *
  have HJJ := hide hjj
  clear htop h hpc hr eg hjj
  go_enter Tryd.func117, Tryd.ntmps117
  go_wp2_with fail
  refine (unhide HTOP).mono ?_
  rintro _ _ ⟨rfl, m0, rfl⟩
  have ho1 : OwnVar base (w.drewN m0) bs V s := (unhide HO).same rfl
  have hb1 : Below base w (w.drewN m0) := below_drewN (Below.refl _ _) m0
  generalize w.drewN m0 = w1 at ho1 hb1 ⊢
  obtain ⟨g', cap', eg', hcap, k0, k1, k2, k3, fz, hbg⟩ := ho1.own.fr (i := i) (j := j) (unhide HRU).lt hj
  have hVg : V (.frames i) = .slice (some ⟨g, 0, none⟩) (fibAt s i).frames.length cap := unhide HEG
  obtain ⟨rfl, rfl⟩ : g = g' ∧ cap = cap' := by rw [hVg] at eg'; simpa using eg'
  rw [hfn] at k0
  rw [hat] at k1
  obtain ⟨x0, x1, x2⟩ := (unhide HPC) w1 hb1
  have HY : Hid (∀ u, Kept w1 u → u.cell? ⟨g, j * 4, none⟩ = some (.int .i64 fi) ∧ u.cell? ⟨g, j * 4 + 1, none⟩ = some (.int .i64 ai) ∧ u.cell? ⟨bp, op + fi * 3 + 2, none⟩ = some (.slice (some ⟨cb, co, none⟩) cl cc) ∧ u.cell? ⟨cb, co + ai * 2, none⟩ = some (.int .i64 0) ∧ u.cell? ⟨cb, co + ai * 2 + 1, none⟩ = some (.int .i64 a)) := hide (fun u hu => ⟨hu.cell k0, hu.cell k1, hu.cell x0, hu.cell x1, hu.cell x2⟩)
  have HO1 := hide ho1
  have HB1 := hide hb1
  have hgl := cell_lt k0
  simp only at hgl
  have HGL := hide hgl
  have hlow := ho1.low
  have hbw := lt_of_block ho1.var
  clear ho1 hb1 k0 k1 k2 k3 x0 x1 x2 fz eg' hgl HTOP
  go_wp2_with fail
  go_region_held3 (fun u => u.cell? ⟨g, j * 4, none⟩ = some (.int .i64 fi) ∧ u.cell? ⟨g, j * 4 + 1, none⟩ = some (.int .i64 ai) ∧ u.cell? ⟨bp, op + fi * 3 + 2, none⟩ = some (.slice (some ⟨cb, co, none⟩) cl cc) ∧ u.cell? ⟨cb, co + ai * 2, none⟩ = some (.int .i64 0) ∧ u.cell? ⟨cb, co + ai * 2 + 1, none⟩ = some (.int .i64 a)) (exact (unhide HY) _ (by repeat (first | exact Kept.refl _ | refine Kept.drew ?_ | refine Kept.alloc ?_ _ | refine Kept.setCell ?_ (by simp) _))) (fail)
  rename_i hheld
  clear hheld HY
  have LX : (w1.alloc (.cells #[.int .i64 0, .int .i64 a] 38)).drew.heap[w1.heap.size]? = some (.cells #[.int .i64 0, .int .i64 a] 38) := lays_drew (lays_new rfl)
  have ho2 : OwnVar base (w1.alloc (.cells #[.int .i64 0, .int .i64 a] 38)).drew bs V s := ((unhide HO1).alloc _).same rfl
  have hb2 : Below base w (w1.alloc (.cells #[.int .i64 0, .int .i64 a] 38)).drew := (Below.alloc (unhide HB1) (by omega) _).drew
  have hoffX : Own.off V s w1.heap.size := (unhide HO1).own.new_off (.inl (Nat.le_refl _))
  have hXb : base ≤ w1.heap.size := by omega
  have hXs : bs ≠ w1.heap.size := by omega
  have hXg : w1.heap.size ≠ g := by have := unhide HGL; omega
  generalize (w1.alloc (.cells #[.int .i64 0, .int .i64 a] 38)).drew = w2 at LX ho2 hb2 ⊢
  generalize w1.heap.size = X at LX hoffX hXb hXs hXg ⊢
  obtain ⟨_, _, eg2, _, _, k1, k2, _, fz, hbg2⟩ := ho2.own.fr (i := i) (j := j) (unhide HRU).lt hj
  obtain ⟨rfl, rfl⟩ := (by rw [hVg] at eg2; simpa using eg2 : g = _ ∧ cap = _)
  rw [hat] at k1
  have fz1 := fz (j * 4 + 1)
  obtain ⟨ho3, hb3⟩ := ho2.setAt (unhide HRU).lt hj hVg ((ai : Int) + 1)
  have ho3' : OwnVar base (w2.setCell ⟨g, j * 4 + 1, none⟩ (.int .i64 ((ai : Int) + 1))) bs V (nextS s i ai) := by unfold nextS; rw [unhide HJJ]; exact ho3
  have LX3 := lays_other LX (a := ⟨g, j * 4 + 1, none⟩) hXg (.int .i64 ((ai : Int) + 1))
  have y0 := cell_lays LX3 0
  have y1 := cell_lays LX3 1
  have HO3 := hide ho3'
  have HB3 := hide (Below.trans hb2 hb3)
  have HLX := hide LX3
  have HOX := hide hoffX
  clear ho2 hb2 ho3 ho3' hb3 LX LX3 fz eg2 HO1 HB1 HO hoffX
  go_wp2_with fail
  generalize w2.setCell ⟨g, j * 4 + 1, none⟩ (.int .i64 ((ai : Int) + 1)) = w3 at HO3 HB3 y0 y1 HLX ⊢
  obtain ⟨n1, n2, n3, n4, n5, n6, n7, n8⟩ := unhide HNX
  obtain ⟨_, c1, _, _⟩ := (unhide HO3).cells
  rw [n1] at c1
  have HPU := hide (fun (u : World) (hu : u.heap = w3.heap) => push_any base bs V (nextS s i ai) i a u ((unhide HO3).same hu) n8.lt n8.fr n8.frs n8.st)
  have HYS : Hid (∀ u, Kept w3 u → u.cell? ⟨bs, 1, none⟩ = some (.int .i64 i) ∧ u.cell? ⟨X, 1, none⟩ = some (.int .i64 a)) := hide (fun u hu => ⟨hu.cell c1, hu.cell y1⟩)
  clear c1 n1 n2 n3 n4 n5 n6 n7 n8 y0 y1
  refine wp_regionT 7 (fun u => u.cell? ⟨bs, 1, none⟩ = some (.int .i64 i) ∧ u.cell? ⟨X, 1, none⟩ = some (.int .i64 a)) (by kernel_rfl) ?_
  have hHeld := (unhide HYS) _ (Kept.refl w3).drew
  refine takeU (i := 0) (v := ?_) rfl (by kernel_rfl) (by kernel_rfl) (by kernel_rfl) (by kernel_rfl) (fun _ _ _ h => h) (by rfl) (fun u hSu => ?_) hHeld ?_
  rotate_left
  · ((try dsimp only at hSu); go_simp) <;> with_reducible rfl
  try simp only [Act.put, List.setIfInBounds_toArray, List.set_cons_zero, List.set_cons_succ]
  refine takeU (i := 1) (v := ?_) rfl (by kernel_rfl) (by kernel_rfl) (by kernel_rfl) (by kernel_rfl) (fun _ _ _ h => h) (by rfl) (fun u hSu => ?_) hHeld ?_
  rotate_left
  · ((try dsimp only at hSu); go_simp) <;> with_reducible rfl
  try simp only [Act.put, List.setIfInBounds_toArray, List.set_cons_zero, List.set_cons_succ]
  refine takeU (i := 2) (v := ?_) rfl (by kernel_rfl) (by kernel_rfl) (by kernel_rfl) (by kernel_rfl) (fun _ _ _ h => h) (by rfl) (fun u hSu => ?_) hHeld ?_
  rotate_left
  · ((try dsimp only at hSu); go_simp) <;> with_reducible rfl
  try simp only [Act.put, List.setIfInBounds_toArray, List.set_cons_zero, List.set_cons_succ]
  refine takeU (i := 3) (v := ?_) rfl (by kernel_rfl) (by kernel_rfl) (by kernel_rfl) (by kernel_rfl) (fun _ _ _ h => h) (by rfl) (fun u hSu => ?_) hHeld ?_
  rotate_left
  · ((try dsimp only at hSu); go_simp) <;> with_reducible rfl
  try simp only [Act.put, List.setIfInBounds_toArray, List.set_cons_zero, List.set_cons_succ]
  refine takeU (i := 4) (v := ?_) rfl (by kernel_rfl) (by kernel_rfl) (by kernel_rfl) (by kernel_rfl) (fun _ _ _ h => h) (by rfl) (fun u hSu => ?_) hHeld ?_
  rotate_left
  · ((try dsimp only at hSu); go_simp) <;> with_reducible rfl
  try simp only [Act.put, List.setIfInBounds_toArray, List.set_cons_zero, List.set_cons_succ]
  refine takeU (i := 5) (v := ?_) rfl (by kernel_rfl) (by kernel_rfl) (by kernel_rfl) (by kernel_rfl) (fun _ _ _ h => h) (by rfl) (fun u hSu => ?_) hHeld ?_
  rotate_left
  · ((try dsimp only at hSu); go_simp) <;> with_reducible rfl
  try simp only [Act.put, List.setIfInBounds_toArray, List.set_cons_zero, List.set_cons_succ]
  refine takeU (i := 6) (v := ?_) rfl (by kernel_rfl) (by kernel_rfl) (by kernel_rfl) (by kernel_rfl) (fun _ _ _ h => h) (by rfl) (fun u hSu => ?_) hHeld ?_
  rotate_left
  · ((try dsimp only at hSu); go_simp) <;> with_reducible rfl
  try simp only [Act.put, List.setIfInBounds_toArray, List.set_cons_zero, List.set_cons_succ]
  refine takeT_one (i := 7) rfl (by kernel_rfl) (fun K hK => ?_)
  go_simp
  refine ((unhide HPU) w3.drew rfl).mono ?_
  rintro _ w4 ⟨rfl, V4, ho4, hb4⟩
  refine hK.out _ _ (fun h => absurd rfl h) ?_
  clear hK K
  refine takeT_done (by kernel_rfl) ?_ _
  clear hHeld
  have HO4 := hide ho4
  have HB4 := hide (Below.trans (Below.drew (Below.refl _ w3)) hb4)
  clear ho4 hb4 HPU HYS
  go_wp2
  go_ret
  exact ⟨rfl, Below.trans (unhide HB3) (unhide HB4), fun _ => ⟨V4, unhide HO4⟩⟩
end Go.Proofs.YtohlefnljgkdcabDoor
namespace Go.Proofs.YtohlefnljgkdcabDoor
open Go.RowKit
set_option maxRecDepth 100000 in
set_option maxHeartbeats 4000000 in
theorem done_pop (base bs : Nat) (V : Key → Value) (s : St) (i cp bp op n fi ai cb co cl cc : Nat) (a : Int) (w : World) (h : OwnVar base w bs V s) (hd : DoAt base w s i bp op n fi ai cb co cl cc 1 a) (hst0 : 0 < (frAt s i ((fibAt s i).frames.length - 1)).stack.length) :
    Calls Tryd.prog 117 #[.slice (some ⟨bp, op, none⟩) n cp, .pointer (some ⟨bs, 0, none⟩)] w fun e w' => EndPost base bs (pullV (nextS s i ai), 0) w e w' := by
  obtain ⟨hn, hr, hfn, hat, hfin, hain, hcl, hpc⟩ := hd
  have hj : (fibAt s i).frames.length - 1 < (fibAt s i).frames.length := by have := hr.fr; omega
  obtain ⟨g, cap, eg, htop⟩ := top_own h hr.lt hr.fr hr.frs
  obtain ⟨b0, b1, _, _⟩ := h.cells
  rw [hn] at b1
  have HTOP := hide htop
  have HO := hide h
  have HPC := hide hpc
  have HRU := hide hr
  have HNX := hide (next_facts hn hr ai)
  have HEG := hide eg
  have hf1 : (fi : Int) < (n : Int) := by omega
  have hf0 : (0 : Int) ≤ (fi : Int) := by omega
  have ha1 : (ai : Int) < (cl : Int) := by omega
  have ha0 : (0 : Int) ≤ (ai : Int) := by omega
  have hwa : IntKind.i64.wrap ((ai : Int) + 1) = (ai : Int) + 1 := by rw [IntKind.wrap_i64]; omega
  generalize hjj : (fibAt s i).frames.length - 1 = j at *
  have HJJ := hide hjj
  clear htop h hpc hr eg hjj
  go_enter Tryd.func117, Tryd.ntmps117
  go_wp2_with fail
  refine (unhide HTOP).mono ?_
  rintro _ _ ⟨rfl, m0, rfl⟩
  have ho1 : OwnVar base (w.drewN m0) bs V s := (unhide HO).same rfl
  have hb1 : Below base w (w.drewN m0) := below_drewN (Below.refl _ _) m0
  generalize w.drewN m0 = w1 at ho1 hb1 ⊢
  obtain ⟨g', cap', eg', hcap, k0, k1, k2, k3, fz, hbg⟩ := ho1.own.fr (i := i) (j := j) (unhide HRU).lt hj
  have hVg : V (.frames i) = .slice (some ⟨g, 0, none⟩) (fibAt s i).frames.length cap := unhide HEG
  obtain ⟨rfl, rfl⟩ : g = g' ∧ cap = cap' := by rw [hVg] at eg'; simpa using eg'
  rw [hfn] at k0
  rw [hat] at k1
  obtain ⟨x0, x1, x2⟩ := (unhide HPC) w1 hb1
  have HY : Hid (∀ u, Kept w1 u → u.cell? ⟨g, j * 4, none⟩ = some (.int .i64 fi) ∧ u.cell? ⟨g, j * 4 + 1, none⟩ = some (.int .i64 ai) ∧ u.cell? ⟨bp, op + fi * 3 + 2, none⟩ = some (.slice (some ⟨cb, co, none⟩) cl cc) ∧ u.cell? ⟨cb, co + ai * 2, none⟩ = some (.int .i64 1) ∧ u.cell? ⟨cb, co + ai * 2 + 1, none⟩ = some (.int .i64 a)) := hide (fun u hu => ⟨hu.cell k0, hu.cell k1, hu.cell x0, hu.cell x1, hu.cell x2⟩)
  have HO1 := hide ho1
  have HB1 := hide hb1
  have hgl := cell_lt k0
  simp only at hgl
  have HGL := hide hgl
  have hlow := ho1.low
  have hbw := lt_of_block ho1.var
  clear ho1 hb1 k0 k1 k2 k3 x0 x1 x2 fz eg' hgl HTOP
  go_wp2_with fail
  go_region_held3 (fun u => u.cell? ⟨g, j * 4, none⟩ = some (.int .i64 fi) ∧ u.cell? ⟨g, j * 4 + 1, none⟩ = some (.int .i64 ai) ∧ u.cell? ⟨bp, op + fi * 3 + 2, none⟩ = some (.slice (some ⟨cb, co, none⟩) cl cc) ∧ u.cell? ⟨cb, co + ai * 2, none⟩ = some (.int .i64 1) ∧ u.cell? ⟨cb, co + ai * 2 + 1, none⟩ = some (.int .i64 a)) (exact (unhide HY) _ (by repeat (first | exact Kept.refl _ | refine Kept.drew ?_ | refine Kept.alloc ?_ _ | refine Kept.setCell ?_ (by simp) _))) (fail)
  rename_i hheld
  clear hheld HY
  have LX : (w1.alloc (.cells #[.int .i64 1, .int .i64 a] 38)).drew.heap[w1.heap.size]? = some (.cells #[.int .i64 1, .int .i64 a] 38) := lays_drew (lays_new rfl)
  have ho2 : OwnVar base (w1.alloc (.cells #[.int .i64 1, .int .i64 a] 38)).drew bs V s := ((unhide HO1).alloc _).same rfl
  have hb2 : Below base w (w1.alloc (.cells #[.int .i64 1, .int .i64 a] 38)).drew := (Below.alloc (unhide HB1) (by omega) _).drew
  have hoffX : Own.off V s w1.heap.size := (unhide HO1).own.new_off (.inl (Nat.le_refl _))
  have hXb : base ≤ w1.heap.size := by omega
  have hXs : bs ≠ w1.heap.size := by omega
  have hXg : w1.heap.size ≠ g := by have := unhide HGL; omega
  generalize (w1.alloc (.cells #[.int .i64 1, .int .i64 a] 38)).drew = w2 at LX ho2 hb2 ⊢
  generalize w1.heap.size = X at LX hoffX hXb hXs hXg ⊢
  obtain ⟨_, _, eg2, _, _, k1, k2, _, fz, hbg2⟩ := ho2.own.fr (i := i) (j := j) (unhide HRU).lt hj
  obtain ⟨rfl, rfl⟩ := (by rw [hVg] at eg2; simpa using eg2 : g = _ ∧ cap = _)
  rw [hat] at k1
  have fz1 := fz (j * 4 + 1)
  obtain ⟨ho3, hb3⟩ := ho2.setAt (unhide HRU).lt hj hVg ((ai : Int) + 1)
  have ho3' : OwnVar base (w2.setCell ⟨g, j * 4 + 1, none⟩ (.int .i64 ((ai : Int) + 1))) bs V (nextS s i ai) := by unfold nextS; rw [unhide HJJ]; exact ho3
  have LX3 := lays_other LX (a := ⟨g, j * 4 + 1, none⟩) hXg (.int .i64 ((ai : Int) + 1))
  have y0 := cell_lays LX3 0
  have y1 := cell_lays LX3 1
  have HO3 := hide ho3'
  have HB3 := hide (Below.trans hb2 hb3)
  have HLX := hide LX3
  have HOX := hide hoffX
  clear ho2 hb2 ho3 ho3' hb3 LX LX3 fz eg2 HO1 HB1 HO hoffX
  go_wp2_with fail
  generalize w2.setCell ⟨g, j * 4 + 1, none⟩ (.int .i64 ((ai : Int) + 1)) = w3 at HO3 HB3 y0 y1 HLX ⊢
  obtain ⟨n1, n2, n3, n4, n5, n6, n7, n8⟩ := unhide HNX
  have hjn : (fibAt (nextS s i ai) i).frames.length - 1 = j := by rw [n5]; exact unhide HJJ
  have HPL := hide (pull_sharp base bs V (nextS s i ai) i w3 (unhide HO3) n1 n8.lt n8.fr n8.frs n8.st (by rw [hjn, n6]; exact hst0))
  clear n1 n2 n3 n4 n5 n6 n7 n8 y0 y1
  refine (unhide HPL).mono ?_
  rintro _ w4 ⟨rfl, V4, ho4, hb4, _, _, _⟩
  have HO4 := hide ho4
  have HB4 := hide hb4
  clear ho4 hb4 HPL
  go_wp2
  go_ret
  exact ⟨rfl, Below.trans (unhide HB3) (unhide HB4), fun _ => ⟨V4, unhide HO4⟩⟩
set_option maxRecDepth 100000 in
set_option maxHeartbeats 4000000 in
theorem done_jump (base bs : Nat) (V : Key → Value) (s : St) (i cp bp op n fi ai cb co cl cc : Nat) (a : Int) (w : World) (h : OwnVar base w bs V s) (hd : DoAt base w s i bp op n fi ai cb co cl cc 9 a) :
    Calls Tryd.prog 117 #[.slice (some ⟨bp, op, none⟩) n cp, .pointer (some ⟨bs, 0, none⟩)] w fun e w' => EndPost base bs (setAt (nextS s i ai) a, 0) w e w' := by
  obtain ⟨hn, hr, hfn, hat, hfin, hain, hcl, hpc⟩ := hd
  have hj : (fibAt s i).frames.length - 1 < (fibAt s i).frames.length := by have := hr.fr; omega
  obtain ⟨g, cap, eg, htop⟩ := top_own h hr.lt hr.fr hr.frs
  obtain ⟨b0, b1, _, _⟩ := h.cells
  rw [hn] at b1
  have HTOP := hide htop
  have HO := hide h
  have HPC := hide hpc
  have HRU := hide hr
  have HNX := hide (next_facts hn hr ai)
  have HEG := hide eg
  have hf1 : (fi : Int) < (n : Int) := by omega
  have hf0 : (0 : Int) ≤ (fi : Int) := by omega
  have ha1 : (ai : Int) < (cl : Int) := by omega
  have ha0 : (0 : Int) ≤ (ai : Int) := by omega
  have hwa : IntKind.i64.wrap ((ai : Int) + 1) = (ai : Int) + 1 := by rw [IntKind.wrap_i64]; omega
  generalize hjj : (fibAt s i).frames.length - 1 = j at *
  have HJJ := hide hjj
  clear htop h hpc hr eg hjj
  go_enter Tryd.func117, Tryd.ntmps117
  go_wp2_with fail
  refine (unhide HTOP).mono ?_
  rintro _ _ ⟨rfl, m0, rfl⟩
  have ho1 : OwnVar base (w.drewN m0) bs V s := (unhide HO).same rfl
  have hb1 : Below base w (w.drewN m0) := below_drewN (Below.refl _ _) m0
  generalize w.drewN m0 = w1 at ho1 hb1 ⊢
  obtain ⟨g', cap', eg', hcap, k0, k1, k2, k3, fz, hbg⟩ := ho1.own.fr (i := i) (j := j) (unhide HRU).lt hj
  have hVg : V (.frames i) = .slice (some ⟨g, 0, none⟩) (fibAt s i).frames.length cap := unhide HEG
  obtain ⟨rfl, rfl⟩ : g = g' ∧ cap = cap' := by rw [hVg] at eg'; simpa using eg'
  rw [hfn] at k0
  rw [hat] at k1
  obtain ⟨x0, x1, x2⟩ := (unhide HPC) w1 hb1
  have HY : Hid (∀ u, Kept w1 u → u.cell? ⟨g, j * 4, none⟩ = some (.int .i64 fi) ∧ u.cell? ⟨g, j * 4 + 1, none⟩ = some (.int .i64 ai) ∧ u.cell? ⟨bp, op + fi * 3 + 2, none⟩ = some (.slice (some ⟨cb, co, none⟩) cl cc) ∧ u.cell? ⟨cb, co + ai * 2, none⟩ = some (.int .i64 9) ∧ u.cell? ⟨cb, co + ai * 2 + 1, none⟩ = some (.int .i64 a)) := hide (fun u hu => ⟨hu.cell k0, hu.cell k1, hu.cell x0, hu.cell x1, hu.cell x2⟩)
  have HO1 := hide ho1
  have HB1 := hide hb1
  have hgl := cell_lt k0
  simp only at hgl
  have HGL := hide hgl
  have hlow := ho1.low
  have hbw := lt_of_block ho1.var
  clear ho1 hb1 k0 k1 k2 k3 x0 x1 x2 fz eg' hgl HTOP
  go_wp2_with fail
  go_region_held3 (fun u => u.cell? ⟨g, j * 4, none⟩ = some (.int .i64 fi) ∧ u.cell? ⟨g, j * 4 + 1, none⟩ = some (.int .i64 ai) ∧ u.cell? ⟨bp, op + fi * 3 + 2, none⟩ = some (.slice (some ⟨cb, co, none⟩) cl cc) ∧ u.cell? ⟨cb, co + ai * 2, none⟩ = some (.int .i64 9) ∧ u.cell? ⟨cb, co + ai * 2 + 1, none⟩ = some (.int .i64 a)) (exact (unhide HY) _ (by repeat (first | exact Kept.refl _ | refine Kept.drew ?_ | refine Kept.alloc ?_ _ | refine Kept.setCell ?_ (by simp) _))) (fail)
  rename_i hheld
  clear hheld HY
  have LX : (w1.alloc (.cells #[.int .i64 9, .int .i64 a] 38)).drew.heap[w1.heap.size]? = some (.cells #[.int .i64 9, .int .i64 a] 38) := lays_drew (lays_new rfl)
  have ho2 : OwnVar base (w1.alloc (.cells #[.int .i64 9, .int .i64 a] 38)).drew bs V s := ((unhide HO1).alloc _).same rfl
  have hb2 : Below base w (w1.alloc (.cells #[.int .i64 9, .int .i64 a] 38)).drew := (Below.alloc (unhide HB1) (by omega) _).drew
  have hoffX : Own.off V s w1.heap.size := (unhide HO1).own.new_off (.inl (Nat.le_refl _))
  have hXb : base ≤ w1.heap.size := by omega
  have hXs : bs ≠ w1.heap.size := by omega
  have hXg : w1.heap.size ≠ g := by have := unhide HGL; omega
  generalize (w1.alloc (.cells #[.int .i64 9, .int .i64 a] 38)).drew = w2 at LX ho2 hb2 ⊢
  generalize w1.heap.size = X at LX hoffX hXb hXs hXg ⊢
  obtain ⟨_, _, eg2, _, _, k1, k2, _, fz, hbg2⟩ := ho2.own.fr (i := i) (j := j) (unhide HRU).lt hj
  obtain ⟨rfl, rfl⟩ := (by rw [hVg] at eg2; simpa using eg2 : g = _ ∧ cap = _)
  rw [hat] at k1
  have fz1 := fz (j * 4 + 1)
  obtain ⟨ho3, hb3⟩ := ho2.setAt (unhide HRU).lt hj hVg ((ai : Int) + 1)
  have ho3' : OwnVar base (w2.setCell ⟨g, j * 4 + 1, none⟩ (.int .i64 ((ai : Int) + 1))) bs V (nextS s i ai) := by unfold nextS; rw [unhide HJJ]; exact ho3
  have LX3 := lays_other LX (a := ⟨g, j * 4 + 1, none⟩) hXg (.int .i64 ((ai : Int) + 1))
  have y0 := cell_lays LX3 0
  have y1 := cell_lays LX3 1
  have HO3 := hide ho3'
  have HB3 := hide (Below.trans hb2 hb3)
  have HLX := hide LX3
  have HOX := hide hoffX
  clear ho2 hb2 ho3 ho3' hb3 LX LX3 fz eg2 HO1 HB1 HO hoffX
  obtain ⟨n1, n2, n3, n4, n5, n6, n7, n8⟩ := unhide HNX
  have hjn : (fibAt (nextS s i ai) i).frames.length - 1 = j := by rw [n5]; exact unhide HJJ
  have hjn' : j < (fibAt (nextS s i ai) i).frames.length := by rw [n5]; exact hj
  obtain ⟨g3, cap3, eg3, _, _, m1, _, _, fz3, _⟩ := (unhide HO3).own.fr (i := i) (j := j) n8.lt hjn'
  obtain ⟨rfl, rfl⟩ : g = g3 ∧ cap = cap3 := by rw [hVg, n5] at eg3; simpa using eg3
  have fzj := fz3 (j * 4 + 1)
  obtain ⟨ho4, hb4⟩ := (unhide HO3).setAt n8.lt hjn' (show V (.frames i) = .slice (some ⟨g, 0, none⟩) (fibAt (nextS s i ai) i).frames.length cap by rw [n5]; exact hVg) a
  have HO4 : Hid (OwnVar base ((w2.setCell ⟨g, j * 4 + 1, none⟩ (.int .i64 ((ai : Int) + 1))).setCell ⟨g, j * 4 + 1, none⟩ (.int .i64 a)) bs V (setAt (nextS s i ai) a)) := hide (by rw [setAt_setFr n1, hjn]; exact ho4)
  have HB4 := hide (Below.trans (unhide HB3) hb4)
  clear n1 n2 n3 n4 n5 n6 n7 n8 ho4 hb4 eg3 fz3
  go_wp2
  go_ret
  exact ⟨rfl, unhide HB4, fun _ => ⟨V, unhide HO4⟩⟩
set_option maxRecDepth 100000 in
set_option maxHeartbeats 4000000 in
theorem done_yield (base bs : Nat) (V : Key → Value) (s : St) (i cp bp op n fi ai cb co cl cc : Nat) (a : Int) (w : World) (h : OwnVar base w bs V s) (hd : DoAt base w s i bp op n fi ai cb co cl cc 15 a) (hst0 : 0 < (frAt s i ((fibAt s i).frames.length - 1)).stack.length) (hc : ∀ c : Int, (fibAt s i).caller = c → 0 ≤ c → ∃ k : Nat, c = k ∧ k ≠ i ∧ Runs s k) :
    Calls Tryd.prog 117 #[.slice (some ⟨bp, op, none⟩) n cp, .pointer (some ⟨bs, 0, none⟩)] w fun e w' => EndPost base bs (yieldedS (nextS s i ai)) w e w' := by
  obtain ⟨hn, hr, hfn, hat, hfin, hain, hcl, hpc⟩ := hd
  have hj : (fibAt s i).frames.length - 1 < (fibAt s i).frames.length := by have := hr.fr; omega
  obtain ⟨g, cap, eg, htop⟩ := top_own h hr.lt hr.fr hr.frs
  obtain ⟨b0, b1, _, _⟩ := h.cells
  rw [hn] at b1
  have HTOP := hide htop
  have HO := hide h
  have HPC := hide hpc
  have HRU := hide hr
  have HNX := hide (next_facts hn hr ai)
  have HEG := hide eg
  have hf1 : (fi : Int) < (n : Int) := by omega
  have hf0 : (0 : Int) ≤ (fi : Int) := by omega
  have ha1 : (ai : Int) < (cl : Int) := by omega
  have ha0 : (0 : Int) ≤ (ai : Int) := by omega
  have hwa : IntKind.i64.wrap ((ai : Int) + 1) = (ai : Int) + 1 := by rw [IntKind.wrap_i64]; omega
  generalize hjj : (fibAt s i).frames.length - 1 = j at *
  have HJJ := hide hjj
  clear htop h hpc hr eg hjj
  go_enter Tryd.func117, Tryd.ntmps117
  go_wp2_with fail
  refine (unhide HTOP).mono ?_
  rintro _ _ ⟨rfl, m0, rfl⟩
  have ho1 : OwnVar base (w.drewN m0) bs V s := (unhide HO).same rfl
  have hb1 : Below base w (w.drewN m0) := below_drewN (Below.refl _ _) m0
  generalize w.drewN m0 = w1 at ho1 hb1 ⊢
  obtain ⟨g', cap', eg', hcap, k0, k1, k2, k3, fz, hbg⟩ := ho1.own.fr (i := i) (j := j) (unhide HRU).lt hj
  have hVg : V (.frames i) = .slice (some ⟨g, 0, none⟩) (fibAt s i).frames.length cap := unhide HEG
  obtain ⟨rfl, rfl⟩ : g = g' ∧ cap = cap' := by rw [hVg] at eg'; simpa using eg'
  rw [hfn] at k0
  rw [hat] at k1
  obtain ⟨x0, x1, x2⟩ := (unhide HPC) w1 hb1
  have HY : Hid (∀ u, Kept w1 u → u.cell? ⟨g, j * 4, none⟩ = some (.int .i64 fi) ∧ u.cell? ⟨g, j * 4 + 1, none⟩ = some (.int .i64 ai) ∧ u.cell? ⟨bp, op + fi * 3 + 2, none⟩ = some (.slice (some ⟨cb, co, none⟩) cl cc) ∧ u.cell? ⟨cb, co + ai * 2, none⟩ = some (.int .i64 15) ∧ u.cell? ⟨cb, co + ai * 2 + 1, none⟩ = some (.int .i64 a)) := hide (fun u hu => ⟨hu.cell k0, hu.cell k1, hu.cell x0, hu.cell x1, hu.cell x2⟩)
  have HO1 := hide ho1
  have HB1 := hide hb1
  have hgl := cell_lt k0
  simp only at hgl
  have HGL := hide hgl
  have hlow := ho1.low
  have hbw := lt_of_block ho1.var
  clear ho1 hb1 k0 k1 k2 k3 x0 x1 x2 fz eg' hgl HTOP
  go_wp2_with fail
  go_region_held3 (fun u => u.cell? ⟨g, j * 4, none⟩ = some (.int .i64 fi) ∧ u.cell? ⟨g, j * 4 + 1, none⟩ = some (.int .i64 ai) ∧ u.cell? ⟨bp, op + fi * 3 + 2, none⟩ = some (.slice (some ⟨cb, co, none⟩) cl cc) ∧ u.cell? ⟨cb, co + ai * 2, none⟩ = some (.int .i64 15) ∧ u.cell? ⟨cb, co + ai * 2 + 1, none⟩ = some (.int .i64 a)) (exact (unhide HY) _ (by repeat (first | exact Kept.refl _ | refine Kept.drew ?_ | refine Kept.alloc ?_ _ | refine Kept.setCell ?_ (by simp) _))) (fail)
  rename_i hheld
  clear hheld HY
  have LX : (w1.alloc (.cells #[.int .i64 15, .int .i64 a] 38)).drew.heap[w1.heap.size]? = some (.cells #[.int .i64 15, .int .i64 a] 38) := lays_drew (lays_new rfl)
  have ho2 : OwnVar base (w1.alloc (.cells #[.int .i64 15, .int .i64 a] 38)).drew bs V s := ((unhide HO1).alloc _).same rfl
  have hb2 : Below base w (w1.alloc (.cells #[.int .i64 15, .int .i64 a] 38)).drew := (Below.alloc (unhide HB1) (by omega) _).drew
  have hoffX : Own.off V s w1.heap.size := (unhide HO1).own.new_off (.inl (Nat.le_refl _))
  have hXb : base ≤ w1.heap.size := by omega
  have hXs : bs ≠ w1.heap.size := by omega
  have hXg : w1.heap.size ≠ g := by have := unhide HGL; omega
  generalize (w1.alloc (.cells #[.int .i64 15, .int .i64 a] 38)).drew = w2 at LX ho2 hb2 ⊢
  generalize w1.heap.size = X at LX hoffX hXb hXs hXg ⊢
  obtain ⟨_, _, eg2, _, _, k1, k2, _, fz, hbg2⟩ := ho2.own.fr (i := i) (j := j) (unhide HRU).lt hj
  obtain ⟨rfl, rfl⟩ := (by rw [hVg] at eg2; simpa using eg2 : g = _ ∧ cap = _)
  rw [hat] at k1
  have fz1 := fz (j * 4 + 1)
  obtain ⟨ho3, hb3⟩ := ho2.setAt (unhide HRU).lt hj hVg ((ai : Int) + 1)
  have ho3' : OwnVar base (w2.setCell ⟨g, j * 4 + 1, none⟩ (.int .i64 ((ai : Int) + 1))) bs V (nextS s i ai) := by unfold nextS; rw [unhide HJJ]; exact ho3
  have LX3 := lays_other LX (a := ⟨g, j * 4 + 1, none⟩) hXg (.int .i64 ((ai : Int) + 1))
  have y0 := cell_lays LX3 0
  have y1 := cell_lays LX3 1
  have HO3 := hide ho3'
  have HB3 := hide (Below.trans hb2 hb3)
  have HLX := hide LX3
  have HOX := hide hoffX
  clear ho2 hb2 ho3 ho3' hb3 LX LX3 fz eg2 HO1 HB1 HO hoffX
  go_wp2_with fail
  generalize w2.setCell ⟨g, j * 4 + 1, none⟩ (.int .i64 ((ai : Int) + 1)) = w3 at HO3 HB3 y0 y1 HLX ⊢
  obtain ⟨n1, n2, n3, n4, n5, n6, n7, n8⟩ := unhide HNX
  have hjn : (fibAt (nextS s i ai) i).frames.length - 1 = j := by rw [n5]; exact unhide HJJ
  have hcn : ∀ c : Int, (fibAt (nextS s i ai) i).caller = c → 0 ≤ c → ∃ k : Nat, c = k ∧ k ≠ i ∧ Runs (nextS s i ai) k := fun c h1 h2 => by
    rw [n4] at h1
    obtain ⟨k, h3, h4, h5⟩ := hc c h1 h2
    exact ⟨k, h3, h4, next_other ai k h4 h5⟩
  have HC := hide (yielded_any base bs V (nextS s i ai) i w3 (unhide HO3) n1 n8 (by rw [hjn, n6]; exact hst0) hcn)
  clear n1 n2 n3 n4 n5 n6 n7 n8 y0 y1
  refine (unhide HC).mono ?_
  rintro _ w4 ⟨rfl, hb4, ho4⟩
  have HB4 := hide hb4
  have HO4 := hide ho4
  clear hb4 ho4 HC
  generalize hRR : (yieldedS (nextS s i ai)) = RR at HO4 ⊢
  have HRR := hide hRR
  clear hRR
  go_wp2
  go_ret
  unfold EndPost
  rw [unhide HRR]
  exact ⟨rfl, Below.trans (unhide HB3) (unhide HB4), unhide HO4⟩
end Go.Proofs.YtohlefnljgkdcabDoor
