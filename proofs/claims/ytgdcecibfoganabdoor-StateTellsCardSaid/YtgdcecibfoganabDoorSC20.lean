/-
  The reference's machine: truth, reckoned.
  The reference's machine: done, what is plain of it.
  As in TakesT, where T waits for what is taken first by way of others.
  The reference's machine: done, of ops of some kinds.
-/
import Derived.Test.YtgdcecibfoganabDoorSC14
import Derived.Test.YtgdcecibfoganabDoorSC08
import Derived.Test.YtgdcecibfoganabDoorSC19
import Derived.Deep.RegionHeld3
import Derived.Test.YtgdcecibfoganabDoorSC18

namespace Go.Proofs.YtgdcecibfoganabDoor
open Go.RowKit

theorem truth_any (b : Bool) (w : World) : Calls Tryd.prog 132 #[.bool b] w fun e w' => e = .returned (.int .i64 (truthS b)) ∧ w = w' := by
  cases b with
  | true =>
    go_enter Tryd.func132, Tryd.ntmps132
    go_wp2
    go_ret
    exact ⟨rfl, rfl⟩
  | false =>
    go_enter Tryd.func132, Tryd.ntmps132
    go_wp2
    go_ret
    exact ⟨rfl, rfl⟩

theorem wrap64_S (z : Int) : wrap64 z = wrapS z := by
  unfold wrap64 wrapS
  rw [Int.bmod_def]
  omega

set_option maxHeartbeats 1000000 in
theorem reckoned_any (kd a b : Int) (w : World) : Calls Tryd.prog 131 #[.int .i64 kd, .int .i64 a, .int .i64 b] w fun e w' => e = .returned (.int .i64 (reckonS kd a b)) ∧ w = w' := by
  unfold reckonS
  by_cases h4 : kd = 4
  · subst h4
    rw [if_pos rfl, ← wrap64_S]
    go_enter Tryd.func131, Tryd.ntmps131
    go_wp2
    go_ret
    exact ⟨rfl, rfl⟩
  rw [if_neg h4]
  have b4 : (kd == 4) = false := by rw [beq_eq_false_iff_ne]; exact h4
  clear h4
  by_cases h5 : kd = 5
  · subst h5
    rw [if_pos rfl, ← wrap64_S]
    go_enter Tryd.func131, Tryd.ntmps131
    go_wp2
    go_ret
    exact ⟨rfl, rfl⟩
  rw [if_neg h5]
  have b5 : (kd == 5) = false := by rw [beq_eq_false_iff_ne]; exact h5
  clear h5
  by_cases h6 : kd = 6
  · subst h6
    rw [if_pos rfl, ← wrap64_S]
    go_enter Tryd.func131, Tryd.ntmps131
    go_wp2
    go_ret
    exact ⟨rfl, rfl⟩
  rw [if_neg h6]
  have b6 : (kd == 6) = false := by rw [beq_eq_false_iff_ne]; exact h6
  clear h6
  by_cases h7 : kd = 7
  · subst h7
    rw [if_pos rfl]
    go_enter Tryd.func131, Tryd.ntmps131
    go_wp2_with (go_at_call 132; refine (truth_any _ _).mono ?_; rintro e w' ⟨rfl, rfl⟩)
    go_ret
    exact ⟨rfl, rfl⟩
  rw [if_neg h7]
  have b7 : (kd == 7) = false := by rw [beq_eq_false_iff_ne]; exact h7
  clear h7
  go_enter Tryd.func131, Tryd.ntmps131
  go_wp2_with (go_at_call 132; refine (truth_any _ _).mono ?_; rintro e w' ⟨rfl, rfl⟩)
  go_ret
  exact ⟨rfl, rfl⟩
end Go.Proofs.YtgdcecibfoganabDoor

namespace Go.Proofs.YtgdcecibfoganabDoor
open Go.RowKit

/-- Who runs is at an op of the program, which lies below. -/
structure DoAt (base : Nat) (w : World) (s : St) (i bp op n fi ai cb co cl cc : Nat) (kd a : Int) : Prop where
  now : s.now = i
  runs : Runs s i
  fn : (frAt s i ((fibAt s i).frames.length - 1)).fn = fi
  at_ : (frAt s i ((fibAt s i).frames.length - 1)).at_ = ai
  fin : fi < n
  ain : ai < cl
  most : cl ≤ 1000
  cells : ∀ u, Below base w u → u.cell? ⟨bp, op + fi * 3 + 2, none⟩ = some (.slice (some ⟨cb, co, none⟩) cl cc) ∧ u.cell? ⟨cb, co + ai * 2, none⟩ = some (.int .i64 kd) ∧ u.cell? ⟨cb, co + ai * 2 + 1, none⟩ = some (.int .i64 a)

/-- One op further. -/
def nextS (s : St) (i ai : Nat) : St := setFr s i ((fibAt s i).frames.length - 1) { frAt s i ((fibAt s i).frames.length - 1) with at_ := (ai : Int) + 1 }
theorem setAt_setFr {s : St} {i : Nat} (hn : s.now = i) (a : Int) : setAt s a = setFr s i ((fibAt s i).frames.length - 1) { frAt s i ((fibAt s i).frames.length - 1) with at_ := a } := by
  unfold setAt
  rw [hn, turnTop_setFr]
theorem top_at {s : St} {i : Nat} (hn : s.now = i) : s.top = frAt s i ((fibAt s i).frames.length - 1) := by
  unfold St.top St.fib
  rw [hn, Int.toNat_natCast, show s.fibers.getD i Fb.zero = fibAt s i from rfl, top_frAt]
theorem next_facts {s : St} {i : Nat} (hn : s.now = i) (hr : Runs s i) (ai : Nat) :
    (nextS s i ai).now = i ∧ (nextS s i ai).fibers.length = s.fibers.length ∧ (nextS s i ai).out = s.out ∧ (∀ k, (fibAt (nextS s i ai) k).caller = (fibAt s k).caller) ∧ (∀ k, (fibAt (nextS s i ai) k).frames.length = (fibAt s k).frames.length) ∧
    frAt (nextS s i ai) i ((fibAt s i).frames.length - 1) = { frAt s i ((fibAt s i).frames.length - 1) with at_ := (ai : Int) + 1 } ∧ (∀ k, k ≠ i → fibAt (nextS s i ai) k = fibAt s k) ∧ Runs (nextS s i ai) i := by
  have hj : (fibAt s i).frames.length - 1 < (fibAt s i).frames.length := by have := hr.fr; omega
  have h6 : frAt (nextS s i ai) i ((fibAt s i).frames.length - 1) = { frAt s i ((fibAt s i).frames.length - 1) with at_ := (ai : Int) + 1 } := frAt_same _ hr.lt hj
  have h5 : ∀ k, (fibAt (nextS s i ai) k).frames.length = (fibAt s k).frames.length := fun k => setFr_frames _ hr.lt k
  have h2 : (nextS s i ai).fibers.length = s.fibers.length := setFib_len _ _ _
  refine ⟨hn, h2, rfl, fun k => setFr_caller _ hr.lt k, h5, h6, fun k hk => setFr_other _ (fun e => hk e.symm), ⟨by rw [h2]; exact hr.lt, by rw [h5]; exact hr.fr, by rw [h5]; exact hr.frs, ?_⟩⟩
  rw [h5, h6]
  exact hr.st
theorem next_other {s : St} {i : Nat} (ai k : Nat) (hk : k ≠ i) (h : Runs s k) : Runs (nextS s i ai) k :=
  h.other (setFib_len _ _ _) (setFr_other _ (fun e => hk e.symm))
theorem next_fr {s : St} {i : Nat} (hr : Runs s i) (ai t q : Nat) : (frAt (nextS s i ai) t q).stack = (frAt s t q).stack ∧ (frAt (nextS s i ai) t q).locals = (frAt s t q).locals ∧ (frAt (nextS s i ai) t q).fn = (frAt s t q).fn := by
  have hj : (fibAt s i).frames.length - 1 < (fibAt s i).frames.length := by have := hr.fr; omega
  unfold nextS
  by_cases e : i = t ∧ (fibAt s i).frames.length - 1 = q
  · obtain ⟨rfl, rfl⟩ := e
    rw [frAt_same _ hr.lt hj]
    exact ⟨rfl, rfl, rfl⟩
  · rw [frAt_ne _ hr.lt e]
    exact ⟨rfl, rfl, rfl⟩
theorem next_fits {s : St} {i : Nat} (hn : s.now = i) (hr : Runs s i) (ai : Nat) (h : Fits s) : Fits (nextS s i ai) := by
  obtain ⟨h1, h2, h3, h4, h5, h6, h7, h8⟩ := next_facts hn hr ai
  refine ⟨by rw [h2]; exact h.fibers, by rw [h3]; exact h.out, fun a ha => by rw [h5]; rw [h2] at ha; exact h.frames a ha, fun a b ha hb => ?_, fun a b ha hb => ?_⟩
  · rw [(next_fr hr ai a b).2.1]; rw [h2] at ha; rw [h5] at hb; exact h.locals a b ha hb
  · rw [(next_fr hr ai a b).1]; rw [h2] at ha; rw [h5] at hb; exact h.stack a b ha hb
theorem next_callers {s : St} {i : Nat} (hn : s.now = i) (hr : Runs s i) (ai : Nat) (h : ∀ b, b ∈ s.fibers → -1 ≤ b.caller ∧ b.caller < s.fibers.length) : ∀ b, b ∈ (nextS s i ai).fibers → -1 ≤ b.caller ∧ b.caller < (nextS s i ai).fibers.length := by
  obtain ⟨h1, h2, h3, h4, h5, h6, h7, h8⟩ := next_facts hn hr ai
  intro b hb
  obtain ⟨q, hq, rfl⟩ := List.getElem_of_mem hb
  have e1 : fibAt (nextS s i ai) q = (nextS s i ai).fibers[q] := by simp [fibAt, List.getD, hq]
  have hq' : q < s.fibers.length := by rw [← h2]; exact hq
  have e2 : fibAt s q = s.fibers[q] := by simp [fibAt, List.getD, hq']
  rw [← e1, h4, e2, h2]
  exact h _ (List.getElem_mem hq')
theorem next_line {s : St} {i : Nat} (hn : s.now = i) (hr : Runs s i) (ai : Nat) : lineS (nextS s i ai) = lineS s := by
  obtain ⟨h1, h2, h3, h4, h5, h6, h7, h8⟩ := next_facts hn hr ai
  unfold lineS
  rw [h2, h1, hn]
  rw [lineF_congr (fs := (nextS s i ai).fibers) (fs' := s.fibers) (fun n => h4 n.toNat)]

/-- The op, done, in parts. -/
theorem doneS_at {p : List Fn} {s : St} {i fi ai : Nat} {kd a : Int} (hn : s.now = i) (hf : (frAt s i ((fibAt s i).frames.length - 1)).fn = fi) (ha : (frAt s i ((fibAt s i).frames.length - 1)).at_ = ai) (hx : (codeOf p fi).getD ai (0, 0) = (kd, a)) :
    doneS p s = (if kd = 0 then (pushV (nextS s i ai) i a, 0)
      else if kd = 1 then (pullV (nextS s i ai), 0)
      else if kd = 2 then (pushV (nextS s i ai) i ((nextS s i ai).top.locals.getD a.toNat 0), 0)
      else if kd = 3 then ((pullV (nextS s i ai)).turnTop i fun f => { f with locals := f.locals.set a.toNat (lastV (nextS s i ai)) }, 0)
      else if kd = 9 then (setAt (nextS s i ai) a, 0)
      else if kd = 10 then (if lastV (nextS s i ai) = 0 then setAt (pullV (nextS s i ai)) a else pullV (nextS s i ai), 0)
      else if kd = 11 then calledS p (nextS s i ai) a
      else if kd = 12 then givenS (nextS s i ai)
      else if kd = 13 then madeS p (nextS s i ai) a
      else if kd = 14 then resumedS (nextS s i ai)
      else if kd = 15 then yieldedS (nextS s i ai)
      else if kd = 16 then putS (pullV (nextS s i ai)) (lastV (nextS s i ai))
      else (pushV (pullV (pullV (nextS s i ai))) i (reckonS kd (lastV (pullV (nextS s i ai))) (lastV (nextS s i ai))), 0)) := by
  unfold doneS
  have ht := top_at hn
  have hs : setAt s (s.top.at_ + 1) = nextS s i ai := by rw [setAt_setFr hn, ht, ha]; rfl
  have hnow : (nextS s i ai).now = i := hn
  simp only []
  rw [hs, ht, hf, ha, Int.toNat_natCast, Int.toNat_natCast, hx, hnow]
end Go.Proofs.YtgdcecibfoganabDoor

namespace Go.Proofs.YtgdcecibfoganabDoor
open Go.RowKit

/-- Whoever is listed, all for which it waits are listed. -/
def Closed (md : Region.Mode) (ops : Array Oper) (listed : Array Bool) : Prop :=
  ∀ k o, ops[k]? = some o → listed.getD k false = true → ∀ e ∈ o.after, Region.binds md e = true → listed.getD e.on false = true
def closedB (md : Region.Mode) (ops : Array Oper) (listed : Array Bool) : Bool :=
  (List.range ops.size).all fun k => !(listed.getD k false) || (match ops[k]? with | none => true | some o => o.after.all fun e => !(Region.binds md e) || listed.getD e.on false)
theorem closedB_spec {md : Region.Mode} {ops : Array Oper} {listed : Array Bool} (h : closedB md ops listed = true) : Closed md ops listed := by
  intro k o hk hl e he hb
  have hks : k < ops.size := (Array.getElem?_eq_some_iff.1 hk).1
  have := List.all_eq_true.1 h k (by simpa using hks)
  rw [hl, hk] at this
  simp only [Bool.not_true, Bool.false_or] at this
  have h2 := Array.all_eq_true_iff_forall_mem.1 this e he
  rw [hb] at h2
  simpa using h2

inductive Waits (md : Region.Mode) (ops : Array Oper) (i : Nat) : Nat → Prop
  | one {T : Nat} {o : Oper} {e : Edge} : ops[T]? = some o → e ∈ o.after → Region.binds md e = true → e.on = i → Waits md ops i T
  | more {T : Nat} {o : Oper} {e : Edge} : ops[T]? = some o → e ∈ o.after → Region.binds md e = true → Waits md ops i e.on → Waits md ops i T
def waitsB (md : Region.Mode) (ops : Array Oper) (i : Nat) : Nat → Nat → Bool
  | 0, _ => false
  | f + 1, T => match ops[T]? with | none => false | some o => o.after.any fun e => Region.binds md e && (e.on == i || waitsB md ops i f e.on)
theorem waitsB_spec {md : Region.Mode} {ops : Array Oper} {i : Nat} : ∀ (f T : Nat), waitsB md ops i f T = true → Waits md ops i T
  | 0, _, h => by cases h
  | f + 1, T, h => by
    unfold waitsB at h
    cases ho : ops[T]? with
    | none => rw [ho] at h; cases h
    | some o =>
      rw [ho] at h
      simp only [Array.any_eq_true, Bool.and_eq_true, Bool.or_eq_true, beq_iff_eq] at h
      obtain ⟨q, hq, hb, h1 | h1⟩ := h
      · exact .one ho (Array.getElem_mem hq) hb h1
      · exact .more ho (Array.getElem_mem hq) hb (waitsB_spec f _ h1)
theorem Waits.listed {md : Region.Mode} {ops : Array Oper} {i T : Nat} {listed : Array Bool} (hc : Closed md ops listed) (h : Waits md ops i T) :
    (∀ o, ops[T]? = some o → ∀ e ∈ o.after, Region.binds md e = true → listed.getD e.on false = true) → listed.getD i false = true := by
  induction h with
  | one ho he hb hi => intro hp; rw [← hi]; exact hp _ ho _ he hb
  | more ho he hb _ ih => intro hp; exact ih (fun o' ho' e' he' hb' => hc _ o' ho' (hp _ ho _ he hb) e' he' hb')
theorem getD_set_mono {listed : Array Bool} (j k : Nat) (h : listed.getD k false = true) : (listed.setIfInBounds j true).getD k false = true := by
  by_cases e : j = k
  · subst e
    have hs : j < listed.size := by
      rcases Nat.lt_or_ge j listed.size with h' | h'
      · exact h'
      · simp [Array.getElem?_eq_none h'] at h
    simp [hs]
  · rw [Go.getD_set_ne false e]; exact h
theorem Closed.set {md : Region.Mode} {ops : Array Oper} {listed : Array Bool} (hc : Closed md ops listed) {j : Nat} (hj : j ∈ Region.ready md ops listed) : Closed md ops (listed.setIfInBounds j true) := by
  intro k o hk hl e he hb
  obtain ⟨_, oj, hoj, hall⟩ := mem_ready.1 hj
  by_cases ejk : j = k
  · subst ejk
    rw [hoj] at hk
    obtain rfl := Option.some.inj hk
    exact getD_set_mono j _ (hall e he hb)
  · rw [Go.getD_set_ne false ejk] at hl
    exact getD_set_mono j _ (hc k o hk hl e he hb)

variable {P : Program} {md : Region.Mode} {ops : Array Oper} {Q : Exit → Act → World → Prop} {S : World → Prop} {T : Nat}

theorem AnyT.firstU {i : Nat} {oi : Oper} {v : Value} (hi : ops[i]? = some oi) (hsel : ∀ (j : Nat) (o : Oper) cs b, ops[j]? = some o → o.op ≠ .select cs b)
    (hQ : ∀ c a w, Q (.panic c) (a.put oi.dst v) w → Q (.panic c) a w) (hT : Waits md ops i T) :
    ∀ (n : Nat) (listed : Array Bool) (a : Act) (w : World), Closed md ops listed →
      (∀ j oj, ops[j]? = some oj → j ≠ i → listed.getD j true = false → (∀ e ∈ oj.after, Region.binds md e = true → e.on ≠ i) → oi.apart ops oj = true) →
      i ∈ Region.ready md ops listed → YieldsIf P ops S oi v a → S w →
      AnyT P md ops Q S T n (listed.setIfInBounds i true) (a.put oi.dst v) w → AnyT P md ops Q S T (n + 1) listed a w := by
  intro n
  induction n with
  | zero =>
    intro listed a w _ _ hr hy hS H
    refine ⟨fun h => (by rw [h] at hr; cases hr), fun j hj => ?_⟩
    by_cases hji : j = i
    · subst hji
      exact hy.wpOp hi hS ⟨fun _ => hS, H⟩
    · have := ready_mono hj hji
      rw [H.1] at this
      cases this
  | succ n ih =>
    intro listed a w hC hfree hr hy hS H
    refine ⟨fun h => (by rw [h] at hr; cases hr), fun j hj => ?_⟩
    by_cases hji : j = i
    · subst hji
      exact hy.wpOp hi hS ⟨fun _ => hS, H⟩
    · have h1 := H.2 j (ready_mono hj hji)
      obtain ⟨hjun, oj, hoj, hall⟩ := mem_ready.1 hj
      have hun := (mem_ready.1 hr).1
      have hnl : listed.getD i false ≠ true := by
        intro hc
        rcases Nat.lt_or_ge i listed.size with h' | h'
        · simp [h'] at hun hc
          rw [hun] at hc
          cases hc
        · simp [Array.getElem?_eq_none h'] at hc
      have hnot : ∀ e ∈ oj.after, Region.binds md e = true → e.on ≠ i := fun e he hb heq => hnl (by have := hall e he hb; rwa [heq] at this)
      have hjT : j ≠ T := by
        intro e
        subst e
        exact hnl (hT.listed hC (fun o ho e he hb => by rw [hoj] at ho; obtain rfl := Option.some.inj ho; exact hall e he hb))
      have h2 := wpOp_putIf hoj (hfree j oj hoj hji hjun hnot) (fun cs b => hsel i oi cs b hi) (fun cs b => hsel j oj cs b hoj) hQ hy h1
      refine wpOp_mono (fun a' w' h3 => ⟨fun _ => h3.2.1 hjT, ih (listed.setIfInBounds j true) a' w' (hC.set hj) ?_ (ready_mono hr (Ne.symm hji)) h3.1 (h3.2.1 hjT) ?_⟩) h2
      · intro k ok hk hki hku hno
        refine hfree k ok hk hki ?_ hno
        by_cases hjk : j = k
        · subst hjk; exact hjun
        · rw [Go.getD_set_ne true hjk] at hku; exact hku
      · rw [Array.setIfInBounds_comm _ _ hji]
        exact h3.2.2

/-- An operation that is wanted, yields in every world that meets S, and for which T waits. -/
theorem takeU {L tl : List Oper} {i : Nat} {oi : Oper} {v : Value} {fuel : Nat} {listed : Array Bool} {a : Act} {w : World} (hd : L.drop i = oi :: tl)
    (hs : Region.noSelect L.toArray = true) (hf : Region.free md L.toArray listed i = true) (hr : (Region.ready md L.toArray listed).contains i = true) (hT : (waitsB md L.toArray i 40 T && closedB md L.toArray listed) = true)
    (hQ : ∀ c a w, Q (.panic c) (a.put oi.dst v) w → Q (.panic c) a w) (hw : Region.wanted oi (yielded L.toArray a.tmps) = true) (hy : ∀ u, S u → (execOp a.eval oi).run P u = .ok (.value v) u) (hS : S w)
    (h : AnyT P md L.toArray Q S T fuel (listed.setIfInBounds i true) (a.put oi.dst v) w) : AnyT P md L.toArray Q S T (fuel + 1) listed a w :=
  AnyT.firstU (at_drop hd) (Region.noSelect_spec hs) hQ (waitsB_spec 40 T (Bool.and_eq_true_iff.1 hT).1) fuel listed a w (closedB_spec (Bool.and_eq_true_iff.1 hT).2) (Region.free_spec (at_drop hd) hf) (by simpa using hr) (.inl ⟨hw, hy⟩) hS h
end Go.Proofs.YtgdcecibfoganabDoor

namespace Go.Proofs.YtgdcecibfoganabDoor
open Go.RowKit

set_option maxRecDepth 100000 in
set_option maxHeartbeats 4000000 in
theorem done_push (base bs : Nat) (V : Key → Value) (s : St) (i cp bp op n fi ai cb co cl cc : Nat) (a : Int) (w : World) (h : OwnVar base w bs V s) (hd : DoAt base w s i bp op n fi ai cb co cl cc 0 a) :
    Calls Tryd.prog 117 #[.slice (some ⟨bp, op, none⟩) n cp, .pointer (some ⟨bs, 0, none⟩)] w fun e w' => EndPost base bs  (pushV (nextS s i ai) i a, 0) w e w' := by
  obtain ⟨hn, hr, hfn, hat, hfin, hain, hcl, hpc⟩ := hd
  have hj : (fibAt s i).frames.length - 1 < (fibAt s i).frames.length := by have := hr.fr; omega
  obtain ⟨g, cap, eg, htop⟩ := top_own h hr.lt hr.fr hr.frs
  obtain ⟨b0, b1, _, _⟩ := h.cells
  rw [hn] at b1
  have HTOP := hide htop
  have HO := hide h
  have HPC := hide hpc
  have HRU := hide hr
  have HNX := hide (next_facts hn hr ai)
  have HEG := hide eg
  have hf1 : (fi : Int) < (n : Int) := by omega
  have hf0 : (0 : Int) ≤ (fi : Int) := by omega
  have ha1 : (ai : Int) < (cl : Int) := by omega
  have ha0 : (0 : Int) ≤ (ai : Int) := by omega
  have hwa : IntKind.i64.wrap ((ai : Int) + 1) = (ai : Int) + 1 := by rw [IntKind.wrap_i64]; omega
  generalize hjj : (fibAt s i).frames.length - 1 = j at *
  have HJJ := hide hjj
  clear htop h hpc hr eg hjj
  go_enter Tryd.func117, Tryd.ntmps117
  go_wp2_with fail
  refine (unhide HTOP).mono ?_
  rintro _ _ ⟨rfl, m0, rfl⟩
  have ho1 : OwnVar base (w.drewN m0) bs V s := (unhide HO).same rfl
  have hb1 : Below base w (w.drewN m0) := below_drewN (Below.refl _ _) m0
  generalize w.drewN m0 = w1 at ho1 hb1 ⊢
  obtain ⟨g', cap', eg', hcap, k0, k1, k2, k3, fz, hbg⟩ := ho1.own.fr (i := i) (j := j) (unhide HRU).lt hj
  have hVg : V (.frames i) = .slice (some ⟨g, 0, none⟩) (fibAt s i).frames.length cap := unhide HEG
  obtain ⟨rfl, rfl⟩ : g = g' ∧ cap = cap' := by rw [hVg] at eg'; simpa using eg'
  rw [hfn] at k0
  rw [hat] at k1
  obtain ⟨x0, x1, x2⟩ := (unhide HPC) w1 hb1
  have HY : Hid (∀ u, Kept w1 u → u.cell? ⟨g, j * 4, none⟩ = some (.int .i64 fi) ∧ u.cell? ⟨g, j * 4 + 1, none⟩ = some (.int .i64 ai) ∧ u.cell? ⟨bp, op + fi * 3 + 2, none⟩ = some (.slice (some ⟨cb, co, none⟩) cl cc) ∧ u.cell? ⟨cb, co + ai * 2, none⟩ = some (.int .i64 0) ∧ u.cell? ⟨cb, co + ai * 2 + 1, none⟩ = some (.int .i64 a)) := hide (fun u hu => ⟨hu.cell k0, hu.cell k1, hu.cell x0, hu.cell x1, hu.cell x2⟩)
  have HO1 := hide ho1
  have HB1 := hide hb1
  have hgl := cell_lt k0
  simp only at hgl
  have HGL := hide hgl
  have hlow := ho1.low
  have hbw := lt_of_block ho1.var
  clear ho1 hb1 k0 k1 k2 k3 x0 x1 x2 fz eg' hgl HTOP
  go_wp2_with fail
  go_region_held3 (fun u => u.cell? ⟨g, j * 4, none⟩ = some (.int .i64 fi) ∧ u.cell? ⟨g, j * 4 + 1, none⟩ = some (.int .i64 ai) ∧ u.cell? ⟨bp, op + fi * 3 + 2, none⟩ = some (.slice (some ⟨cb, co, none⟩) cl cc) ∧ u.cell? ⟨cb, co + ai * 2, none⟩ = some (.int .i64 0) ∧ u.cell? ⟨cb, co + ai * 2 + 1, none⟩ = some (.int .i64 a)) (exact (unhide HY) _ (by repeat (first | exact Kept.refl _ | refine Kept.drew ?_ | refine Kept.alloc ?_ _ | refine Kept.setCell ?_ (by simp) _))) (fail)
  rename_i hheld
  clear hheld HY
  have LX : (w1.alloc (.cells #[.int .i64 0, .int .i64 a] 38)).drew.heap[w1.heap.size]? = some (.cells #[.int .i64 0, .int .i64 a] 38) := lays_drew (lays_new rfl)
  have ho2 : OwnVar base (w1.alloc (.cells #[.int .i64 0, .int .i64 a] 38)).drew bs V s := ((unhide HO1).alloc _).same rfl
  have hb2 : Below base w (w1.alloc (.cells #[.int .i64 0, .int .i64 a] 38)).drew := (Below.alloc (unhide HB1) (by omega) _).drew
  have hoffX : Own.off V s w1.heap.size := (unhide HO1).own.new_off (.inl (Nat.le_refl _))
  have hXb : base ≤ w1.heap.size := by omega
  have hXs : bs ≠ w1.heap.size := by omega
  have hXg : w1.heap.size ≠ g := by have := unhide HGL; omega
  generalize (w1.alloc (.cells #[.int .i64 0, .int .i64 a] 38)).drew = w2 at LX ho2 hb2 ⊢
  generalize w1.heap.size = X at LX hoffX hXb hXs hXg ⊢
  obtain ⟨_, _, eg2, _, _, k1, k2, _, fz, hbg2⟩ := ho2.own.fr (i := i) (j := j) (unhide HRU).lt hj
  obtain ⟨rfl, rfl⟩ := (by rw [hVg] at eg2; simpa using eg2 : g = _ ∧ cap = _)
  rw [hat] at k1
  have fz1 := fz (j * 4 + 1)
  obtain ⟨ho3, hb3⟩ := ho2.setAt (unhide HRU).lt hj hVg ((ai : Int) + 1)
  have ho3' : OwnVar base (w2.setCell ⟨g, j * 4 + 1, none⟩ (.int .i64 ((ai : Int) + 1))) bs V (nextS s i ai) := by unfold nextS; rw [unhide HJJ]; exact ho3
  have LX3 := lays_other LX (a := ⟨g, j * 4 + 1, none⟩) hXg (.int .i64 ((ai : Int) + 1))
  have y0 := cell_lays LX3 0
  have y1 := cell_lays LX3 1
  have HO3 := hide ho3'
  have HB3 := hide (Below.trans hb2 hb3)
  have HLX := hide LX3
  have HOX := hide hoffX
  clear ho2 hb2 ho3 ho3' hb3 LX LX3 fz eg2 HO1 HB1 HO hoffX
  go_wp2_with fail
  generalize w2.setCell ⟨g, j * 4 + 1, none⟩ (.int .i64 ((ai : Int) + 1)) = w3 at HO3 HB3 y0 y1 HLX ⊢
  obtain ⟨n1, n2, n3, n4, n5, n6, n7, n8⟩ := unhide HNX
  obtain ⟨_, c1, _, _⟩ := (unhide HO3).cells
  rw [n1] at c1
  have HPU := hide (fun (u : World) (hu : u.heap = w3.heap) => push_any base bs V (nextS s i ai) i a u ((unhide HO3).same hu) n8.lt n8.fr n8.frs n8.st)
  have HYS : Hid (∀ u, Kept w3 u → u.cell? ⟨bs, 1, none⟩ = some (.int .i64 i) ∧ u.cell? ⟨X, 1, none⟩ = some (.int .i64 a)) := hide (fun u hu => ⟨hu.cell c1, hu.cell y1⟩)
  clear c1 n1 n2 n3 n4 n5 n6 n7 n8 y0 y1
  refine wp_regionT 7 (fun u => u.cell? ⟨bs, 1, none⟩ = some (.int .i64 i) ∧ u.cell? ⟨X, 1, none⟩ = some (.int .i64 a)) (by kernel_rfl) ?_
  have hHeld := (unhide HYS) _ (Kept.refl w3).drew
  refine takeU (i := 0) (v := ?_) rfl (by kernel_rfl) (by kernel_rfl) (by kernel_rfl) (by kernel_rfl) (fun _ _ _ h => h) (by rfl) (fun u hSu => ?_) hHeld ?_
  rotate_left
  · ((try dsimp only at hSu); go_simp) <;> with_reducible rfl
  try simp only [Act.put, List.setIfInBounds_toArray, List.set_cons_zero, List.set_cons_succ]
  refine takeU (i := 1) (v := ?_) rfl (by kernel_rfl) (by kernel_rfl) (by kernel_rfl) (by kernel_rfl) (fun _ _ _ h => h) (by rfl) (fun u hSu => ?_) hHeld ?_
  rotate_left
  · ((try dsimp only at hSu); go_simp) <;> with_reducible rfl
  try simp only [Act.put, List.setIfInBounds_toArray, List.set_cons_zero, List.set_cons_succ]
  refine takeU (i := 2) (v := ?_) rfl (by kernel_rfl) (by kernel_rfl) (by kernel_rfl) (by kernel_rfl) (fun _ _ _ h => h) (by rfl) (fun u hSu => ?_) hHeld ?_
  rotate_left
  · ((try dsimp only at hSu); go_simp) <;> with_reducible rfl
  try simp only [Act.put, List.setIfInBounds_toArray, List.set_cons_zero, List.set_cons_succ]
  refine takeU (i := 3) (v := ?_) rfl (by kernel_rfl) (by kernel_rfl) (by kernel_rfl) (by kernel_rfl) (fun _ _ _ h => h) (by rfl) (fun u hSu => ?_) hHeld ?_
  rotate_left
  · ((try dsimp only at hSu); go_simp) <;> with_reducible rfl
  try simp only [Act.put, List.setIfInBounds_toArray, List.set_cons_zero, List.set_cons_succ]
  refine takeU (i := 4) (v := ?_) rfl (by kernel_rfl) (by kernel_rfl) (by kernel_rfl) (by kernel_rfl) (fun _ _ _ h => h) (by rfl) (fun u hSu => ?_) hHeld ?_
  rotate_left
  · ((try dsimp only at hSu); go_simp) <;> with_reducible rfl
  try simp only [Act.put, List.setIfInBounds_toArray, List.set_cons_zero, List.set_cons_succ]
  refine takeU (i := 5) (v := ?_) rfl (by kernel_rfl) (by kernel_rfl) (by kernel_rfl) (by kernel_rfl) (fun _ _ _ h => h) (by rfl) (fun u hSu => ?_) hHeld ?_
  rotate_left
  · ((try dsimp only at hSu); go_simp) <;> with_reducible rfl
  try simp only [Act.put, List.setIfInBounds_toArray, List.set_cons_zero, List.set_cons_succ]
  refine takeU (i := 6) (v := ?_) rfl (by kernel_rfl) (by kernel_rfl) (by kernel_rfl) (by kernel_rfl) (fun _ _ _ h => h) (by rfl) (fun u hSu => ?_) hHeld ?_
  rotate_left
  · ((try dsimp only at hSu); go_simp) <;> with_reducible rfl
  try simp only [Act.put, List.setIfInBounds_toArray, List.set_cons_zero, List.set_cons_succ]
  refine takeT_one (i := 7) rfl (by kernel_rfl) (fun K hK => ?_)
  go_simp
  refine ((unhide HPU) w3.drew rfl).mono ?_
  rintro _ w4 ⟨rfl, V4, ho4, hb4⟩
  refine hK.out _ _ (fun h => absurd rfl h) ?_
  clear hK K
  refine takeT_done (by kernel_rfl) ?_ _
  clear hHeld
  have HO4 := hide ho4
  have HB4 := hide (Below.trans (Below.drew (Below.refl _ w3)) hb4)
  clear ho4 hb4 HPU HYS
  go_wp2
  go_ret
  exact ⟨rfl, Below.trans (unhide HB3) (unhide HB4), fun _ => ⟨V4, unhide HO4⟩⟩

end Go.Proofs.YtgdcecibfoganabDoor
