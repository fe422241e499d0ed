/- Plain, Keep, Mem, OpenG, Open, ProgS, FlowS, OpM, FlowM, FlowN, ProgT -/
import Derived.Below
import Derived.WalkKit
import Derived.WalkSmall
import Derived.BigQuiet
import Derived.Test.YtkepbeeioalmbabDoorRows
import Derived.ProofKit
import Derived.OpenShut
import Derived.Deep.Slices
import Derived.SizedLaws
import Derived.Deep.Strs
import Derived.Lib.LaidTab
set_option maxRecDepth 100000
set_option maxHeartbeats 8000000
namespace Go.Proofs.YtkepbeeioalmbabDoor
structure Fn where
  args : Int
  locals : Int
  code : List (Int × Int)
def Fn.zero : Fn := ⟨0, 0, []⟩
def ixB (i n : Int) : Bool := decide (0 ≤ i) && decide (i < n)
theorem ixB_true {i n : Int} (h : 0 ≤ i) (h' : i < n) : ixB i n = true := by simp [ixB, h, h']
theorem ixB_false {i n : Int} (h : ¬ (0 ≤ i ∧ i < n)) : ixB i n = false := by
  unfold ixB; rw [Bool.and_eq_false_iff]; simp only [decide_eq_false_iff_not]; omega
theorem ixB_iff {i n : Int} : ixB i n = true ↔ 0 ≤ i ∧ i < n := by simp [ixB]
def inB (n low high : Int) : Bool := decide (low ≤ n) && decide (n ≤ high)
theorem inB_true {n l h : Int} (h1 : l ≤ n) (h2 : n ≤ h) : inB n l h = true := by simp [inB, h1, h2]
theorem inB_false {n l h : Int} (h' : ¬ (l ≤ n ∧ n ≤ h)) : inB n l h = false := by
  unfold inB; rw [Bool.and_eq_false_iff]; simp only [decide_eq_false_iff_not]; omega
theorem inB_iff {n l h : Int} : inB n l h = true ↔ l ≤ n ∧ n ≤ h := by simp [inB]
theorem inB_ixB (i n : Int) : inB i 0 (n - 1) = ixB i n := by
  rw [Bool.eq_iff_iff, inB_iff, ixB_iff]; omega
def roomB (a l : Int) : Bool := decide (0 ≤ a) && decide (a ≤ l) && decide (l ≤ 4)
theorem roomB_iff {a l : Int} : roomB a l = true ↔ 0 ≤ a ∧ a ≤ l ∧ l ≤ 4 := by simp [roomB, and_assoc]
def ktab : List Int := [0,1,1, 1,0,0, 0,1,2, 1,0,2, 2,1,0, 2,1,0, 2,1,0, 2,1,0, 2,1,0, 0,0,3, 1,0,3, 0,1,4, 1,0,0, 0,1,4, 2,1,0, 1,1,0, 1,0,0]
def tk (k : Nat) : Int := ktab.getD (k * 3) 0
def lv (k : Nat) : Int := ktab.getD (k * 3 + 1) 0
def opd (k : Nat) : Int := ktab.getD (k * 3 + 2) 0
def effS (p : List Fn) (kd a : Int) : Int × Int × Int :=
  if 0 ≤ kd ∧ kd < 17 then
    if kd = 11 then (if 0 ≤ a ∧ a < p.length then ((p.getD a.toNat Fn.zero).args, 1, 0) else (0, 0, 5))
    else (tk kd.toNat, lv kd.toNat, 0)
  else (0, 0, 4)
def mayB (p : List Fn) (f : Fn) (o a : Int) : Bool :=
  if o = 0 then decide (a = 0) else if o = 1 then inB a 0 999 else if o = 2 then ixB a f.locals else if o = 3 then ixB a f.code.length
  else ixB a p.length && roomB (p.getD a.toNat Fn.zero).args (p.getD a.toNat Fn.zero).locals
def opS (p : List Fn) (f : Fn) (x : Int × Int) : Int :=
  if 0 ≤ x.1 ∧ x.1 < 17 then
    if mayB p f (opd x.1.toNat) x.2 = true then (if x.1 = 13 ∧ (p.getD x.2.toNat Fn.zero).args ≠ 1 then 1 else 0) else 3
  else 4
def opsS (p : List Fn) (f : Fn) : List (Int × Int) → Int
  | [] => 0
  | x :: r => if opS p f x = 0 then opsS p f r else opS p f x
def chkS (p : List Fn) (f : Int) : Int :=
  if 0 ≤ f ∧ f < p.length then
    let g := p.getD f.toNat Fn.zero
    if 24 < g.code.length then 2 else if roomB g.args g.locals = true then opsS p g g.code else 3
  else 5
theorem getD_of_lt {α : Type} (l : List α) (i : Nat) (d : α) (h : i < l.length) : l[i]? = some (l.getD i d) := by
  simp [List.getD, h]
open Go.RowKit
abbrev Kept (w w' : World) : Prop := Below w.heap.size w w'
theorem Kept.refl (w : World) : Kept w w := Below.refl _ w
theorem Kept.trans {a b c : World} (h : Kept a b) (k : Kept b c) : Kept a c := Below.trans h (Below.mono k h.size)
theorem Kept.drew {a b : World} (h : Kept a b) : Kept a b.drew := Below.drew h
theorem Kept.alloc {a b : World} (h : Kept a b) (o : Obj) : Kept a (b.alloc o) := Below.alloc h h.size o
theorem Kept.setCell {a b : World} (h : Kept a b) {p : Addr} (hp : a.heap.size ≤ p.block) (u : Value) : Kept a (b.setCell p u) := Below.setCell h hp u
theorem Kept.drewN {a b : World} (h : Kept a b) (n : Nat) : Kept a (b.drewN n) := below_drewN h n
theorem cell_lt {w : World} {p : Addr} {v : Value} (h : w.cell? p = some v) : p.block < w.heap.size := by
  unfold World.cell? at h
  split at h
  · rename_i hb; exact (Array.getElem?_eq_some_iff.1 hb).1
  · cases h
theorem Kept.cell {w w' : World} (h : Kept w w') {p : Addr} {v : Value} (hc : w.cell? p = some v) : w'.cell? p = some v :=
  (Below.cell h (cell_lt hc)).trans hc
theorem hide {p : Prop} (h : p) : Hid p := h
theorem unhide {p : Prop} (h : Hid p) : p := h
theorem lays_new {w : World} {o : Obj} {b : Nat} (h : w.heap.size = b) : (w.alloc o).heap[b]? = some o := by
  subst h
  show (w.heap.push o)[w.heap.size]? = _
  simp
theorem lays_alloc {w : World} {o : Obj} {b : Nat} (h : w.heap[b]? = some o) (o' : Obj) : (w.alloc o').heap[b]? = some o :=
  (Below.heap_alloc w o' b (Array.getElem?_eq_some_iff.1 h).1).trans h
theorem lays_kept {w w' : World} (k : Kept w w') {o : Obj} {b : Nat} (h : w.heap[b]? = some o) : w'.heap[b]? = some o :=
  (k.block b (Array.getElem?_eq_some_iff.1 h).1).trans h
theorem lays_drew {w : World} {o : Obj} {b : Nat} (h : w.heap[b]? = some o) : w.drew.heap[b]? = some o := h
theorem lays_other {w : World} {o : Obj} {b : Nat} (h : w.heap[b]? = some o) {a : Addr} (hn : b ≠ a.block) (u : Value) : (w.setCell a u).heap[b]? = some o :=
  (Below.heap_setCell w a u b hn).trans h
theorem cell_lays {w : World} {b : Nat} {c : Array Value} {t : TypeId} {fr : Nat × Nat} (h : w.heap[b]? = some (.cells c t fr)) (i : Nat) : w.cell? ⟨b, i, none⟩ = c[i]? := by
  simp [World.cell?, h]
theorem lays_set {w : World} {b : Nat} {c : Array Value} {t : TypeId} {fr : Nat × Nat} (h : w.heap[b]? = some (.cells c t fr)) (i : Nat) (u : Value) : (w.setCell ⟨b, i, none⟩ u).heap[b]? = some (.cells (c.setIfInBounds i u) t fr) := by
  simp [World.setCell, Array.getElem?_modify, h]
theorem frozen_lays {w : World} {b : Nat} {c : Array Value} {t : TypeId} (h : w.heap[b]? = some (.cells c t (0, 0))) (i : Nat) : w.frozen? ⟨b, i, none⟩ = false := by
  simp [World.frozen?, h]
structure KeptX (B : Nat) (w w' : World) : Prop where
  os : w'.os = w.os
  tape : w'.tape = w.tape
  output : w'.output = w.output
  size : w.heap.size ≤ w'.heap.size
  block : ∀ k, k < w.heap.size → k ≠ B → w'.heap[k]? = w.heap[k]?
theorem KeptX.of {B : Nat} {w w' : World} (h : Kept w w') : KeptX B w w' := ⟨h.os, h.tape, h.output, h.size, fun k hk _ => h.block k hk⟩
theorem KeptX.refl (B : Nat) (w : World) : KeptX B w w := .of (Kept.refl w)
theorem KeptX.trans {B : Nat} {a b c : World} (h : KeptX B a b) (k : KeptX B b c) : KeptX B a c :=
  ⟨k.os.trans h.os, k.tape.trans h.tape, k.output.trans h.output, Nat.le_trans h.size k.size, fun i hi hn => (k.block i (Nat.lt_of_lt_of_le hi h.size) hn).trans (h.block i hi hn)⟩
theorem KeptX.alloc {B : Nat} {a b : World} (h : KeptX B a b) (o : Obj) : KeptX B a (b.alloc o) := h.trans (.of ((Kept.refl _).alloc _))
theorem KeptX.drew {B : Nat} {a b : World} (h : KeptX B a b) : KeptX B a b.drew := h.trans (.of (Kept.refl _).drew)
theorem KeptX.setCell {B : Nat} {a b : World} (h : KeptX B a b) {p : Addr} (hp : p.block = B ∨ a.heap.size ≤ p.block) (u : Value) : KeptX B a (b.setCell p u) :=
  ⟨h.os, h.tape, h.output, by simpa [World.setCell] using h.size, fun k hk hn => (Below.heap_setCell _ _ _ _ (by omega)).trans (h.block k hk hn)⟩
theorem KeptX.kept {B : Nat} {w0 w w' : World} (h0 : Kept w0 w) (hB : w0.heap.size ≤ B) (h : KeptX B w w') : Kept w0 w' :=
  ⟨h.os.trans h0.os, h.tape.trans h0.tape, h.output.trans h0.output, Nat.le_trans h0.size h.size, fun k hk => (h.block k (Nat.lt_of_lt_of_le hk h0.size) (by omega)).trans (h0.block k hk)⟩
theorem KeptX.cell {B : Nat} {w w' : World} (h : KeptX B w w') {p : Addr} {v : Value} (hn : p.block ≠ B) (hc : w.cell? p = some v) : w'.cell? p = some v :=
  (World.cell?_of_block (w := w) (h.block p.block (cell_lt hc) hn)).trans hc
theorem KeptX.frozen {B : Nat} {w w' : World} (h : KeptX B w w') {p : Addr} (hp : p.block < w.heap.size) (hn : p.block ≠ B) : w'.frozen? p = w.frozen? p :=
  World.frozen?_of_block (w := w) (h.block p.block hp hn)
theorem KeptX.lays {B : Nat} {w w' : World} (h : KeptX B w w') {b : Nat} {o : Obj} (hn : b ≠ B) (hb : w.heap[b]? = some o) : w'.heap[b]? = some o :=
  (h.block b (Array.getElem?_eq_some_iff.1 hb).1 hn).trans hb
def IntsW (w : World) (v : Value) (l : List Int) : Prop :=
  ∃ oa cap, v = .slice oa l.length cap ∧ l.length ≤ 17592186043904 ∧ ∀ i z, l[i]? = some z → ∃ b o, oa = some ⟨b, o, none⟩ ∧ w.cell? ⟨b, o + i, none⟩ = some (.int .i64 z)
theorem IntsW.kept {w w' : World} (h : Kept w w') {v : Value} {l : List Int} (hl : IntsW w v l) : IntsW w' v l := by
  obtain ⟨oa, cap, e, hn, hi⟩ := hl
  refine ⟨oa, cap, e, hn, fun i z hz => ?_⟩
  obtain ⟨b, o, e1, h1⟩ := hi i z hz
  exact ⟨b, o, e1, h.cell h1⟩
theorem IntsW.nil (w : World) : IntsW w (.slice none 0 0) [] := ⟨none, 0, rfl, by simp, fun i z h => by simp at h⟩
def CodeAt (w : World) (v : Value) (c : List (Int × Int)) : Prop :=
  ∃ oa cap, v = .slice oa c.length cap ∧ c.length ≤ 8796093022208 ∧ ∀ i x, c[i]? = some x → ∃ b o, oa = some ⟨b, o, none⟩ ∧
    w.cell? ⟨b, o + i * 2, none⟩ = some (.int .i64 x.1) ∧ w.cell? ⟨b, o + i * 2 + 1, none⟩ = some (.int .i64 x.2)
def ProgAt (w : World) (v : Value) (p : List Fn) : Prop :=
  ∃ oa cap, v = .slice oa p.length cap ∧ p.length ≤ 8796093022208 ∧ ∀ i f, p[i]? = some f → ∃ b o cv, oa = some ⟨b, o, none⟩ ∧
    w.cell? ⟨b, o + i * 3, none⟩ = some (.int .i64 f.args) ∧ w.cell? ⟨b, o + i * 3 + 1, none⟩ = some (.int .i64 f.locals) ∧
    w.cell? ⟨b, o + i * 3 + 2, none⟩ = some cv ∧ CodeAt w cv f.code
def KindsAt (w : World) : Prop := ∀ k, k < 51 → w.cell? ⟨0, k, none⟩ = some (.int .i64 (ktab.getD k 0))
theorem CodeAt.kept {w w' : World} (h : Kept w w') {v : Value} {c : List (Int × Int)} (hc : CodeAt w v c) : CodeAt w' v c := by
  obtain ⟨oa, cap, e, hl, hi⟩ := hc
  refine ⟨oa, cap, e, hl, fun i x hx => ?_⟩
  obtain ⟨b, o, e1, h1, h2⟩ := hi i x hx
  exact ⟨b, o, e1, h.cell h1, h.cell h2⟩
theorem ProgAt.kept {w w' : World} (h : Kept w w') {v : Value} {p : List Fn} (hp : ProgAt w v p) : ProgAt w' v p := by
  obtain ⟨oa, cap, e, hl, hi⟩ := hp
  refine ⟨oa, cap, e, hl, fun i f hf => ?_⟩
  obtain ⟨b, o, cv, e1, h1, h2, h3, h4⟩ := hi i f hf
  exact ⟨b, o, cv, e1, h.cell h1, h.cell h2, h.cell h3, h4.kept h⟩
theorem KindsAt.kept {w w' : World} (h : Kept w w') (hk : KindsAt w) : KindsAt w' := fun k hk' => h.cell (hk k hk')
theorem ProgAt.lt {w : World} {v : Value} {p : List Fn} (hp : ProgAt w v p) : p.length ≤ 8796093022208 := by
  obtain ⟨_, _, _, h, _⟩ := hp; exact h
end Go.Proofs.YtkepbeeioalmbabDoor
namespace Go.Proofs.YtkepbeeioalmbabDoor
open Go.RowKit Go.ChangeShapes Go.WideShapes Go.ChangeAt
theorem own : ownKnob Tryd.prog.godebug = none := by kernel_rfl
theorem laidOut : laidOutB Tryd.prog = true := by kernel_rfl
theorem cellsInt : Tryd.prog.cellsOf 3 = 1 := by kernel_rfl
theorem reach_eq : reachBytes = 140737488351232 := rfl
section
variable {H : Type} {enc : TypeId × Value → H} {w : World} {base : Nat} {spare : Nat → Bool} {held : Bool}
theorem spot_none {a : Addr} {v : Value} (h : w.cell? a = some v) : a.spot = none := by
  unfold World.cell? at h
  split at h
  · split at h
    · cases h
    · rename_i hs; simpa using hs
  · cases h
theorem add_of_spot {a : Addr} (h : a.spot = none) (n : Nat) : a.add n = ⟨a.block, a.off + n, none⟩ := by
  unfold Addr.add
  split
  · rename_i e; subst e; cases a; simp_all
  · rfl
theorem weightsAll_mem {P : Program} {e : TypeId} : ∀ {l : List (DataW H)} {d : DataW H}, d ∈ l → ∀ n ∈ d.weights P e, n ∈ DataW.weightsAll P e l
  | d' :: r, d, hd, n, hn => by
    simp only [DataW.weightsAll, List.mem_append]
    rcases List.mem_cons.1 hd with rfl | h
    · exact Or.inl hn
    · exact Or.inr (weightsAll_mem h n hn)
end
theorem trodAll_below {H : Type} {enc : TypeId × Value → H} {W W' : World} (hb : Kept W W') : ∀ {ts : List TypeId} {vs : List Value} {ds : List (DataW H)} {ps : List MemPlace}, (∀ t, t ∈ ts → Tryd.prog.readableRec t = true ∧ t < Tryd.prog.types.size) →
    DataW.TrodAll enc Tryd.prog W 0 (fun _ => true) true ts vs ds ps → (∀ x, x ∈ ps → x.block < W.heap.size) → DataW.TrodAll enc Tryd.prog W' 0 (fun b => decide (b < W.heap.size)) true ts vs ds ps
  | [], vs, ds, ps, _, h, _ => by
    obtain ⟨rfl, rfl, rfl⟩ := trodAll_nil h
    exact trodAll_mk0
  | t :: ts, vs, ds, ps, hr, h, hl => by
    obtain ⟨v, vs', d, ds', p, q, rfl, rfl, rfl, h0, h1⟩ := trodAll_cons h
    obtain ⟨r1, r2⟩ := hr t (by simp)
    exact trodAll_cons_mk (Below.trod laidOut r1 r2 h0 hb (fun x hx => hl x (by simp [hx]))) (trodAll_below hb (fun t ht => hr t (by simp [ht])) h1 (fun x hx => hl x (by simp [hx])))
end Go.Proofs.YtkepbeeioalmbabDoor
namespace Go.Proofs.YtkepbeeioalmbabDoor
open Go.RowKit Go.ChangeShapes Go.WideShapes Go.ChangeAt
theorem cellsOp : Tryd.prog.cellsOf 38 = 2 := by kernel_rfl
theorem cellsOps : Tryd.prog.cellsOf 34 = 1 := by kernel_rfl
theorem cellsFunc : Tryd.prog.cellsOf 36 = 3 := by kernel_rfl
theorem cellsKind : Tryd.prog.cellsOf 77 = 3 := by kernel_rfl
theorem bytesOp : Tryd.prog.bytesOf 38 = 16 := by kernel_rfl
theorem bytesFunc : Tryd.prog.bytesOf 36 = 40 := by kernel_rfl
theorem typeOp : ∃ f0 f1 : Field, Tryd.prog.underlying 38 = some (.struct #[f0, f1]) ∧ f0.type = 3 ∧ f0.offset = 0 ∧ f1.type = 3 ∧ f1.offset = 1 := ⟨_, _, Tryd.underlying38, rfl, rfl, rfl, rfl⟩
theorem typeFunc : ∃ f0 f1 f2 : Field, Tryd.prog.underlying 36 = some (.struct #[f0, f1, f2]) ∧ f0.type = 3 ∧ f0.offset = 0 ∧ f1.type = 3 ∧ f1.offset = 1 ∧ f2.type = 34 ∧ f2.offset = 2 := ⟨_, _, _, Tryd.underlying36, rfl, rfl, rfl, rfl, rfl, rfl⟩
theorem typeKind : ∃ f0 f1 f2 : Field, Tryd.prog.underlying 77 = some (.struct #[f0, f1, f2]) ∧ f0.type = 3 ∧ f0.offset = 0 ∧ f1.type = 3 ∧ f1.offset = 1 ∧ f2.type = 3 ∧ f2.offset = 2 := ⟨_, _, _, Tryd.underlying77, rfl, rfl, rfl, rfl, rfl, rfl⟩
section
variable {H : Type} {enc : TypeId × Value → H} {w : World} {base : Nat} {spare : Nat → Bool} {held : Bool}
theorem trod_op {fuel : Nat} {cs : List Value} {x : DataW H × List MemPlace} (h : DataW.trod enc Tryd.prog w base spare held fuel 38 cs = some x) :
    ∃ k a : Int, cs = [.int .i64 k, .int .i64 a] ∧ x = (.agg [.lit (.int .i64 k), .lit (.int .i64 a)], []) ∧ (Lit.int .i64 k).wf = true ∧ (Lit.int .i64 a).wf = true := by
  obtain ⟨f0, f1, hu, t0, o0, t1, o1⟩ := typeOp
  obtain ⟨y0, y1, n, hx, hl, h0, h1⟩ := trod_struct2 hu h
  rw [t0, o0, cellsInt] at h0
  rw [t1, o1, cellsInt] at h1
  obtain ⟨k, e0, r0, w0⟩ := DataW.trod_int Tryd.underlying3 h0
  obtain ⟨a, e1, r1, w1⟩ := DataW.trod_int Tryd.underlying3 h1
  rw [cellsOp] at hl
  match cs, hl with
  | [c0, c1], _ =>
    simp at e0 e1
    subst e0 e1
    subst r0 r1
    exact ⟨k, a, rfl, by simpa using hx, w0, w1⟩
theorem open_code {fuel : Nat} {v : Value} {x : DataW H × List MemPlace} (h : DataW.trod enc Tryd.prog w base spare held fuel 34 [v] = some x) (hw : ∀ n, n ∈ x.1.weights Tryd.prog 34 → n ≤ reachBytes) : ∃ c, CodeAt w v c := by
  rcases Deep.open_slice Tryd.underlying34 h with ⟨e, _⟩ | ⟨a, len, cap, m, n, D, Pl, e, _, hlc, _, hm, hx, hi⟩
  · simp at e
    subst e
    exact ⟨[], none, 0, rfl, by simp, fun i x h => by simp at h⟩
  · simp at e
    subst e
    have hlm : len ≤ m := by rw [hm]; split <;> omega
    have hlen : len * 16 ≤ 140737488351232 := by
      have := hw ((((List.range len).map D).length + ((List.range (m - len)).map fun j => D (len + j)).length) * Tryd.prog.bytesOf 38) (by rw [hx]; simp [DataW.weights, Tryd.underlying34])
      rw [bytesOp, reach_eq] at this
      simp at this
      omega
    have hall : ∀ i, i < len → ∃ y : Int × Int, w.cell? (a.add (i * 2)) = some (.int .i64 y.1) ∧ w.cell? (a.add (i * 2 + 1)) = some (.int .i64 y.2) := by
      intro i hil
      obtain ⟨cs', hc, ht⟩ := hi i (by omega)
      rw [cellsOp] at hc
      obtain ⟨_, _, hcell⟩ := World.cells?_some hc
      obtain ⟨k, av, rfl, _⟩ := trod_op ht
      refine ⟨(k, av), ?_, ?_⟩
      · have := hcell 0 (by omega); rw [Deep.add_add] at this; simpa using this
      · have := hcell 1 (by omega); rw [Deep.add_add] at this; simpa using this
    obtain ⟨g, hg⟩ := Deep.choose_lt hall
    refine ⟨(List.range len).map g, some a, cap, by simp, by simp; omega, fun i y hy => ?_⟩
    rw [List.getElem?_map, Option.map_eq_some_iff] at hy
    obtain ⟨j, hj, rfl⟩ := hy
    have hjl : i < len := by simpa using (List.getElem?_eq_some_iff.1 hj).1
    obtain rfl : i = j := by simpa [hjl] using hj
    have hs : a.spot = none := by
      have := (hg 0 (by omega)).1
      simp only [Nat.zero_mul] at this
      exact spot_none (by simpa [Addr.add] using this)
    refine ⟨a.block, a.off, by cases a; simp_all, ?_, ?_⟩
    · have := (hg i hjl).1; rwa [add_of_spot hs] at this
    · have := (hg i hjl).2; rwa [add_of_spot hs, ← Nat.add_assoc] at this
theorem open_prog {fuel : Nat} {v : Value} {x : DataW H × List MemPlace} (h : DataW.trod enc Tryd.prog w base spare held fuel 22 [v] = some x) (hw : ∀ n, n ∈ x.1.weights Tryd.prog 22 → n ≤ reachBytes) : ∃ p, ProgAt w v p := by
  rcases Deep.open_slice Tryd.underlying22 h with ⟨e, _⟩ | ⟨a, len, cap, m, n, D, Pl, e, _, hlc, _, hm, hx, hi⟩
  · simp at e
    subst e
    exact ⟨[], none, 0, rfl, by simp, fun i x h => by simp at h⟩
  · simp at e
    subst e
    have hlm : len ≤ m := by rw [hm]; split <;> omega
    have hlen : len * 40 ≤ 140737488351232 := by
      have := hw ((((List.range len).map D).length + ((List.range (m - len)).map fun j => D (len + j)).length) * Tryd.prog.bytesOf 36) (by rw [hx]; simp [DataW.weights, Tryd.underlying22])
      rw [bytesFunc, reach_eq] at this
      simp at this
      omega
    have hall : ∀ i, i < len → ∃ y : Fn × Value, w.cell? (a.add (i * 3)) = some (.int .i64 y.1.args) ∧ w.cell? (a.add (i * 3 + 1)) = some (.int .i64 y.1.locals) ∧ w.cell? (a.add (i * 3 + 2)) = some y.2 ∧ CodeAt w y.2 y.1.code := by
      intro i hil
      obtain ⟨cs', hc, ht⟩ := hi i (by omega)
      rw [cellsFunc] at hc
      obtain ⟨_, hcl, hcell⟩ := World.cells?_some hc
      obtain ⟨f0, f1, f2, hu, t0, o0, t1, o1, t2, o2⟩ := typeFunc
      obtain ⟨y0, y1, y2, n', hy, _, g0, g1, g2⟩ := Deep.trod_struct3 hu ht
      rw [t0, o0, cellsInt] at g0
      rw [t1, o1, cellsInt] at g1
      rw [t2, o2, cellsOps] at g2
      obtain ⟨ar, e0, r0, _⟩ := DataW.trod_int Tryd.underlying3 g0
      obtain ⟨lo, e1, r1, _⟩ := DataW.trod_int Tryd.underlying3 g1
      match cs', hcl with
      | [c0, c1, c2], _ =>
        simp at e0 e1
        subst e0 e1
        simp only [List.drop, List.take] at g2
        have hD : D i = .agg [y0.1, y1.1, y2.1] := congrArg Prod.fst hy
        obtain ⟨c, hcode⟩ := open_code g2 (fun q hq => hw q (by
          rw [hx]
          simp only [DataW.weights, Tryd.underlying22, List.mem_cons, List.mem_append]
          refine Or.inr (Or.inl (weightsAll_mem (d := D i) (List.mem_map.2 ⟨i, by simpa using hil, rfl⟩) q ?_))
          rw [hD]
          simp only [DataW.weights, hu, DataW.weightsEach, List.map_cons, List.map_nil, t0, t1, t2, List.mem_append]
          exact Or.inr (Or.inr (Or.inl hq))))
        refine ⟨(⟨ar, lo, c⟩, c2), ?_, ?_, ?_, hcode⟩
        · have := hcell 0 (by omega); rw [Deep.add_add] at this; simpa using this
        · have := hcell 1 (by omega); rw [Deep.add_add] at this; simpa using this
        · have := hcell 2 (by omega); rw [Deep.add_add] at this; simpa using this
    have : Inhabited (Fn × Value) := ⟨(Fn.zero, .nilIface)⟩
    obtain ⟨g, hg⟩ := Deep.choose_lt hall
    refine ⟨(List.range len).map fun i => (g i).1, some a, cap, by simp, by simp; omega, fun i y hy => ?_⟩
    rw [List.getElem?_map, Option.map_eq_some_iff] at hy
    obtain ⟨j, hj, rfl⟩ := hy
    have hjl : i < len := by simpa using (List.getElem?_eq_some_iff.1 hj).1
    obtain rfl : i = j := by simpa [hjl] using hj
    have hs : a.spot = none := by
      have := (hg 0 (by omega)).1
      simp only [Nat.zero_mul] at this
      exact spot_none (by simpa [Addr.add] using this)
    obtain ⟨k0, k1, k2, k3⟩ := hg i hjl
    refine ⟨a.block, a.off, (g i).2, by cases a; simp_all, ?_, ?_, ?_, k3⟩
    · rwa [add_of_spot hs] at k0
    · rwa [add_of_spot hs, ← Nat.add_assoc] at k1
    · rwa [add_of_spot hs, ← Nat.add_assoc] at k2
end
theorem gKinds : Tryd.prog.globalNamed "glebe/op.kinds" = some 0 := by kernel_rfl
theorem gKindsType : (Tryd.prog.globals[0]?).map (·.type) = some 78 := by kernel_rfl
theorem laid_at {H : Type} (i : Nat) (h : i < 17) : ([.agg [.lit (.int .i64 0), .lit (.int .i64 1), .lit (.int .i64 1)], .agg [.lit (.int .i64 1), .lit (.int .i64 0), .lit (.int .i64 0)], .agg [.lit (.int .i64 0), .lit (.int .i64 1), .lit (.int .i64 2)], .agg [.lit (.int .i64 1), .lit (.int .i64 0), .lit (.int .i64 2)], .agg [.lit (.int .i64 2), .lit (.int .i64 1), .lit (.int .i64 0)], .agg [.lit (.int .i64 2), .lit (.int .i64 1), .lit (.int .i64 0)], .agg [.lit (.int .i64 2), .lit (.int .i64 1), .lit (.int .i64 0)], .agg [.lit (.int .i64 2), .lit (.int .i64 1), .lit (.int .i64 0)], .agg [.lit (.int .i64 2), .lit (.int .i64 1), .lit (.int .i64 0)], .agg [.lit (.int .i64 0), .lit (.int .i64 0), .lit (.int .i64 3)], .agg [.lit (.int .i64 1), .lit (.int .i64 0), .lit (.int .i64 3)], .agg [.lit (.int .i64 0), .lit (.int .i64 1), .lit (.int .i64 4)], .agg [.lit (.int .i64 1), .lit (.int .i64 0), .lit (.int .i64 0)], .agg [.lit (.int .i64 0), .lit (.int .i64 1), .lit (.int .i64 4)], .agg [.lit (.int .i64 2), .lit (.int .i64 1), .lit (.int .i64 0)], .agg [.lit (.int .i64 1), .lit (.int .i64 1), .lit (.int .i64 0)], .agg [.lit (.int .i64 1), .lit (.int .i64 0), .lit (.int .i64 0)]] : List (DataW H))[i]? = some (.agg [.lit (.int .i64 (tk i)), .lit (.int .i64 (lv i)), .lit (.int .i64 (opd i))]) := by
  have : i = 0 ∨ i = 1 ∨ i = 2 ∨ i = 3 ∨ i = 4 ∨ i = 5 ∨ i = 6 ∨ i = 7 ∨ i = 8 ∨ i = 9 ∨ i = 10 ∨ i = 11 ∨ i = 12 ∨ i = 13 ∨ i = 14 ∨ i = 15 ∨ i = 16 := by omega
  rcases this with rfl | rfl | rfl | rfl | rfl | rfl | rfl | rfl | rfl | rfl | rfl | rfl | rfl | rfl | rfl | rfl | rfl <;> rfl
theorem kinds_of_laid {W : World} (h : laidMetH Tryd.prog [("glebe/op.kinds", Rows.laid_glebe_op_kinds)] W) : KindsAt W := by
  obtain ⟨ps, ⟨g', t', cs, fuel, p, q, hg', ht', hvar, hd, _, _⟩, _⟩ := (h : laidMet Tryd.prog [("glebe/op.kinds", Rows.laid_glebe_op_kinds)] W)
  obtain rfl := Option.some.inj (gKinds.symm.trans hg')
  obtain rfl := Option.some.inj (gKindsType.symm.trans ht')
  obtain ⟨xs, m, _, hx, _, hxl, hi⟩ := DataW.trod_array Tryd.underlying78 hd
  have hagg : (Rows.laid_glebe_op_kinds : DataW Unit) = .agg (xs.map (·.1)) := congrArg Prod.fst hx
  have hl : ∀ i, i < 17 → (xs[i]?).map (·.1) = some (.agg [.lit (.int .i64 (tk i)), .lit (.int .i64 (lv i)), .lit (.int .i64 (opd i))]) := by
    intro i hi17
    rw [← List.getElem?_map, ← laid_at i hi17]
    unfold Rows.laid_glebe_op_kinds at hagg
    rw [← DataW.agg.inj hagg]
  have hc : ∀ i, i < 17 → cs[i * 3]? = some (.int .i64 (tk i)) ∧ cs[i * 3 + 1]? = some (.int .i64 (lv i)) ∧ cs[i * 3 + 2]? = some (.int .i64 (opd i)) := by
    intro i hi17
    have h1 := hi i hi17
    obtain ⟨x, hxi, hx1⟩ := Option.map_eq_some_iff.1 (hl i hi17)
    rw [hxi, cellsKind] at h1
    obtain ⟨f0, f1, f2, hu, t0, o0, t1, o1, t2, o2⟩ := typeKind
    obtain ⟨y0, y1, y2, n', hy, _, g0, g1, g2⟩ := Deep.trod_struct3 hu h1
    rw [t0, o0, cellsInt] at g0
    rw [t1, o1, cellsInt] at g1
    rw [t2, o2, cellsInt] at g2
    obtain ⟨z0, e0, r0, _⟩ := DataW.trod_int Tryd.underlying3 g0
    obtain ⟨z1, e1, r1, _⟩ := DataW.trod_int Tryd.underlying3 g1
    obtain ⟨z2, e2, r2, _⟩ := DataW.trod_int Tryd.underlying3 g2
    rw [hy, r0, r1, r2] at hx1
    simp at hx1
    obtain ⟨rfl, rfl, rfl⟩ := hx1
    refine ⟨?_, ?_, ?_⟩
    · have := congrArg (·[0]?) e0
      simpa [List.getElem?_take, List.getElem?_drop] using this
    · have := congrArg (·[0]?) e1
      simpa [List.getElem?_take, List.getElem?_drop, Nat.add_comm, Nat.add_left_comm] using this
    · have := congrArg (·[0]?) e2
      simpa [List.getElem?_take, List.getElem?_drop, Nat.add_comm, Nat.add_left_comm] using this
  intro k hk
  rw [World.var?_cell gKinds hvar k]
  obtain ⟨h0, h1, h2⟩ := hc (k / 3) (by omega)
  have : k = k / 3 * 3 ∨ k = k / 3 * 3 + 1 ∨ k = k / 3 * 3 + 2 := by omega
  rcases this with e | e | e
  · rw [e, h0]; unfold tk; rw [← e]
  · rw [e, h1]; unfold lv; rw [← e]
  · rw [e, h2]; unfold opd; rw [← e]
end Go.Proofs.YtkepbeeioalmbabDoor
namespace Go.Proofs.YtkepbeeioalmbabDoor
def namesB (x : Int × Int) : Bool := decide (x.1 = 11) || decide (x.1 = 13)
def targets (c : List (Int × Int)) : List Nat := (c.filter namesB).map fun x => x.2.toNat
def codeOf (p : List Fn) (g : Nat) : List (Int × Int) := (p.getD g Fn.zero).code
def ReachC (p : List Fn) (f k : Nat) : Prop := ∀ S : Nat → Prop, S f → (∀ k j, k < p.length → S k → j ∈ targets (codeOf p k) → S j) → S k
theorem ReachC.step {p : List Fn} {f k j : Nat} (h : ReachC p f k) (hk : k < p.length) (hj : j ∈ targets (codeOf p k)) : ReachC p f j :=
  fun S h0 hs => hs k j hk (h S h0 hs) hj
theorem ReachC.trans {p : List Fn} {f g k : Nat} (h : ReachC p f g) (h' : ReachC p g k) : ReachC p f k :=
  fun S h0 hs => h' S (h S h0 hs) hs
def MonoB (B B' : List Bool) : Prop := B'.length = B.length ∧ ∀ k, B.getD k false = true → B'.getD k false = true
theorem MonoB.refl (B : List Bool) : MonoB B B := ⟨rfl, fun _ h => h⟩
theorem MonoB.trans {A B C : List Bool} (h : MonoB A B) (k : MonoB B C) : MonoB A C := ⟨k.1.trans h.1, fun i hi => k.2 i (h.2 i hi)⟩
theorem getB_set (B : List Bool) (k i : Nat) : (B.set k true).getD i false = true ↔ (i = k ∧ k < B.length) ∨ B.getD i false = true := by
  simp only [List.getD, List.getElem?_set]
  by_cases h : k = i
  · subst h
    by_cases hk : k < B.length
    · simp [hk]
    · simp [hk]
  · simp [h, Ne.symm h]
theorem MonoB.set (B : List Bool) (k : Nat) : MonoB B (B.set k true) := ⟨by simp, fun i hi => (getB_set B k i).2 (.inr hi)⟩
def VisitOk (p : List Fn) (B B' : List Bool) : Prop :=
  MonoB B B' ∧ ∀ k j, B'.getD k false = true → B.getD k false = false → j ∈ targets (codeOf p k) → B'.getD j false = true
theorem VisitOk.refl (p : List Fn) (B : List Bool) : VisitOk p B B := ⟨.refl B, fun k j h h' => by rw [h] at h'; cases h'⟩
theorem VisitOk.trans {p : List Fn} {A B C : List Bool} (h : VisitOk p A B) (h' : VisitOk p B C) : VisitOk p A C :=
  ⟨h.1.trans h'.1, fun k j hC hA hj => by
    cases hB : B.getD k false with
    | true => exact h'.1.2 j (h.2 k j hB hA hj)
    | false => exact h'.2 k j hC hB hj⟩
def beh (p : List Fn) (x : Int × Int) (h : Int) : Option Int :=
  if (effS p x.1 x.2).2.2 = 0 ∧ (effS p x.1 x.2).1 ≤ h ∧ ¬ (x.1 = 12 ∧ 1 < h) ∧ h - (effS p x.1 x.2).1 + (effS p x.1 x.2).2.1 ≤ 8 then some (h - (effS p x.1 x.2).1 + (effS p x.1 x.2).2.1) else none
def nexts (x : Int × Int) (k : Nat) : List Nat :=
  if x.1 = 12 then [] else if x.1 = 9 then [x.2.toNat] else if x.1 = 10 then [x.2.toNat, k + 1] else [k + 1]
def comesS (f : List Int → Nat → Int → Bool × List Int) : List Nat → List Int → Int → Bool × List Int
  | [], H, _ => (true, H)
  | j :: r, H, m => match f H j m with
    | (true, H') => comesS f r H' m
    | (false, H') => (false, H')
def comeS (p : List Fn) (c : List (Int × Int)) : Nat → List Int → Nat → Int → Bool × List Int
  | 0, H, _, _ => (false, H)
  | n + 1, H, at_, h =>
    if c.length ≤ at_ then (false, H)
    else if H.getD at_ 0 = -1 then
      match beh p (c.getD at_ (0, 0)) h with
      | none => (false, H.set at_ h)
      | some m => comesS (comeS p c n) (nexts (c.getD at_ (0, 0)) at_) (H.set at_ h) m
    else (decide (H.getD at_ 0 = h), H)
theorem comesS_snoc (f : List Int → Nat → Int → Bool × List Int) : ∀ (l : List Nat) (j : Nat) (H : List Int) (m : Int), comesS f (l ++ [j]) H m = match comesS f l H m with
    | (true, H') => f H' j m
    | (false, H') => (false, H')
  | [], j, H, m => by
    simp only [List.nil_append, comesS]
    cases f H j m with
    | mk b H' => cases b <;> rfl
  | i :: l, j, H, m => by
    simp only [List.cons_append, comesS]
    cases f H i m with
    | mk b H' => cases b with
      | false => rfl
      | true => exact comesS_snoc f l j H' m
theorem comesS_prefix (f : List Int → Nat → Int → Bool × List Int) (l : List Nat) (H H' : List Int) (m : Int) (h : comesS f l H m = (false, H')) : ∀ r, comesS f (l ++ r) H m = (false, H') := by
  induction l generalizing H with
  | nil => simp [comesS] at h
  | cons i l ih =>
    intro r
    simp only [List.cons_append, comesS] at h ⊢
    cases hf : f H i m with
    | mk b H2 =>
      rw [hf] at h
      cases b with
      | false => exact h
      | true => exact ih H2 h r
def unv (H : List Int) : Nat := (H.filter (fun z => decide (z = -1))).length
theorem unv_set : ∀ (H : List Int) (k : Nat) (z : Int), H.getD k 0 = -1 → z ≠ -1 → unv (H.set k z) + 1 = unv H
  | [], k, z, h, _ => by simp at h
  | y :: H, 0, z, h, hz => by
    simp at h
    subst h
    simp [unv, hz]
  | y :: H, k + 1, z, h, hz => by
    have ih := unv_set H k z (by simpa using h) hz
    simp only [unv, List.set_cons_succ, List.filter_cons] at ih ⊢
    split
    · simp only [List.length_cons]; omega
    · exact ih
theorem opsS_all {p : List Fn} {g : Fn} : ∀ {c : List (Int × Int)}, opsS p g c = 0 → ∀ x, x ∈ c → opS p g x = 0
  | [], _, x, hx => by cases hx
  | y :: c, h, x, hx => by
    unfold opsS at h
    by_cases hy : opS p g y = 0
    · rw [if_pos hy] at h
      rcases List.mem_cons.1 hx with rfl | hx
      · exact hy
      · exact opsS_all h x hx
    · rw [if_neg hy] at h
      exact absurd h hy
theorem opS_kind {p : List Fn} {g : Fn} {x : Int × Int} (h : opS p g x = 0) : 0 ≤ x.1 ∧ x.1 < 17 ∧ mayB p g (opd x.1.toNat) x.2 = true := by
  unfold opS at h
  by_cases hk : 0 ≤ x.1 ∧ x.1 < 17
  · rw [if_pos hk] at h
    by_cases hm : mayB p g (opd x.1.toNat) x.2 = true
    · exact ⟨hk.1, hk.2, hm⟩
    · rw [if_neg hm] at h; omega
  · rw [if_neg hk] at h; omega
theorem mayB4 {p : List Fn} {g : Fn} {a : Int} (h : mayB p g 4 a = true) : 0 ≤ a ∧ a < p.length ∧ roomB (p.getD a.toNat Fn.zero).args (p.getD a.toNat Fn.zero).locals = true := by
  simp only [mayB] at h
  rw [if_neg (by decide), if_neg (by decide), if_neg (by decide), if_neg (by decide), Bool.and_eq_true, ixB_iff] at h
  exact ⟨h.1.1, h.1.2, h.2⟩
theorem tk_lv (k : Nat) (h : k < 17) : 0 ≤ tk k ∧ tk k ≤ 2 ∧ 0 ≤ lv k ∧ lv k ≤ 1 := by
  have : ∀ k : Fin 17, 0 ≤ tk k ∧ tk k ≤ 2 ∧ 0 ≤ lv k ∧ lv k ≤ 1 := by decide
  exact this ⟨k, h⟩
theorem effS_call {p : List Fn} {g : Fn} {x : Int × Int} (h : opS p g x = 0) (hk : x.1 = 11) : 0 ≤ x.2 ∧ x.2 < p.length ∧ 0 ≤ (p.getD x.2.toNat Fn.zero).args ∧ effS p x.1 x.2 = ((p.getD x.2.toNat Fn.zero).args, 1, 0) := by
  obtain ⟨_, _, hm⟩ := opS_kind h
  rw [hk] at hm
  obtain ⟨h1, h2, h3⟩ := mayB4 (show mayB p g 4 x.2 = true from hm)
  rw [roomB_iff] at h3
  refine ⟨h1, h2, h3.1, ?_⟩
  unfold effS
  rw [if_pos ⟨by omega, by omega⟩, if_pos hk, if_pos ⟨h1, h2⟩]
theorem effS_plain {p : List Fn} {g : Fn} {x : Int × Int} (h : opS p g x = 0) (hk : x.1 ≠ 11) : ∃ ta lb, effS p x.1 x.2 = (ta, lb, 0) ∧ 0 ≤ ta ∧ ta ≤ 2 ∧ 0 ≤ lb ∧ lb ≤ 1 := by
  obtain ⟨h1, h2, _⟩ := opS_kind h
  obtain ⟨a, b, c, d⟩ := tk_lv x.1.toNat (by omega)
  refine ⟨_, _, ?_, a, b, c, d⟩
  unfold effS
  rw [if_pos ⟨h1, h2⟩, if_neg hk]
theorem chkS_zero {p : List Fn} {f : Int} (h : chkS p f = 0) : ∃ i : Nat, f = i ∧ i < p.length ∧ (p.getD i Fn.zero).code.length ≤ 24 ∧ roomB (p.getD i Fn.zero).args (p.getD i Fn.zero).locals = true ∧ opsS p (p.getD i Fn.zero) (p.getD i Fn.zero).code = 0 := by
  unfold chkS at h
  by_cases hf : 0 ≤ f ∧ f < p.length
  · rw [if_pos hf] at h
    obtain ⟨i, rfl⟩ := Int.eq_ofNat_of_zero_le hf.1
    rw [Int.toNat_natCast] at h
    refine ⟨i, rfl, by omega, ?_⟩
    generalize p.getD i Fn.zero = g at *
    by_cases hm : 24 < g.code.length
    · simp only [if_pos hm] at h; omega
    · simp only [if_neg hm] at h
      cases hr : roomB g.args g.locals with
      | false => rw [hr, if_neg (by decide)] at h; omega
      | true => rw [hr, if_pos rfl] at h; exact ⟨by omega, rfl, h⟩
  · rw [if_neg hf] at h; omega
def Reach (p : List Fn) (c : List (Int × Int)) (k : Nat) (h : Int) : Prop :=
  ∀ S : Nat → Int → Prop, S 0 0 → (∀ k h x m j, S k h → c[k]? = some x → beh p x h = some m → j ∈ nexts x k → S j m) → S k h
theorem Reach.zero (p : List Fn) (c : List (Int × Int)) : Reach p c 0 0 := fun _ h _ => h
theorem Reach.step {p : List Fn} {c : List (Int × Int)} {k : Nat} {h : Int} {x : Int × Int} {m : Int} {j : Nat} (r : Reach p c k h) (hx : c[k]? = some x) (hm : beh p x h = some m) (hj : j ∈ nexts x k) : Reach p c j m :=
  fun S h0 hs => hs k h x m j (r S h0 hs) hx hm hj
def Done (p : List Fn) (c : List (Int × Int)) (H : List Int) (k : Nat) : Prop :=
  ∃ x m, c[k]? = some x ∧ beh p x (H.getD k 0) = some m ∧ ∀ j, j ∈ nexts x k → j < c.length ∧ H.getD j 0 = m
structure Cons (p : List Fn) (c : List (Int × Int)) (H : List Int) : Prop where
  len : H.length = c.length
  pos : 0 < c.length
  first : H.getD 0 0 = 0
  done : ∀ k, k < c.length → H.getD k 0 ≠ -1 → Done p c H k
def Sound (p : List Fn) (c : List (Int × Int)) (H : List Int) : Prop :=
  ∀ k, k < c.length → H.getD k 0 = -1 ∨ (0 ≤ H.getD k 0 ∧ Reach p c k (H.getD k 0))
def Right (p : List Fn) (c : List (Int × Int)) : Prop := ∃ g : Fn, g.code = c ∧ ∀ x, x ∈ c → opS p g x = 0
theorem beh_nonneg {p : List Fn} {c : List (Int × Int)} (hr : Right p c) {x : Int × Int} (hx : x ∈ c) {h m : Int} (hm : beh p x h = some m) : 0 ≤ m ∧ m ≤ 8 := by
  obtain ⟨g, _, hg⟩ := hr
  have hop := hg x hx
  have hl : 0 ≤ (effS p x.1 x.2).2.1 := by
    by_cases h11 : x.1 = 11
    · rw [(effS_call hop h11).2.2.2]; exact Int.le_of_lt Int.one_pos
    · obtain ⟨ta, lb, h1, _, _, h4, _⟩ := effS_plain hop h11; rw [h1]; exact h4
  unfold beh at hm
  split at hm
  · rename_i hc
    simp only [Option.some.injEq] at hm
    omega
  · cases hm
theorem Reach.in {p : List Fn} {c : List (Int × Int)} {H : List Int} (hc : Cons p c H) (hr : Right p c) {k : Nat} {h : Int} (r : Reach p c k h) : k < c.length ∧ H.getD k 0 = h ∧ 0 ≤ h := by
  refine r (fun k h => k < c.length ∧ H.getD k 0 = h ∧ 0 ≤ h) ⟨hc.pos, hc.first, by omega⟩ ?_
  rintro k h x m j ⟨h1, h2, h3⟩ hx hm hj
  obtain ⟨x', m', hx', hm', hn⟩ := hc.done k h1 (by omega)
  obtain rfl : x = x' := by rw [hx] at hx'; exact Option.some.inj hx'
  rw [h2] at hm'
  obtain rfl : m = m' := by rw [hm] at hm'; exact Option.some.inj hm'
  obtain ⟨h4, h5⟩ := hn j hj
  exact ⟨h4, h5, (beh_nonneg hr (List.mem_of_getElem? hx) hm).1⟩
theorem cons_one {p : List Fn} {c : List (Int × Int)} (hr : Right p c) {H H' : List Int} (h : Cons p c H) (s : Sound p c H) (h' : Cons p c H') (s' : Sound p c H') : H = H' := by
  apply List.ext_getElem (h.len.trans h'.len.symm)
  intro k hk hk'
  have hkc : k < c.length := h.len ▸ hk
  have e1 : H[k] = H.getD k 0 := by simp [List.getD, hk]
  have e2 : H'[k] = H'.getD k 0 := by simp [List.getD, hk']
  rw [e1, e2]
  rcases s k hkc with a | ⟨a1, a2⟩
  · rcases s' k hkc with b | ⟨b1, b2⟩
    · rw [a, b]
    · have := b2.in h hr; omega
  · have := a2.in h' hr; omega
def Mono (H H' : List Int) : Prop := H'.length = H.length ∧ ∀ k, H.getD k 0 ≠ -1 → H'.getD k 0 = H.getD k 0
theorem Mono.refl (H : List Int) : Mono H H := ⟨rfl, fun _ _ => rfl⟩
theorem Mono.trans {A B C : List Int} (h : Mono A B) (k : Mono B C) : Mono A C :=
  ⟨k.1.trans h.1, fun i hi => by have := h.2 i hi; rw [k.2 i (by rw [this]; exact hi), this]⟩
theorem getD_set {H : List Int} {k : Nat} (hk : k < H.length) (z : Int) (i : Nat) : (H.set k z).getD i 0 = if i = k then z else H.getD i 0 := by
  simp only [List.getD, List.getElem?_set]
  by_cases h : k = i
  · subst h; simp [hk]
  · rw [if_neg h, if_neg (fun e => h e.symm)]
theorem Mono.set {H : List Int} {k : Nat} (hk : k < H.length) {z : Int} (h : H.getD k 0 = -1 ∨ H.getD k 0 = z) : Mono H (H.set k z) := by
  refine ⟨by simp, fun i hi => ?_⟩
  rw [getD_set hk]
  split
  · rename_i e; subst e; rcases h with h | h
    · exact absurd h hi
    · exact h.symm
  · rfl
theorem Done.mono {p : List Fn} {c : List (Int × Int)} (hr : Right p c) {H H' : List Int} (m : Mono H H') {k : Nat} (hk : H.getD k 0 ≠ -1) (d : Done p c H k) : Done p c H' k := by
  obtain ⟨x, n, hx, hn, hj⟩ := d
  refine ⟨x, n, hx, by rw [m.2 k hk]; exact hn, fun j hjn => ?_⟩
  obtain ⟨h1, h2⟩ := hj j hjn
  have h3 := (beh_nonneg hr (List.mem_of_getElem? hx) hn).1
  exact ⟨h1, by rw [m.2 j (by omega), h2]⟩
theorem comes_ok {p : List Fn} {c : List (Int × Int)} (hr : Right p c) (f : List Int → Nat → Int → Bool × List Int)
    (hf : ∀ H j m H', H.length = c.length → 0 ≤ m → f H j m = (true, H') → Mono H H' ∧ j < c.length ∧ H'.getD j 0 = m ∧ (∀ k, k < c.length → H.getD k 0 = -1 → H'.getD k 0 ≠ -1 → Done p c H' k) ∧ (Reach p c j m → Sound p c H → Sound p c H')) :
    ∀ (l : List Nat) (H : List Int) (m : Int) (H' : List Int), H.length = c.length → 0 ≤ m → comesS f l H m = (true, H') →
      Mono H H' ∧ (∀ j, j ∈ l → j < c.length ∧ H'.getD j 0 = m) ∧ (∀ k, k < c.length → H.getD k 0 = -1 → H'.getD k 0 ≠ -1 → Done p c H' k) ∧ ((∀ j, j ∈ l → Reach p c j m) → Sound p c H → Sound p c H')
  | [], H, m, H', hl, hm, h => by
    simp [comesS] at h
    subst h
    exact ⟨Mono.refl _, (fun j hj => by cases hj), fun k _ h1 h2 => absurd h1 h2, fun _ s => s⟩
  | i :: l, H, m, H', hl, hm, h => by
    simp only [comesS] at h
    cases hi : f H i m with
    | mk b H2 =>
      rw [hi] at h
      cases b with
      | false => simp at h
      | true =>
        obtain ⟨m1, i1, i2, d1, s1⟩ := hf H i m H2 hl hm hi
        obtain ⟨m2, j2, d2, s2⟩ := comes_ok hr f hf l H2 m H' (m1.1.trans hl) hm h
        refine ⟨m1.trans m2, ?_, ?_, ?_⟩
        · intro j hj
          rcases List.mem_cons.1 hj with rfl | hj
          · exact ⟨i1, by rw [m2.2 j (by omega), i2]⟩
          · exact j2 j hj
        · intro k hk h1 h2
          by_cases h3 : H2.getD k 0 = -1
          · exact d2 k hk h3 h2
          · exact (d1 k hk h1 h3).mono hr m2 h3
        · intro hR hs
          exact s2 (fun j hj => hR j (by simp [hj])) (s1 (hR i (by simp)) hs)
theorem come_ok {p : List Fn} {c : List (Int × Int)} (hr : Right p c) : ∀ (n : Nat) (H : List Int) (at_ : Nat) (h : Int) (H' : List Int), H.length = c.length → 0 ≤ h → comeS p c n H at_ h = (true, H') →
    Mono H H' ∧ at_ < c.length ∧ H'.getD at_ 0 = h ∧ (∀ k, k < c.length → H.getD k 0 = -1 → H'.getD k 0 ≠ -1 → Done p c H' k) ∧ (Reach p c at_ h → Sound p c H → Sound p c H')
  | 0, H, at_, h, H', _, _, hc => by simp [comeS] at hc
  | n + 1, H, at_, h, H', hl, hh, hc => by
    unfold comeS at hc
    by_cases h1 : c.length ≤ at_
    · rw [if_pos h1] at hc; simp at hc
    · rw [if_neg h1] at hc
      by_cases h2 : H.getD at_ 0 = -1
      · rw [if_pos h2] at hc
        have hx : c[at_]? = some (c.getD at_ (0, 0)) := getD_of_lt c at_ (0, 0) (by omega)
        generalize c.getD at_ (0, 0) = x at hx hc
        cases hb : beh p x h with
        | none => rw [hb] at hc; simp at hc
        | some m =>
          rw [hb] at hc
          have hm := (beh_nonneg hr (List.mem_of_getElem? hx) hb).1
          obtain ⟨m1, j1, d1, s1⟩ := comes_ok hr (comeS p c n) (fun H j m H' a b => come_ok hr n H j m H' a b) (nexts x at_) (H.set at_ h) m H' (by simpa using hl) hm hc
          have hlt : at_ < H.length := by omega
          have hset : (H.set at_ h).getD at_ 0 = h := by rw [getD_set hlt, if_pos rfl]
          have hat : H'.getD at_ 0 = h := by rw [m1.2 at_ (by omega), hset]
          refine ⟨(Mono.set hlt (.inl h2)).trans m1, by omega, hat, ?_, ?_⟩
          · intro k hk k1 k2
            by_cases e : k = at_
            · subst e
              exact ⟨x, m, hx, by rw [hat]; exact hb, j1⟩
            · exact d1 k hk (by rw [getD_set hlt, if_neg e]; exact k1) k2
          · intro hR hs
            refine s1 (fun j hj => hR.step hx hb hj) ?_
            intro k hk
            rw [getD_set hlt]
            by_cases e : k = at_
            · rw [if_pos e, e]; exact .inr ⟨hh, hR⟩
            · rw [if_neg e]; exact hs k hk
      · rw [if_neg h2] at hc
        simp at hc
        obtain ⟨hd, rfl⟩ := hc
        exact ⟨Mono.refl _, by omega, hd, fun k _ a b => absurd a b, fun _ s => s⟩
theorem comes_all {c : List (Int × Int)} (f : List Int → Nat → Int → Bool × List Int) {G : List Int} (n : Nat) {m : Int}
    (hf : ∀ H j, Mono H G → unv H < n → j < c.length → G.getD j 0 = m → ∃ H', f H j m = (true, H') ∧ Mono H' G ∧ unv H' ≤ unv H) :
    ∀ (l : List Nat) (H : List Int), Mono H G → unv H < n → (∀ j, j ∈ l → j < c.length ∧ G.getD j 0 = m) → ∃ H', comesS f l H m = (true, H') ∧ Mono H' G ∧ unv H' ≤ unv H
  | [], H, h, _, _ => ⟨H, rfl, h, Nat.le_refl _⟩
  | i :: l, H, h, hn, hj => by
    obtain ⟨H2, h2, m2, u2⟩ := hf H i h hn (hj i (by simp)).1 (hj i (by simp)).2
    obtain ⟨H3, h3, m3, u3⟩ := comes_all f n hf l H2 m2 (by omega) (fun j hjl => hj j (by simp [hjl]))
    exact ⟨H3, by simp only [comesS]; rw [h2]; exact h3, m3, by omega⟩
theorem come_all {p : List Fn} {c : List (Int × Int)} (hr : Right p c) {G : List Int} (hG : Cons p c G) : ∀ (n : Nat) (H : List Int) (at_ : Nat) (h : Int), Mono H G → unv H < n → at_ < c.length → G.getD at_ 0 = h → 0 ≤ h →
    ∃ H', comeS p c n H at_ h = (true, H') ∧ Mono H' G ∧ unv H' ≤ unv H
  | 0, H, at_, h, _, hn, _, _, _ => by omega
  | n + 1, H, at_, h, hm, hn, ha, hg, hh => by
    unfold comeS
    rw [if_neg (by omega)]
    have hlt : at_ < H.length := by rw [← hm.1, hG.len]; exact ha
    by_cases h2 : H.getD at_ 0 = -1
    · rw [if_pos h2]
      obtain ⟨x, m, hx, hb, hj⟩ := hG.done at_ ha (by omega)
      have hx' := getD_of_lt c at_ (0, 0) ha
      rw [hx] at hx'
      rw [← Option.some.inj hx', ← hg, hb]
      have hmm := (beh_nonneg hr (List.mem_of_getElem? hx) hb).1
      have hu := unv_set H at_ (G.getD at_ 0) h2 (by omega)
      have hset : Mono (H.set at_ (G.getD at_ 0)) G := by
        refine ⟨by simpa using hm.1, fun k hk => ?_⟩
        rw [getD_set hlt] at hk ⊢
        split
        · rename_i e; rw [e]
        · rename_i e; rw [if_neg e] at hk; exact hm.2 k hk
      obtain ⟨H', h3, h4, h5⟩ := comes_all (c := c) (comeS p c n) n (fun H j a b d e => come_all hr hG n H j m a b d e hmm) (nexts x at_) (H.set at_ (G.getD at_ 0)) hset (by omega) hj
      exact ⟨H', h3, h4, by omega⟩
    · rw [if_neg h2]
      have : H.getD at_ 0 = h := by rw [← hm.2 at_ h2, hg]
      exact ⟨H, by simp only [this, decide_true], hm, Nat.le_refl _⟩
def pushS (len : Nat) : List Nat → Int → List Int → Option (List Int)
  | [], _, H => some H
  | j :: r, m, H => if j = len ∨ (0 ≤ H.getD j 0 ∧ H.getD j 0 ≠ m) then none else pushS len r m (H.set j m)
def stepS (p : List Fn) (c : List (Int × Int)) (H : List Int) (k : Nat) : Option (List Int) :=
  if H.getD k 0 < 0 then some H else
    match beh p (c.getD k (0, 0)) (H.getD k 0) with
    | none => none
    | some m => pushS c.length (nexts (c.getD k (0, 0)) k) m H
def roundS (p : List Fn) (c : List (Int × Int)) : Nat → List Int → Option (List Int)
  | 0, H => some H
  | k + 1, H => (roundS p c k H).bind fun H' => stepS p c H' k
def roundsS (p : List Fn) (c : List (Int × Int)) : Nat → List Int → Option (List Int)
  | 0, H => some H
  | r + 1, H => (roundsS p c r H).bind (roundS p c c.length)
def start (c : List (Int × Int)) : List Int := List.replicate c.length (-1)
def heightsS (p : List Fn) (c : List (Int × Int)) : Option (List Int) :=
  if c.length = 0 then none else roundsS p c (c.length + 1) ((start c).set 0 0)
theorem nexts_le {p : List Fn} {c : List (Int × Int)} (hr : Right p c) {k : Nat} {x : Int × Int} (hx : c[k]? = some x) {j : Nat} (hj : j ∈ nexts x k) : j ≤ c.length := by
  obtain ⟨g, rfl, hg⟩ := hr
  obtain ⟨h1, h2, hm⟩ := opS_kind (hg x (List.mem_of_getElem? hx))
  have hk : k < g.code.length := (List.getElem?_eq_some_iff.1 hx).1
  have hJ : (x.1 = 9 ∨ x.1 = 10) → x.2.toNat < g.code.length := by
    intro h
    have ho : opd x.1.toNat = 3 := by rcases h with h | h <;> rw [h] <;> rfl
    rw [ho] at hm
    have := (ixB_iff.1 (show ixB x.2 g.code.length = true from hm))
    omega
  unfold nexts at hj
  split at hj
  · cases hj
  · split at hj
    · rename_i h; simp at hj; have := hJ (.inl h); omega
    · split at hj
      · rename_i h
        simp at hj
        have := hJ (.inr h)
        omega
      · simp at hj; omega
def Inv (c : List (Int × Int)) (H : List Int) : Prop := H.length = c.length ∧ ∀ k, k < c.length → H.getD k 0 = -1 ∨ 0 ≤ H.getD k 0
theorem push_ok {c : List (Int × Int)} {m : Int} (hm : 0 ≤ m) : ∀ (l : List Nat) (H H' : List Int), (∀ j, j ∈ l → j ≤ c.length) → Inv c H → pushS c.length l m H = some H' →
    Mono H H' ∧ Inv c H' ∧ (∀ j, j ∈ l → j < c.length ∧ H'.getD j 0 = m) ∧ (∀ k, H.getD k 0 = -1 → H'.getD k 0 ≠ -1 → k ∈ l ∧ H'.getD k 0 = m)
  | [], H, H', _, hi, h => by
    simp [pushS] at h
    subst h
    exact ⟨Mono.refl _, hi, (fun j hj => by cases hj), fun k a b => absurd a b⟩
  | j :: l, H, H', hl, hi, h => by
    unfold pushS at h
    by_cases hc : j = c.length ∨ (0 ≤ H.getD j 0 ∧ H.getD j 0 ≠ m)
    · rw [if_pos hc] at h; cases h
    · rw [if_neg hc] at h
      have hj : j < c.length := by have := hl j (by simp); omega
      have hlt : j < H.length := by rw [hi.1]; exact hj
      have hold : H.getD j 0 = -1 ∨ H.getD j 0 = m := by
        rcases hi.2 j hj with a | a
        · exact .inl a
        · exact .inr (Decidable.byContradiction fun b => hc (.inr ⟨a, b⟩))
      have hi2 : Inv c (H.set j m) := by
        refine ⟨by simpa using hi.1, fun k hk => ?_⟩
        rw [getD_set hlt]
        split
        · exact .inr hm
        · exact hi.2 k hk
      obtain ⟨m1, i1, j1, n1⟩ := push_ok hm l (H.set j m) H' (fun i hil => hl i (by simp [hil])) hi2 h
      have hjm : H'.getD j 0 = m := by rw [m1.2 j (by rw [getD_set hlt, if_pos rfl]; omega), getD_set hlt, if_pos rfl]
      refine ⟨(Mono.set hlt hold).trans m1, i1, ?_, ?_⟩
      · intro i hil
        rcases List.mem_cons.1 hil with rfl | hil
        · exact ⟨hj, hjm⟩
        · exact j1 i hil
      · intro k a b
        by_cases e : k = j
        · subst e; exact ⟨by simp, hjm⟩
        · obtain ⟨c1, c2⟩ := n1 k (by rw [getD_set hlt, if_neg e]; exact a) b
          exact ⟨by simp [c1], c2⟩
theorem step_ok {p : List Fn} {c : List (Int × Int)} (hr : Right p c) {H H' : List Int} {k : Nat} (hk : k < c.length) (hi : Inv c H) (h : stepS p c H k = some H') :
    Mono H H' ∧ Inv c H' ∧ (H.getD k 0 ≠ -1 → Done p c H' k) ∧ (Sound p c H → Sound p c H') := by
  have hx := getD_of_lt c k (0, 0) hk
  unfold stepS at h
  generalize c.getD k (0, 0) = x at hx h
  by_cases h1 : H.getD k 0 < 0
  · rw [if_pos h1] at h
    simp at h
    subst h
    exact ⟨Mono.refl _, hi, fun a => by rcases hi.2 k hk with b | b <;> omega, fun s => s⟩
  · rw [if_neg h1] at h
    cases hb : beh p x (H.getD k 0) with
    | none => rw [hb] at h; cases h
    | some m =>
      rw [hb] at h
      have hm := (beh_nonneg hr (List.mem_of_getElem? hx) hb).1
      obtain ⟨m1, i1, j1, n1⟩ := push_ok hm (nexts x k) H H' (fun j hj => nexts_le hr hx hj) hi h
      refine ⟨m1, i1, fun hne => ⟨x, m, hx, by rw [m1.2 k hne]; exact hb, j1⟩, fun s i hil => ?_⟩
      by_cases a : H.getD i 0 = -1
      · by_cases b : H'.getD i 0 = -1
        · exact .inl b
        · obtain ⟨c1, c2⟩ := n1 i a b
          rw [c2]
          refine .inr ⟨hm, ?_⟩
          rcases s k hk with d | ⟨_, d⟩
          · omega
          · exact d.step hx hb c1
      · rw [m1.2 i a]; exact s i hil
theorem mono_anti {H H1 : List Int} (a : Mono H H1) (b : Mono H1 H) : H1 = H := by
  apply List.ext_getElem a.1
  intro k hk hk'
  have e1 : H1[k] = H1.getD k 0 := by simp [List.getD, hk]
  have e2 : H[k] = H.getD k 0 := by simp [List.getD, hk']
  rw [e1, e2]
  by_cases h : H.getD k 0 = -1
  · by_cases h' : H1.getD k 0 = -1
    · rw [h, h']
    · exact (b.2 k h').symm
  · exact a.2 k h
theorem round_ok {p : List Fn} {c : List (Int × Int)} (hr : Right p c) : ∀ (k : Nat) (H H' : List Int), k ≤ c.length → Inv c H → roundS p c k H = some H' →
    Mono H H' ∧ Inv c H' ∧ (Sound p c H → Sound p c H') ∧ (H' = H → ∀ i, i < k → H.getD i 0 ≠ -1 → Done p c H i)
  | 0, H, H', _, hi, h => by
    simp [roundS] at h
    subst h
    exact ⟨Mono.refl _, hi, fun s => s, fun _ i hi => by omega⟩
  | k + 1, H, H', hk, hi, h => by
    simp only [roundS] at h
    obtain ⟨H1, h1, h2⟩ := Option.bind_eq_some_iff.1 h
    obtain ⟨m1, i1, s1, d1⟩ := round_ok hr k H H1 (by omega) hi h1
    obtain ⟨m2, i2, d2, s2⟩ := step_ok hr (by omega) i1 h2
    refine ⟨m1.trans m2, i2, fun s => s2 (s1 s), fun e i hik hne => ?_⟩
    subst e
    have e1 := mono_anti m1 m2
    by_cases hlast : i = k
    · subst hlast
      exact d2 (by rw [e1]; exact hne)
    · exact d1 e1 i (by omega) hne
theorem unv_mono : ∀ (H H' : List Int), H'.length = H.length → (∀ k, H.getD k 0 ≠ -1 → H'.getD k 0 = H.getD k 0) → unv H' ≤ unv H ∧ (H' ≠ H → unv H' < unv H)
  | [], [], _, _ => ⟨Nat.le_refl _, fun h => absurd rfl h⟩
  | [], _ :: _, h, _ => by simp at h
  | _ :: _, [], h, _ => by simp at h
  | z :: H, z' :: H', hl, h => by
    obtain ⟨a, b⟩ := unv_mono H H' (by simpa using hl) (fun k hk => by have := h (k + 1) (by simpa using hk); simpa using this)
    have h0 := h 0
    simp only [List.getD_cons_zero] at h0
    have cz : ∀ (z : Int) (H : List Int), unv (z :: H) = (if z = -1 then 1 else 0) + unv H := by
      intro z H
      unfold unv
      rw [List.filter_cons]
      split
      · rename_i e; simp at e; rw [if_pos e]; simp; omega
      · rename_i e; simp at e; rw [if_neg e]; simp
    rw [cz, cz]
    by_cases e : z = -1
    · by_cases e' : z' = -1
      · rw [if_pos e, if_pos e']
        refine ⟨by omega, fun hne => ?_⟩
        have := b (fun q => hne (by rw [q, e, e']))
        omega
      · rw [if_pos e, if_neg e']
        exact ⟨by omega, fun _ => by omega⟩
    · have e2 := h0 e
      rw [e2, if_neg e]
      refine ⟨by omega, fun hne => ?_⟩
      have := b (fun q => hne (by rw [q]))
      omega
theorem rounds_ok {p : List Fn} {c : List (Int × Int)} (hr : Right p c) : ∀ (r : Nat) (H H' : List Int), Inv c H → Sound p c H → roundsS p c r H = some H' →
    Mono H H' ∧ Inv c H' ∧ Sound p c H' ∧ (roundS p c c.length H' = some H' ∨ unv H' + r ≤ unv H)
  | 0, H, H', hi, hs, h => by
    simp [roundsS] at h
    subst h
    exact ⟨Mono.refl _, hi, hs, .inr (by omega)⟩
  | r + 1, H, H', hi, hs, h => by
    simp only [roundsS] at h
    obtain ⟨H1, h1, h2⟩ := Option.bind_eq_some_iff.1 h
    obtain ⟨m1, i1, s1, d1⟩ := rounds_ok hr r H H1 hi hs h1
    obtain ⟨m2, i2, s2, _⟩ := round_ok hr c.length H1 H' (Nat.le_refl _) i1 h2
    refine ⟨m1.trans m2, i2, s2 s1, ?_⟩
    by_cases e : H' = H1
    · subst e; exact .inl h2
    · rcases d1 with d1 | d1
      · rw [h2] at d1; exact absurd (Option.some.inj d1) e
      · have := (unv_mono H1 H' m2.1 m2.2).2 e
        exact .inr (by omega)
theorem unv_le (H : List Int) : unv H ≤ H.length := List.length_filter_le _ _
theorem start_inv {c : List (Int × Int)} (h : 0 < c.length) : Inv c ((start c).set 0 0) ∧ (∀ k, k < c.length → ((start c).set 0 0).getD k 0 = if k = 0 then 0 else -1) := by
  have hl : (start c).length = c.length := by simp [start]
  have hg : ∀ k, k < c.length → ((start c).set 0 0).getD k 0 = if k = 0 then 0 else -1 := by
    intro k hk
    rw [getD_set (by omega)]
    split
    · rfl
    · simp [start, List.getD, hk]
  refine ⟨⟨by simpa using hl, fun k hk => ?_⟩, hg⟩
  rw [hg k hk]
  split
  · exact .inr (by omega)
  · exact .inl rfl
theorem heightsS_ok {p : List Fn} {c : List (Int × Int)} (hr : Right p c) {H : List Int} (h : heightsS p c = some H) : Cons p c H ∧ Sound p c H := by
  unfold heightsS at h
  by_cases h0 : c.length = 0
  · rw [if_pos h0] at h; cases h
  · rw [if_neg h0] at h
    obtain ⟨hi, hg⟩ := start_inv (c := c) (by omega)
    have hs : Sound p c ((start c).set 0 0) := by
      intro k hk
      rw [hg k hk]
      split
      · rename_i e; subst e; exact .inr ⟨by omega, Reach.zero p c⟩
      · exact .inl rfl
    obtain ⟨m1, i1, s1, d1⟩ := rounds_ok hr _ _ H hi hs h
    have hu := unv_le ((start c).set 0 0)
    rw [hi.1] at hu
    have hfix : roundS p c c.length H = some H := by
      rcases d1 with d | d
      · exact d
      · omega
    obtain ⟨_, _, _, d2⟩ := round_ok hr c.length H H (Nat.le_refl _) i1 hfix
    refine ⟨⟨i1.1, by omega, ?_, fun k hk hne => d2 rfl k hk hne⟩, s1⟩
    have h00 := hg 0 (by omega)
    rw [if_pos rfl] at h00
    rw [m1.2 0 (by omega), h00]
theorem push_all {c : List (Int × Int)} {m : Int} {G : List Int} (hl : G.length = c.length) : ∀ (l : List Nat) (H : List Int), Mono H G → (∀ j, j ∈ l → j < c.length ∧ G.getD j 0 = m) → ∃ H', pushS c.length l m H = some H' ∧ Mono H' G
  | [], H, h, _ => ⟨H, rfl, h⟩
  | j :: l, H, h, hj => by
    obtain ⟨h1, h2⟩ := hj j (by simp)
    have hlt : j < H.length := by rw [← h.1, hl]; exact h1
    unfold pushS
    rw [if_neg]
    · refine push_all hl l (H.set j m) ⟨by simpa using h.1, fun k hk => ?_⟩ (fun i hil => hj i (by simp [hil]))
      rw [getD_set hlt] at hk ⊢
      split
      · rename_i e; rw [e, h2]
      · rename_i e; rw [if_neg e] at hk; exact h.2 k hk
    · rintro (a | ⟨a, b⟩)
      · omega
      · exact b (by rw [← h.2 j (by omega), h2])
theorem round_all {p : List Fn} {c : List (Int × Int)} {G : List Int} (hG : Cons p c G) : ∀ (k : Nat) (H : List Int), k ≤ c.length → Mono H G → ∃ H', roundS p c k H = some H' ∧ Mono H' G
  | 0, H, _, h => ⟨H, rfl, h⟩
  | k + 1, H, hk, h => by
    obtain ⟨H1, h1, m1⟩ := round_all hG k H (by omega) h
    simp only [roundS, h1, Option.bind_some]
    unfold stepS
    by_cases hz : H1.getD k 0 < 0
    · rw [if_pos hz]; exact ⟨H1, rfl, m1⟩
    · rw [if_neg hz]
      have e := m1.2 k (by omega)
      obtain ⟨x, m, hx, hb, hj⟩ := hG.done k (by omega) (by omega)
      have hx' := getD_of_lt c k (0, 0) (by omega)
      rw [hx] at hx'
      rw [← Option.some.inj hx', ← e, hb]
      exact push_all hG.len (nexts x k) H1 m1 hj
theorem rounds_all {p : List Fn} {c : List (Int × Int)} {G : List Int} (hG : Cons p c G) : ∀ (r : Nat) (H : List Int), Mono H G → ∃ H', roundsS p c r H = some H' ∧ Mono H' G
  | 0, H, h => ⟨H, rfl, h⟩
  | r + 1, H, h => by
    obtain ⟨H1, h1, m1⟩ := rounds_all hG r H h
    simp only [roundsS, h1, Option.bind_some]
    exact round_all hG c.length H1 (Nat.le_refl _) m1
theorem start_mono {p : List Fn} {c : List (Int × Int)} {G : List Int} (hG : Cons p c G) : Mono ((start c).set 0 0) G ∧ Mono (start c) G := by
  obtain ⟨hi, hg⟩ := start_inv (c := c) hG.pos
  refine ⟨⟨hG.len.trans hi.1.symm, fun k hk => ?_⟩, ⟨hG.len.trans (by simp [start]), fun k hk => ?_⟩⟩
  · by_cases hkl : k < c.length
    · rw [hg k hkl] at hk ⊢
      split
      · rename_i e; rw [e]; exact hG.first
      · rename_i e; rw [if_neg e] at hk; exact absurd rfl hk
    · simp [List.getD, hG.len, hi.1, hkl]
  · by_cases hkl : k < c.length
    · exact absurd (by simp [start, List.getD, hkl]) hk
    · simp [List.getD, hG.len, start, hkl]
def wayS (p : List Fn) (c : List (Int × Int)) : Bool × List Int := comeS p c (c.length + 1) (start c) 0 0
theorem wayS_ok {p : List Fn} {c : List (Int × Int)} (hr : Right p c) {H : List Int} (h : wayS p c = (true, H)) : Cons p c H ∧ Sound p c H := by
  have hl : (start c).length = c.length := by simp [start]
  have hg : ∀ k, k < c.length → (start c).getD k 0 = -1 := fun k hk => by simp [start, List.getD, hk]
  obtain ⟨m1, a1, a2, d1, s1⟩ := come_ok hr _ _ _ _ H hl (by omega) h
  refine ⟨⟨m1.1.trans hl, by omega, a2, fun k hk hne => d1 k hk (hg k hk) hne⟩, s1 (Reach.zero p c) (fun k hk => .inl (hg k hk))⟩
theorem way_heights {p : List Fn} {c : List (Int × Int)} (hr : Right p c) : (∀ H, wayS p c = (true, H) → heightsS p c = some H) ∧ (∀ H, heightsS p c = some H → wayS p c = (true, H)) := by
  constructor
  · intro H h
    obtain ⟨a, b⟩ := wayS_ok hr h
    obtain ⟨H', h', _⟩ := rounds_all a (c.length + 1) _ (start_mono a).1
    have hh : heightsS p c = some H' := by
      unfold heightsS
      rw [if_neg (by have := a.pos; omega)]
      exact h'
    obtain ⟨a', b'⟩ := heightsS_ok hr hh
    rw [hh, cons_one hr a b a' b']
  · intro H h
    obtain ⟨a, b⟩ := heightsS_ok hr h
    have hu := unv_le (start c)
    rw [show (start c).length = c.length by simp [start]] at hu
    obtain ⟨H', h', _⟩ := come_all hr a (c.length + 1) (start c) 0 0 (start_mono a).2 (by omega) a.pos a.first (by omega)
    obtain ⟨a', b'⟩ := wayS_ok hr h'
    rw [cons_one hr a b a' b']
    exact h'
def firstS (e : Nat → Int) : Nat → Nat → Int
  | _, 0 => 0
  | k, n + 1 => if e k = 0 then firstS e (k + 1) n else e k
theorem firstS_zero {e : Nat → Int} : ∀ {n k : Nat}, firstS e k n = 0 → ∀ i, k ≤ i → i < k + n → e i = 0
  | 0, _, _, i, h1, h2 => by omega
  | n + 1, k, h, i, h1, h2 => by
    unfold firstS at h
    split at h
    · rename_i h0
      rcases Nat.lt_or_eq_of_le h1 with h3 | rfl
      · exact firstS_zero h i h3 (by omega)
      · exact h0
    · rename_i h0; exact absurd h h0
theorem firstS_step {e : Nat → Int} {k m : Nat} (h : k < m) : firstS e k (m - k) = if e k = 0 then firstS e (k + 1) (m - (k + 1)) else e k := by
  obtain ⟨n, hn⟩ : ∃ n, m - k = n + 1 := ⟨m - k - 1, by omega⟩
  rw [hn, show m - (k + 1) = n by omega]
  rfl
def hgtE (p : List Fn) (k : Nat) : Int := match heightsS p (codeOf p k) with | some _ => 0 | none => 1
def progS (p : List Fn) : Int :=
  if 5 < p.length then 2 else if p.length = 0 then 5 else if (p.getD 0 Fn.zero).args ≠ 0 then 1
  else if firstS (fun k => chkS p k) 0 p.length = 0 then firstS (hgtE p) 0 p.length else firstS (fun k => chkS p k) 0 p.length
theorem progS_right {p : List Fn} (h : progS p = 0) : p.length ≤ 5 ∧ 0 < p.length ∧ ∀ k, k < p.length → chkS p k = 0 := by
  unfold progS at h
  split at h
  · cases h
  · split at h
    · cases h
    · split at h
      · cases h
      · split at h
        · rename_i h0
          exact ⟨by omega, by omega, fun k hk => firstS_zero h0 k (by omega) (by omega)⟩
        · rename_i h0; exact absurd h h0
end Go.Proofs.YtkepbeeioalmbabDoor
