/- Plain, Keep, Mem, OpenG, Open, ExprS, ExprM, OpenE -/
import Derived.Below
import Derived.WalkKit
import Derived.WalkSmall
import Derived.BigQuiet
import Derived.Test.YtjioipkfnekigaaGreatDoorRows
import Derived.ProofKit
import Derived.OpenShut
import Derived.Deep.Slices
import Derived.SizedLaws
import Derived.Deep.Strs
import Derived.Lib.LaidTab
set_option maxRecDepth 100000
set_option maxHeartbeats 8000000
namespace Go.Proofs.YtjioipkfnekigaaGreatDoor
structure Fn where
  args : Int
  locals : Int
  code : List (Int × Int)
def Fn.zero : Fn := ⟨0, 0, []⟩
def ixB (i n : Int) : Bool := decide (0 ≤ i) && decide (i < n)
theorem ixB_true {i n : Int} (h : 0 ≤ i) (h' : i < n) : ixB i n = true := by simp [ixB, h, h']
theorem ixB_false {i n : Int} (h : ¬ (0 ≤ i ∧ i < n)) : ixB i n = false := by
  unfold ixB; rw [Bool.and_eq_false_iff]; simp only [decide_eq_false_iff_not]; omega
theorem ixB_iff {i n : Int} : ixB i n = true ↔ 0 ≤ i ∧ i < n := by simp [ixB]
def inB (n low high : Int) : Bool := decide (low ≤ n) && decide (n ≤ high)
theorem inB_true {n l h : Int} (h1 : l ≤ n) (h2 : n ≤ h) : inB n l h = true := by simp [inB, h1, h2]
theorem inB_false {n l h : Int} (h' : ¬ (l ≤ n ∧ n ≤ h)) : inB n l h = false := by
  unfold inB; rw [Bool.and_eq_false_iff]; simp only [decide_eq_false_iff_not]; omega
theorem inB_iff {n l h : Int} : inB n l h = true ↔ l ≤ n ∧ n ≤ h := by simp [inB]
theorem inB_ixB (i n : Int) : inB i 0 (n - 1) = ixB i n := by
  rw [Bool.eq_iff_iff, inB_iff, ixB_iff]; omega
def roomB (a l : Int) : Bool := decide (0 ≤ a) && decide (a ≤ l) && decide (l ≤ 4)
theorem roomB_iff {a l : Int} : roomB a l = true ↔ 0 ≤ a ∧ a ≤ l ∧ l ≤ 4 := by simp [roomB, and_assoc]
def ktab : List Int := [0,1,1, 1,0,0, 0,1,2, 1,0,2, 2,1,0, 2,1,0, 2,1,0, 2,1,0, 2,1,0, 0,0,3, 1,0,3, 0,1,4, 1,0,0, 0,1,4, 2,1,0, 1,1,0, 1,0,0]
def tk (k : Nat) : Int := ktab.getD (k * 3) 0
def lv (k : Nat) : Int := ktab.getD (k * 3 + 1) 0
def opd (k : Nat) : Int := ktab.getD (k * 3 + 2) 0
def effS (p : List Fn) (kd a : Int) : Int × Int × Int :=
  if 0 ≤ kd ∧ kd < 17 then
    if kd = 11 then (if 0 ≤ a ∧ a < p.length then ((p.getD a.toNat Fn.zero).args, 1, 0) else (0, 0, 5))
    else (tk kd.toNat, lv kd.toNat, 0)
  else (0, 0, 4)
def mayB (p : List Fn) (f : Fn) (o a : Int) : Bool :=
  if o = 0 then decide (a = 0) else if o = 1 then inB a 0 999 else if o = 2 then ixB a f.locals else if o = 3 then ixB a f.code.length
  else ixB a p.length && roomB (p.getD a.toNat Fn.zero).args (p.getD a.toNat Fn.zero).locals
def opS (p : List Fn) (f : Fn) (x : Int × Int) : Int :=
  if 0 ≤ x.1 ∧ x.1 < 17 then
    if mayB p f (opd x.1.toNat) x.2 = true then (if x.1 = 13 ∧ (p.getD x.2.toNat Fn.zero).args ≠ 1 then 1 else 0) else 3
  else 4
def opsS (p : List Fn) (f : Fn) : List (Int × Int) → Int
  | [] => 0
  | x :: r => if opS p f x = 0 then opsS p f r else opS p f x
def chkS (p : List Fn) (f : Int) : Int :=
  if 0 ≤ f ∧ f < p.length then
    let g := p.getD f.toNat Fn.zero
    if 24 < g.code.length then 2 else if roomB g.args g.locals = true then opsS p g g.code else 3
  else 5
theorem getD_of_lt {α : Type} (l : List α) (i : Nat) (d : α) (h : i < l.length) : l[i]? = some (l.getD i d) := by
  simp [List.getD, h]
open Go.RowKit
abbrev Kept (w w' : World) : Prop := Below w.heap.size w w'
theorem Kept.refl (w : World) : Kept w w := Below.refl _ w
theorem Kept.trans {a b c : World} (h : Kept a b) (k : Kept b c) : Kept a c := Below.trans h (Below.mono k h.size)
theorem Kept.drew {a b : World} (h : Kept a b) : Kept a b.drew := Below.drew h
theorem Kept.alloc {a b : World} (h : Kept a b) (o : Obj) : Kept a (b.alloc o) := Below.alloc h h.size o
theorem Kept.setCell {a b : World} (h : Kept a b) {p : Addr} (hp : a.heap.size ≤ p.block) (u : Value) : Kept a (b.setCell p u) := Below.setCell h hp u
theorem Kept.drewN {a b : World} (h : Kept a b) (n : Nat) : Kept a (b.drewN n) := below_drewN h n
theorem cell_lt {w : World} {p : Addr} {v : Value} (h : w.cell? p = some v) : p.block < w.heap.size := by
  unfold World.cell? at h
  split at h
  · rename_i hb; exact (Array.getElem?_eq_some_iff.1 hb).1
  · cases h
theorem Kept.cell {w w' : World} (h : Kept w w') {p : Addr} {v : Value} (hc : w.cell? p = some v) : w'.cell? p = some v :=
  (Below.cell h (cell_lt hc)).trans hc
theorem hide {p : Prop} (h : p) : Hid p := h
theorem unhide {p : Prop} (h : Hid p) : p := h
theorem lays_new {w : World} {o : Obj} {b : Nat} (h : w.heap.size = b) : (w.alloc o).heap[b]? = some o := by
  subst h
  show (w.heap.push o)[w.heap.size]? = _
  simp
theorem lays_alloc {w : World} {o : Obj} {b : Nat} (h : w.heap[b]? = some o) (o' : Obj) : (w.alloc o').heap[b]? = some o :=
  (Below.heap_alloc w o' b (Array.getElem?_eq_some_iff.1 h).1).trans h
theorem lays_kept {w w' : World} (k : Kept w w') {o : Obj} {b : Nat} (h : w.heap[b]? = some o) : w'.heap[b]? = some o :=
  (k.block b (Array.getElem?_eq_some_iff.1 h).1).trans h
theorem lays_drew {w : World} {o : Obj} {b : Nat} (h : w.heap[b]? = some o) : w.drew.heap[b]? = some o := h
theorem lays_other {w : World} {o : Obj} {b : Nat} (h : w.heap[b]? = some o) {a : Addr} (hn : b ≠ a.block) (u : Value) : (w.setCell a u).heap[b]? = some o :=
  (Below.heap_setCell w a u b hn).trans h
theorem cell_lays {w : World} {b : Nat} {c : Array Value} {t : TypeId} {fr : Nat × Nat} (h : w.heap[b]? = some (.cells c t fr)) (i : Nat) : w.cell? ⟨b, i, none⟩ = c[i]? := by
  simp [World.cell?, h]
theorem lays_set {w : World} {b : Nat} {c : Array Value} {t : TypeId} {fr : Nat × Nat} (h : w.heap[b]? = some (.cells c t fr)) (i : Nat) (u : Value) : (w.setCell ⟨b, i, none⟩ u).heap[b]? = some (.cells (c.setIfInBounds i u) t fr) := by
  simp [World.setCell, Array.getElem?_modify, h]
theorem frozen_lays {w : World} {b : Nat} {c : Array Value} {t : TypeId} (h : w.heap[b]? = some (.cells c t (0, 0))) (i : Nat) : w.frozen? ⟨b, i, none⟩ = false := by
  simp [World.frozen?, h]
structure KeptX (B : Nat) (w w' : World) : Prop where
  os : w'.os = w.os
  tape : w'.tape = w.tape
  output : w'.output = w.output
  size : w.heap.size ≤ w'.heap.size
  block : ∀ k, k < w.heap.size → k ≠ B → w'.heap[k]? = w.heap[k]?
theorem KeptX.of {B : Nat} {w w' : World} (h : Kept w w') : KeptX B w w' := ⟨h.os, h.tape, h.output, h.size, fun k hk _ => h.block k hk⟩
theorem KeptX.refl (B : Nat) (w : World) : KeptX B w w := .of (Kept.refl w)
theorem KeptX.trans {B : Nat} {a b c : World} (h : KeptX B a b) (k : KeptX B b c) : KeptX B a c :=
  ⟨k.os.trans h.os, k.tape.trans h.tape, k.output.trans h.output, Nat.le_trans h.size k.size, fun i hi hn => (k.block i (Nat.lt_of_lt_of_le hi h.size) hn).trans (h.block i hi hn)⟩
theorem KeptX.alloc {B : Nat} {a b : World} (h : KeptX B a b) (o : Obj) : KeptX B a (b.alloc o) := h.trans (.of ((Kept.refl _).alloc _))
theorem KeptX.drew {B : Nat} {a b : World} (h : KeptX B a b) : KeptX B a b.drew := h.trans (.of (Kept.refl _).drew)
theorem KeptX.setCell {B : Nat} {a b : World} (h : KeptX B a b) {p : Addr} (hp : p.block = B ∨ a.heap.size ≤ p.block) (u : Value) : KeptX B a (b.setCell p u) :=
  ⟨h.os, h.tape, h.output, by simpa [World.setCell] using h.size, fun k hk hn => (Below.heap_setCell _ _ _ _ (by omega)).trans (h.block k hk hn)⟩
theorem KeptX.kept {B : Nat} {w0 w w' : World} (h0 : Kept w0 w) (hB : w0.heap.size ≤ B) (h : KeptX B w w') : Kept w0 w' :=
  ⟨h.os.trans h0.os, h.tape.trans h0.tape, h.output.trans h0.output, Nat.le_trans h0.size h.size, fun k hk => (h.block k (Nat.lt_of_lt_of_le hk h0.size) (by omega)).trans (h0.block k hk)⟩
theorem KeptX.cell {B : Nat} {w w' : World} (h : KeptX B w w') {p : Addr} {v : Value} (hn : p.block ≠ B) (hc : w.cell? p = some v) : w'.cell? p = some v :=
  (World.cell?_of_block (w := w) (h.block p.block (cell_lt hc) hn)).trans hc
theorem KeptX.frozen {B : Nat} {w w' : World} (h : KeptX B w w') {p : Addr} (hp : p.block < w.heap.size) (hn : p.block ≠ B) : w'.frozen? p = w.frozen? p :=
  World.frozen?_of_block (w := w) (h.block p.block hp hn)
theorem KeptX.lays {B : Nat} {w w' : World} (h : KeptX B w w') {b : Nat} {o : Obj} (hn : b ≠ B) (hb : w.heap[b]? = some o) : w'.heap[b]? = some o :=
  (h.block b (Array.getElem?_eq_some_iff.1 hb).1 hn).trans hb
def IntsW (w : World) (v : Value) (l : List Int) : Prop :=
  ∃ oa cap, v = .slice oa l.length cap ∧ l.length ≤ 17592186043904 ∧ ∀ i z, l[i]? = some z → ∃ b o, oa = some ⟨b, o, none⟩ ∧ w.cell? ⟨b, o + i, none⟩ = some (.int .i64 z)
theorem IntsW.kept {w w' : World} (h : Kept w w') {v : Value} {l : List Int} (hl : IntsW w v l) : IntsW w' v l := by
  obtain ⟨oa, cap, e, hn, hi⟩ := hl
  refine ⟨oa, cap, e, hn, fun i z hz => ?_⟩
  obtain ⟨b, o, e1, h1⟩ := hi i z hz
  exact ⟨b, o, e1, h.cell h1⟩
theorem IntsW.nil (w : World) : IntsW w (.slice none 0 0) [] := ⟨none, 0, rfl, by simp, fun i z h => by simp at h⟩
def CodeAt (w : World) (v : Value) (c : List (Int × Int)) : Prop :=
  ∃ oa cap, v = .slice oa c.length cap ∧ c.length ≤ 8796093022208 ∧ ∀ i x, c[i]? = some x → ∃ b o, oa = some ⟨b, o, none⟩ ∧
    w.cell? ⟨b, o + i * 2, none⟩ = some (.int .i64 x.1) ∧ w.cell? ⟨b, o + i * 2 + 1, none⟩ = some (.int .i64 x.2)
def ProgAt (w : World) (v : Value) (p : List Fn) : Prop :=
  ∃ oa cap, v = .slice oa p.length cap ∧ p.length ≤ 8796093022208 ∧ ∀ i f, p[i]? = some f → ∃ b o cv, oa = some ⟨b, o, none⟩ ∧
    w.cell? ⟨b, o + i * 3, none⟩ = some (.int .i64 f.args) ∧ w.cell? ⟨b, o + i * 3 + 1, none⟩ = some (.int .i64 f.locals) ∧
    w.cell? ⟨b, o + i * 3 + 2, none⟩ = some cv ∧ CodeAt w cv f.code
def KindsAt (w : World) : Prop := ∀ k, k < 51 → w.cell? ⟨2, k, none⟩ = some (.int .i64 (ktab.getD k 0))
theorem CodeAt.kept {w w' : World} (h : Kept w w') {v : Value} {c : List (Int × Int)} (hc : CodeAt w v c) : CodeAt w' v c := by
  obtain ⟨oa, cap, e, hl, hi⟩ := hc
  refine ⟨oa, cap, e, hl, fun i x hx => ?_⟩
  obtain ⟨b, o, e1, h1, h2⟩ := hi i x hx
  exact ⟨b, o, e1, h.cell h1, h.cell h2⟩
theorem ProgAt.kept {w w' : World} (h : Kept w w') {v : Value} {p : List Fn} (hp : ProgAt w v p) : ProgAt w' v p := by
  obtain ⟨oa, cap, e, hl, hi⟩ := hp
  refine ⟨oa, cap, e, hl, fun i f hf => ?_⟩
  obtain ⟨b, o, cv, e1, h1, h2, h3, h4⟩ := hi i f hf
  exact ⟨b, o, cv, e1, h.cell h1, h.cell h2, h.cell h3, h4.kept h⟩
theorem KindsAt.kept {w w' : World} (h : Kept w w') (hk : KindsAt w) : KindsAt w' := fun k hk' => h.cell (hk k hk')
theorem ProgAt.lt {w : World} {v : Value} {p : List Fn} (hp : ProgAt w v p) : p.length ≤ 8796093022208 := by
  obtain ⟨_, _, _, h, _⟩ := hp; exact h
end Go.Proofs.YtjioipkfnekigaaGreatDoor
namespace Go.Proofs.YtjioipkfnekigaaGreatDoor
open Go.RowKit Go.ChangeShapes Go.WideShapes Go.ChangeAt
theorem own : ownKnob Tryz.prog.godebug = none := by kernel_rfl
theorem laidOut : laidOutB Tryz.prog = true := by kernel_rfl
theorem cellsInt : Tryz.prog.cellsOf 3 = 1 := by kernel_rfl
theorem reach_eq : reachBytes = 140737488351232 := rfl
section
variable {H : Type} {enc : TypeId × Value → H} {w : World} {base : Nat} {spare : Nat → Bool} {held : Bool}
theorem spot_none {a : Addr} {v : Value} (h : w.cell? a = some v) : a.spot = none := by
  unfold World.cell? at h
  split at h
  · split at h
    · cases h
    · rename_i hs; simpa using hs
  · cases h
theorem add_of_spot {a : Addr} (h : a.spot = none) (n : Nat) : a.add n = ⟨a.block, a.off + n, none⟩ := by
  unfold Addr.add
  split
  · rename_i e; subst e; cases a; simp_all
  · rfl
theorem weightsAll_mem {P : Program} {e : TypeId} : ∀ {l : List (DataW H)} {d : DataW H}, d ∈ l → ∀ n ∈ d.weights P e, n ∈ DataW.weightsAll P e l
  | d' :: r, d, hd, n, hn => by
    simp only [DataW.weightsAll, List.mem_append]
    rcases List.mem_cons.1 hd with rfl | h
    · exact Or.inl hn
    · exact Or.inr (weightsAll_mem h n hn)
end
theorem trodAll_below {H : Type} {enc : TypeId × Value → H} {W W' : World} (hb : Kept W W') : ∀ {ts : List TypeId} {vs : List Value} {ds : List (DataW H)} {ps : List MemPlace}, (∀ t, t ∈ ts → Tryz.prog.readableRec t = true ∧ t < Tryz.prog.types.size) →
    DataW.TrodAll enc Tryz.prog W 0 (fun _ => true) true ts vs ds ps → (∀ x, x ∈ ps → x.block < W.heap.size) → DataW.TrodAll enc Tryz.prog W' 0 (fun b => decide (b < W.heap.size)) true ts vs ds ps
  | [], vs, ds, ps, _, h, _ => by
    obtain ⟨rfl, rfl, rfl⟩ := trodAll_nil h
    exact trodAll_mk0
  | t :: ts, vs, ds, ps, hr, h, hl => by
    obtain ⟨v, vs', d, ds', p, q, rfl, rfl, rfl, h0, h1⟩ := trodAll_cons h
    obtain ⟨r1, r2⟩ := hr t (by simp)
    exact trodAll_cons_mk (Below.trod laidOut r1 r2 h0 hb (fun x hx => hl x (by simp [hx]))) (trodAll_below hb (fun t ht => hr t (by simp [ht])) h1 (fun x hx => hl x (by simp [hx])))
end Go.Proofs.YtjioipkfnekigaaGreatDoor
namespace Go.Proofs.YtjioipkfnekigaaGreatDoor
open Go.RowKit Go.ChangeShapes Go.WideShapes Go.ChangeAt
theorem cellsOp : Tryz.prog.cellsOf 44 = 2 := by kernel_rfl
theorem cellsOps : Tryz.prog.cellsOf 40 = 1 := by kernel_rfl
theorem cellsFunc : Tryz.prog.cellsOf 42 = 3 := by kernel_rfl
theorem cellsKind : Tryz.prog.cellsOf 129 = 3 := by kernel_rfl
theorem bytesOp : Tryz.prog.bytesOf 44 = 16 := by kernel_rfl
theorem bytesFunc : Tryz.prog.bytesOf 42 = 40 := by kernel_rfl
theorem typeOp : ∃ f0 f1 : Field, Tryz.prog.underlying 44 = some (.struct #[f0, f1]) ∧ f0.type = 3 ∧ f0.offset = 0 ∧ f1.type = 3 ∧ f1.offset = 1 := ⟨_, _, Tryz.underlying44, rfl, rfl, rfl, rfl⟩
theorem typeFunc : ∃ f0 f1 f2 : Field, Tryz.prog.underlying 42 = some (.struct #[f0, f1, f2]) ∧ f0.type = 3 ∧ f0.offset = 0 ∧ f1.type = 3 ∧ f1.offset = 1 ∧ f2.type = 40 ∧ f2.offset = 2 := ⟨_, _, _, Tryz.underlying42, rfl, rfl, rfl, rfl, rfl, rfl⟩
theorem typeKind : ∃ f0 f1 f2 : Field, Tryz.prog.underlying 129 = some (.struct #[f0, f1, f2]) ∧ f0.type = 3 ∧ f0.offset = 0 ∧ f1.type = 3 ∧ f1.offset = 1 ∧ f2.type = 3 ∧ f2.offset = 2 := ⟨_, _, _, Tryz.underlying129, rfl, rfl, rfl, rfl, rfl, rfl⟩
section
variable {H : Type} {enc : TypeId × Value → H} {w : World} {base : Nat} {spare : Nat → Bool} {held : Bool}
theorem trod_op {fuel : Nat} {cs : List Value} {x : DataW H × List MemPlace} (h : DataW.trod enc Tryz.prog w base spare held fuel 44 cs = some x) :
    ∃ k a : Int, cs = [.int .i64 k, .int .i64 a] ∧ x = (.agg [.lit (.int .i64 k), .lit (.int .i64 a)], []) ∧ (Lit.int .i64 k).wf = true ∧ (Lit.int .i64 a).wf = true := by
  obtain ⟨f0, f1, hu, t0, o0, t1, o1⟩ := typeOp
  obtain ⟨y0, y1, n, hx, hl, h0, h1⟩ := trod_struct2 hu h
  rw [t0, o0, cellsInt] at h0
  rw [t1, o1, cellsInt] at h1
  obtain ⟨k, e0, r0, w0⟩ := DataW.trod_int Tryz.underlying3 h0
  obtain ⟨a, e1, r1, w1⟩ := DataW.trod_int Tryz.underlying3 h1
  rw [cellsOp] at hl
  match cs, hl with
  | [c0, c1], _ =>
    simp at e0 e1
    subst e0 e1
    subst r0 r1
    exact ⟨k, a, rfl, by simpa using hx, w0, w1⟩
theorem open_code {fuel : Nat} {v : Value} {x : DataW H × List MemPlace} (h : DataW.trod enc Tryz.prog w base spare held fuel 40 [v] = some x) (hw : ∀ n, n ∈ x.1.weights Tryz.prog 40 → n ≤ reachBytes) : ∃ c, CodeAt w v c := by
  rcases Deep.open_slice Tryz.underlying40 h with ⟨e, _⟩ | ⟨a, len, cap, m, n, D, Pl, e, _, hlc, _, hm, hx, hi⟩
  · simp at e
    subst e
    exact ⟨[], none, 0, rfl, by simp, fun i x h => by simp at h⟩
  · simp at e
    subst e
    have hlm : len ≤ m := by rw [hm]; split <;> omega
    have hlen : len * 16 ≤ 140737488351232 := by
      have := hw ((((List.range len).map D).length + ((List.range (m - len)).map fun j => D (len + j)).length) * Tryz.prog.bytesOf 44) (by rw [hx]; simp [DataW.weights, Tryz.underlying40])
      rw [bytesOp, reach_eq] at this
      simp at this
      omega
    have hall : ∀ i, i < len → ∃ y : Int × Int, w.cell? (a.add (i * 2)) = some (.int .i64 y.1) ∧ w.cell? (a.add (i * 2 + 1)) = some (.int .i64 y.2) := by
      intro i hil
      obtain ⟨cs', hc, ht⟩ := hi i (by omega)
      rw [cellsOp] at hc
      obtain ⟨_, _, hcell⟩ := World.cells?_some hc
      obtain ⟨k, av, rfl, _⟩ := trod_op ht
      refine ⟨(k, av), ?_, ?_⟩
      · have := hcell 0 (by omega); rw [Deep.add_add] at this; simpa using this
      · have := hcell 1 (by omega); rw [Deep.add_add] at this; simpa using this
    obtain ⟨g, hg⟩ := Deep.choose_lt hall
    refine ⟨(List.range len).map g, some a, cap, by simp, by simp; omega, fun i y hy => ?_⟩
    rw [List.getElem?_map, Option.map_eq_some_iff] at hy
    obtain ⟨j, hj, rfl⟩ := hy
    have hjl : i < len := by simpa using (List.getElem?_eq_some_iff.1 hj).1
    obtain rfl : i = j := by simpa [hjl] using hj
    have hs : a.spot = none := by
      have := (hg 0 (by omega)).1
      simp only [Nat.zero_mul] at this
      exact spot_none (by simpa [Addr.add] using this)
    refine ⟨a.block, a.off, by cases a; simp_all, ?_, ?_⟩
    · have := (hg i hjl).1; rwa [add_of_spot hs] at this
    · have := (hg i hjl).2; rwa [add_of_spot hs, ← Nat.add_assoc] at this
theorem open_prog {fuel : Nat} {v : Value} {x : DataW H × List MemPlace} (h : DataW.trod enc Tryz.prog w base spare held fuel 22 [v] = some x) (hw : ∀ n, n ∈ x.1.weights Tryz.prog 22 → n ≤ reachBytes) : ∃ p, ProgAt w v p := by
  rcases Deep.open_slice Tryz.underlying22 h with ⟨e, _⟩ | ⟨a, len, cap, m, n, D, Pl, e, _, hlc, _, hm, hx, hi⟩
  · simp at e
    subst e
    exact ⟨[], none, 0, rfl, by simp, fun i x h => by simp at h⟩
  · simp at e
    subst e
    have hlm : len ≤ m := by rw [hm]; split <;> omega
    have hlen : len * 40 ≤ 140737488351232 := by
      have := hw ((((List.range len).map D).length + ((List.range (m - len)).map fun j => D (len + j)).length) * Tryz.prog.bytesOf 42) (by rw [hx]; simp [DataW.weights, Tryz.underlying22])
      rw [bytesFunc, reach_eq] at this
      simp at this
      omega
    have hall : ∀ i, i < len → ∃ y : Fn × Value, w.cell? (a.add (i * 3)) = some (.int .i64 y.1.args) ∧ w.cell? (a.add (i * 3 + 1)) = some (.int .i64 y.1.locals) ∧ w.cell? (a.add (i * 3 + 2)) = some y.2 ∧ CodeAt w y.2 y.1.code := by
      intro i hil
      obtain ⟨cs', hc, ht⟩ := hi i (by omega)
      rw [cellsFunc] at hc
      obtain ⟨_, hcl, hcell⟩ := World.cells?_some hc
      obtain ⟨f0, f1, f2, hu, t0, o0, t1, o1, t2, o2⟩ := typeFunc
      obtain ⟨y0, y1, y2, n', hy, _, g0, g1, g2⟩ := Deep.trod_struct3 hu ht
      rw [t0, o0, cellsInt] at g0
      rw [t1, o1, cellsInt] at g1
      rw [t2, o2, cellsOps] at g2
      obtain ⟨ar, e0, r0, _⟩ := DataW.trod_int Tryz.underlying3 g0
      obtain ⟨lo, e1, r1, _⟩ := DataW.trod_int Tryz.underlying3 g1
      match cs', hcl with
      | [c0, c1, c2], _ =>
        simp at e0 e1
        subst e0 e1
        simp only [List.drop, List.take] at g2
        have hD : D i = .agg [y0.1, y1.1, y2.1] := congrArg Prod.fst hy
        obtain ⟨c, hcode⟩ := open_code g2 (fun q hq => hw q (by
          rw [hx]
          simp only [DataW.weights, Tryz.underlying22, List.mem_cons, List.mem_append]
          refine Or.inr (Or.inl (weightsAll_mem (d := D i) (List.mem_map.2 ⟨i, by simpa using hil, rfl⟩) q ?_))
          rw [hD]
          simp only [DataW.weights, hu, DataW.weightsEach, List.map_cons, List.map_nil, t0, t1, t2, List.mem_append]
          exact Or.inr (Or.inr (Or.inl hq))))
        refine ⟨(⟨ar, lo, c⟩, c2), ?_, ?_, ?_, hcode⟩
        · have := hcell 0 (by omega); rw [Deep.add_add] at this; simpa using this
        · have := hcell 1 (by omega); rw [Deep.add_add] at this; simpa using this
        · have := hcell 2 (by omega); rw [Deep.add_add] at this; simpa using this
    have : Inhabited (Fn × Value) := ⟨(Fn.zero, .nilIface)⟩
    obtain ⟨g, hg⟩ := Deep.choose_lt hall
    refine ⟨(List.range len).map fun i => (g i).1, some a, cap, by simp, by simp; omega, fun i y hy => ?_⟩
    rw [List.getElem?_map, Option.map_eq_some_iff] at hy
    obtain ⟨j, hj, rfl⟩ := hy
    have hjl : i < len := by simpa using (List.getElem?_eq_some_iff.1 hj).1
    obtain rfl : i = j := by simpa [hjl] using hj
    have hs : a.spot = none := by
      have := (hg 0 (by omega)).1
      simp only [Nat.zero_mul] at this
      exact spot_none (by simpa [Addr.add] using this)
    obtain ⟨k0, k1, k2, k3⟩ := hg i hjl
    refine ⟨a.block, a.off, (g i).2, by cases a; simp_all, ?_, ?_, ?_, k3⟩
    · rwa [add_of_spot hs] at k0
    · rwa [add_of_spot hs, ← Nat.add_assoc] at k1
    · rwa [add_of_spot hs, ← Nat.add_assoc] at k2
end
theorem gKinds : Tryz.prog.globalNamed "glebe/op.kinds" = some 2 := by kernel_rfl
theorem gKindsType : (Tryz.prog.globals[2]?).map (·.type) = some 130 := by kernel_rfl
theorem laid_at {H : Type} (i : Nat) (h : i < 17) : ([.agg [.lit (.int .i64 0), .lit (.int .i64 1), .lit (.int .i64 1)], .agg [.lit (.int .i64 1), .lit (.int .i64 0), .lit (.int .i64 0)], .agg [.lit (.int .i64 0), .lit (.int .i64 1), .lit (.int .i64 2)], .agg [.lit (.int .i64 1), .lit (.int .i64 0), .lit (.int .i64 2)], .agg [.lit (.int .i64 2), .lit (.int .i64 1), .lit (.int .i64 0)], .agg [.lit (.int .i64 2), .lit (.int .i64 1), .lit (.int .i64 0)], .agg [.lit (.int .i64 2), .lit (.int .i64 1), .lit (.int .i64 0)], .agg [.lit (.int .i64 2), .lit (.int .i64 1), .lit (.int .i64 0)], .agg [.lit (.int .i64 2), .lit (.int .i64 1), .lit (.int .i64 0)], .agg [.lit (.int .i64 0), .lit (.int .i64 0), .lit (.int .i64 3)], .agg [.lit (.int .i64 1), .lit (.int .i64 0), .lit (.int .i64 3)], .agg [.lit (.int .i64 0), .lit (.int .i64 1), .lit (.int .i64 4)], .agg [.lit (.int .i64 1), .lit (.int .i64 0), .lit (.int .i64 0)], .agg [.lit (.int .i64 0), .lit (.int .i64 1), .lit (.int .i64 4)], .agg [.lit (.int .i64 2), .lit (.int .i64 1), .lit (.int .i64 0)], .agg [.lit (.int .i64 1), .lit (.int .i64 1), .lit (.int .i64 0)], .agg [.lit (.int .i64 1), .lit (.int .i64 0), .lit (.int .i64 0)]] : List (DataW H))[i]? = some (.agg [.lit (.int .i64 (tk i)), .lit (.int .i64 (lv i)), .lit (.int .i64 (opd i))]) := by
  have : i = 0 ∨ i = 1 ∨ i = 2 ∨ i = 3 ∨ i = 4 ∨ i = 5 ∨ i = 6 ∨ i = 7 ∨ i = 8 ∨ i = 9 ∨ i = 10 ∨ i = 11 ∨ i = 12 ∨ i = 13 ∨ i = 14 ∨ i = 15 ∨ i = 16 := by omega
  rcases this with rfl | rfl | rfl | rfl | rfl | rfl | rfl | rfl | rfl | rfl | rfl | rfl | rfl | rfl | rfl | rfl | rfl <;> rfl
theorem kinds_of_laid {W : World} (h : laidMetH Tryz.prog [("glebe/op.kinds", Rows.laid_glebe_op_kinds)] W) : KindsAt W := by
  obtain ⟨ps, ⟨g', t', cs, fuel, p, q, hg', ht', hvar, hd, _, _⟩, _⟩ := (h : laidMet Tryz.prog [("glebe/op.kinds", Rows.laid_glebe_op_kinds)] W)
  obtain rfl := Option.some.inj (gKinds.symm.trans hg')
  obtain rfl := Option.some.inj (gKindsType.symm.trans ht')
  obtain ⟨xs, m, _, hx, _, hxl, hi⟩ := DataW.trod_array Tryz.underlying130 hd
  have hagg : (Rows.laid_glebe_op_kinds : DataW Unit) = .agg (xs.map (·.1)) := congrArg Prod.fst hx
  have hl : ∀ i, i < 17 → (xs[i]?).map (·.1) = some (.agg [.lit (.int .i64 (tk i)), .lit (.int .i64 (lv i)), .lit (.int .i64 (opd i))]) := by
    intro i hi17
    rw [← List.getElem?_map, ← laid_at i hi17]
    unfold Rows.laid_glebe_op_kinds at hagg
    rw [← DataW.agg.inj hagg]
  have hc : ∀ i, i < 17 → cs[i * 3]? = some (.int .i64 (tk i)) ∧ cs[i * 3 + 1]? = some (.int .i64 (lv i)) ∧ cs[i * 3 + 2]? = some (.int .i64 (opd i)) := by
    intro i hi17
    have h1 := hi i hi17
    obtain ⟨x, hxi, hx1⟩ := Option.map_eq_some_iff.1 (hl i hi17)
    rw [hxi, cellsKind] at h1
    obtain ⟨f0, f1, f2, hu, t0, o0, t1, o1, t2, o2⟩ := typeKind
    obtain ⟨y0, y1, y2, n', hy, _, g0, g1, g2⟩ := Deep.trod_struct3 hu h1
    rw [t0, o0, cellsInt] at g0
    rw [t1, o1, cellsInt] at g1
    rw [t2, o2, cellsInt] at g2
    obtain ⟨z0, e0, r0, _⟩ := DataW.trod_int Tryz.underlying3 g0
    obtain ⟨z1, e1, r1, _⟩ := DataW.trod_int Tryz.underlying3 g1
    obtain ⟨z2, e2, r2, _⟩ := DataW.trod_int Tryz.underlying3 g2
    rw [hy, r0, r1, r2] at hx1
    simp at hx1
    obtain ⟨rfl, rfl, rfl⟩ := hx1
    refine ⟨?_, ?_, ?_⟩
    · have := congrArg (·[0]?) e0
      simpa [List.getElem?_take, List.getElem?_drop] using this
    · have := congrArg (·[0]?) e1
      simpa [List.getElem?_take, List.getElem?_drop, Nat.add_comm, Nat.add_left_comm] using this
    · have := congrArg (·[0]?) e2
      simpa [List.getElem?_take, List.getElem?_drop, Nat.add_comm, Nat.add_left_comm] using this
  intro k hk
  rw [World.var?_cell gKinds hvar k]
  obtain ⟨h0, h1, h2⟩ := hc (k / 3) (by omega)
  have : k = k / 3 * 3 ∨ k = k / 3 * 3 + 1 ∨ k = k / 3 * 3 + 2 := by omega
  rcases this with e | e | e
  · rw [e, h0]; unfold tk; rw [← e]
  · rw [e, h1]; unfold lv; rw [← e]
  · rw [e, h2]; unfold opd; rw [← e]
end Go.Proofs.YtjioipkfnekigaaGreatDoor
namespace Go.Proofs.YtjioipkfnekigaaGreatDoor
open Go.RowKit
def partsS (k : Int) : Int := if k ≤ 1 then 0 else if k < 7 then 2 else 3
def mostS (n k : Int) : Int := if k = 0 then 999 else if k = 1 then n - 1 else 0
abbrev kindOk (x : Int × Int) : Prop := 0 ≤ x.1 ∧ x.1 ≤ 7
abbrev numOk (n : Int) (x : Int × Int) : Prop := 0 ≤ x.2 ∧ x.2 ≤ mostS n x.1
def onlyS : List (Int × Int) → Int → Bool
  | [], o => decide (o = 0)
  | x :: r, o => if o = 0 then false else onlyS r (o - 1 + partsS x.1)
def exErrS (e : List (Int × Int)) (n : Int) : Int :=
  if n < 0 ∨ 4 < n then 3 else if 9 < e.length then 2 else if ¬ ∀ x ∈ e, kindOk x then 4 else if ¬ ∀ x ∈ e, numOk n x then 3 else if onlyS e 1 = true then 0 else 1
theorem exErr_locals {e : List (Int × Int)} {n : Int} (h : n < 0 ∨ 4 < n) : exErrS e n = 3 := by unfold exErrS; rw [if_pos h]
theorem exErr_many {e : List (Int × Int)} {n : Int} (h0 : 0 ≤ n) (h4 : n ≤ 4) (hl : 9 < e.length) : exErrS e n = 2 := by unfold exErrS; rw [if_neg (by omega), if_pos hl]
theorem exErr_kind {e : List (Int × Int)} {n : Int} (h0 : 0 ≤ n) (h4 : n ≤ 4) (hl : ¬ 9 < e.length) (i : Nat) (x : Int × Int) (hx : e[i]? = some x) (hk : ¬ kindOk x) : exErrS e n = 4 := by
  unfold exErrS; rw [if_neg (by omega), if_neg hl, if_pos (fun h => hk (h x (List.mem_of_getElem? hx)))]
theorem exErr_num {e : List (Int × Int)} {n : Int} (h0 : 0 ≤ n) (h4 : n ≤ 4) (hl : ¬ 9 < e.length) (hk : ∀ x ∈ e, kindOk x) (i : Nat) (x : Int × Int) (hx : e[i]? = some x) (hn : ¬ numOk n x) : exErrS e n = 3 := by
  unfold exErrS; rw [if_neg (by omega), if_neg hl, if_neg (Classical.not_not.2 hk), if_pos (fun h => hn (h x (List.mem_of_getElem? hx)))]
theorem exErr_one {e : List (Int × Int)} {n : Int} (h0 : 0 ≤ n) (h4 : n ≤ 4) (hl : ¬ 9 < e.length) (hk : ∀ x ∈ e, kindOk x) (hn : ∀ x ∈ e, numOk n x) : exErrS e n = if onlyS e 1 = true then 0 else 1 := by
  unfold exErrS; rw [if_neg (by omega), if_neg hl, if_neg (Classical.not_not.2 hk), if_neg (Classical.not_not.2 hn)]
theorem all_of {α : Type} {p : α → Prop} {e : List α} (h : ∀ i x, i < e.length → e[i]? = some x → p x) : ∀ x ∈ e, p x := by
  intro x hx
  obtain ⟨i, hi, rfl⟩ := List.mem_iff_getElem.1 hx
  exact h i _ hi (by simp [hi])
theorem onlyS_step {e : List (Int × Int)} {k : Nat} {x : Int × Int} (hx : e[k]? = some x) (o : Int) : onlyS (e.drop k) o = if o = 0 then false else onlyS (e.drop (k + 1)) (o - 1 + partsS x.1) := by
  have hk : k < e.length := (List.getElem?_eq_some_iff.1 hx).1
  have : e.drop k = x :: e.drop (k + 1) := by
    rw [List.drop_eq_getElem_cons hk]
    rw [List.getElem?_eq_getElem hk] at hx
    rw [Option.some.inj hx]
  rw [this]
  rfl
def twoS (k a b : Int) : Int :=
  if k = 2 then wrap64 (a + b) else if k = 3 then wrap64 (a - b) else if k = 4 then wrap64 (a * b)
  else if k = 5 then (if a < b then 1 else 0) else (if a = b then 1 else 0)
def valS (vals : List Int) : Nat → List (Int × Int) → Int × List (Int × Int)
  | 0, e => (0, e)
  | _ + 1, [] => (0, [])
  | n + 1, x :: r =>
    if x.1 = 0 then (x.2, r) else if x.1 = 1 then (vals.getD x.2.toNat 0, r)
    else if x.1 = 7 then
      (if (valS vals n r).1 = 0 then (valS vals n (valS vals n (valS vals n r).2).2).1 else (valS vals n (valS vals n r).2).1, (valS vals n (valS vals n (valS vals n r).2).2).2)
    else (twoS x.1 (valS vals n r).1 (valS vals n (valS vals n r).2).1, (valS vals n (valS vals n r).2).2)
theorem val_rest (vals : List Int) : ∀ (n : Nat) (e : List (Int × Int)) (o : Int), e.length ≤ n → 1 ≤ o → onlyS e o = true → (∀ x ∈ e, kindOk x) →
    ∃ j, 0 < j ∧ j ≤ e.length ∧ (valS vals n e).2 = e.drop j ∧ onlyS (valS vals n e).2 (o - 1) = true
  | n, [], o, _, ho, h, _ => by simp [onlyS] at h; omega
  | 0, x :: r, o, hl, _, _, _ => by simp at hl
  | n + 1, x :: r, o, hl, ho, h, hk => by
    have hx := hk x (by simp)
    have hr : ∀ y ∈ r, kindOk y := fun y hy => hk y (by simp [hy])
    have hl' : r.length ≤ n := by simpa using hl
    simp only [onlyS] at h
    rw [if_neg (by omega)] at h
    unfold kindOk at hx
    unfold valS
    by_cases h0 : x.1 = 0
    · rw [if_pos h0]
      refine ⟨1, by omega, by simp, by simp, ?_⟩
      simpa [partsS, h0] using h
    · rw [if_neg h0]
      by_cases h1 : x.1 = 1
      · rw [if_pos h1]
        refine ⟨1, by omega, by simp, by simp, ?_⟩
        simpa [partsS, h1] using h
      · rw [if_neg h1]
        by_cases h7 : x.1 = 7
        · rw [if_pos h7]
          have hp : partsS x.1 = 3 := by rw [h7]; rfl
          rw [hp] at h
          obtain ⟨j1, p1, q1, e1, o1⟩ := val_rest vals n r (o - 1 + 3) hl' (by omega) h hr
          obtain ⟨j2, p2, q2, e2, o2⟩ := val_rest vals n _ (o - 1 + 3 - 1) (by rw [e1]; simp; omega) (by omega) o1 (by rw [e1]; exact fun y hy => hr y (List.mem_of_mem_drop hy))
          obtain ⟨j3, p3, q3, e3, o3⟩ := val_rest vals n _ (o - 1 + 3 - 1 - 1) (by rw [e2, e1]; simp; omega) (by omega) o2 (by rw [e2, e1]; exact fun y hy => hr y (List.mem_of_mem_drop (List.mem_of_mem_drop hy)))
          refine ⟨j1 + j2 + j3 + 1, by omega, ?_, ?_, ?_⟩
          · rw [e1] at q2
            rw [e2, e1] at q3
            simp at q2 q3 ⊢
            omega
          · show (valS vals n (valS vals n (valS vals n r).2).2).2 = _
            rw [e3, e2, e1]
            simp [List.drop_drop]
          · have : o - 1 + 3 - 1 - 1 - 1 = o - 1 := by omega
            rw [this] at o3
            exact o3
        · rw [if_neg h7]
          have hp : partsS x.1 = 2 := by unfold partsS; rw [if_neg (by omega), if_pos (by omega)]
          rw [hp] at h
          obtain ⟨j1, p1, q1, e1, o1⟩ := val_rest vals n r (o - 1 + 2) hl' (by omega) h hr
          obtain ⟨j2, p2, q2, e2, o2⟩ := val_rest vals n _ (o - 1 + 2 - 1) (by rw [e1]; simp; omega) (by omega) o1 (by rw [e1]; exact fun y hy => hr y (List.mem_of_mem_drop hy))
          refine ⟨j1 + j2 + 1, by omega, ?_, ?_, ?_⟩
          · rw [e1] at q2
            simp at q2 ⊢
            omega
          · show (valS vals n (valS vals n r).2).2 = _
            rw [e2, e1]
            simp [List.drop_drop]
          · have : o - 1 + 2 - 1 - 1 = o - 1 := by omega
            rw [this] at o2
            exact o2
theorem val_next (vals : List Int) (n : Nat) (e : List (Int × Int)) (o q : Int) (hl : e.length ≤ n) (ho : 1 ≤ o) (h : onlyS e o = true) (hk : ∀ x ∈ e, kindOk x) (hn : ∀ x ∈ e, numOk q x) :
    (valS vals n e).2.length ≤ n ∧ onlyS (valS vals n e).2 (o - 1) = true ∧ (∀ x ∈ (valS vals n e).2, kindOk x) ∧ (∀ x ∈ (valS vals n e).2, numOk q x) := by
  obtain ⟨j, _, _, e1, o1⟩ := val_rest vals n e o hl ho h hk
  refine ⟨by rw [e1]; simp; omega, o1, ?_, ?_⟩
  · rw [e1]; exact fun y hy => hk y (List.mem_of_mem_drop hy)
  · rw [e1]; exact fun y hy => hn y (List.mem_of_mem_drop hy)
theorem one_nil {e : List (Int × Int)} (h : onlyS e 0 = true) : e = [] := by
  cases e with
  | nil => rfl
  | cons x r => simp [onlyS] at h
theorem exErr_ok {e : List (Int × Int)} {n : Int} (h : exErrS e n = 0) : 0 ≤ n ∧ n ≤ 4 ∧ e.length ≤ 9 ∧ (∀ x ∈ e, kindOk x) ∧ (∀ x ∈ e, numOk n x) ∧ onlyS e 1 = true := by
  unfold exErrS at h
  split at h
  · cases h
  · split at h
    · cases h
    · split at h
      · cases h
      · split at h
        · cases h
        · split at h
          · rename_i h1 h2 h3 h4 h5
            exact ⟨by omega, by omega, by omega, Classical.not_not.1 h3, Classical.not_not.1 h4, h5⟩
          · cases h
def NodesAt (w : World) (v : Value) (c : List (Int × Int)) : Prop :=
  ∃ oa cap, v = .slice oa c.length cap ∧ (c.length ≤ 8796093022208 ∧ c.length ≤ cap) ∧ ∀ i x, c[i]? = some x → ∃ b o, oa = some ⟨b, o, none⟩ ∧
    w.cell? ⟨b, o + i * 2, none⟩ = some (.int .i64 x.1) ∧ w.cell? ⟨b, o + i * 2 + 1, none⟩ = some (.int .i64 x.2)
theorem NodesAt.kept {w w' : World} (h : Kept w w') {v : Value} {c : List (Int × Int)} (hc : NodesAt w v c) : NodesAt w' v c := by
  obtain ⟨oa, cap, e, hl, hi⟩ := hc
  refine ⟨oa, cap, e, hl, fun i x hx => ?_⟩
  obtain ⟨b, o, e1, h1, h2⟩ := hi i x hx
  exact ⟨b, o, e1, h.cell h1, h.cell h2⟩
theorem NodesAt.nil (w : World) : NodesAt w (.slice none 0 0) [] := ⟨none, 0, rfl, by simp, fun i x h => by simp at h⟩
theorem NodesAt.first {w : World} {v : Value} {x : Int × Int} {r : List (Int × Int)} (h : NodesAt w v (x :: r)) : ∃ b o cap, v = .slice (some ⟨b, o, none⟩) (r.length + 1) cap ∧ r.length + 1 ≤ cap ∧ r.length ≤ 8796093022208 ∧
    w.cell? ⟨b, o, none⟩ = some (.int .i64 x.1) ∧ w.cell? ⟨b, o + 1, none⟩ = some (.int .i64 x.2) ∧
    (∀ cap' oa, r.length ≤ cap' → (r ≠ [] → oa = some ⟨b, o + 2, none⟩) → NodesAt w (.slice oa r.length cap') r) := by
  obtain ⟨oa, cap, rfl, ⟨hl, hc⟩, hi⟩ := h
  obtain ⟨b, o, rfl, h1, h2⟩ := hi 0 x rfl
  refine ⟨b, o, cap, by simp, by simpa using hc, by simp at hl; omega, by simpa using h1, by simpa using h2, fun cap' oa' hl' hoa => ⟨_, _, rfl, ⟨by simp at hl; omega, hl'⟩, fun i y hy => ?_⟩⟩
  have hne : r ≠ [] := by intro e; subst e; simp at hy
  obtain ⟨b', o', e, g1, g2⟩ := hi (i + 1) y (by simpa using hy)
  obtain ⟨rfl, rfl⟩ := (by simpa using e : b = b' ∧ o = o')
  refine ⟨b, o + 2, hoa hne, ?_, ?_⟩
  · rw [← g1]; congr 2; omega
  · rw [← g2]; congr 2; omega
theorem IntsW.at {w : World} {v : Value} {l : List Int} (h : IntsW w v l) {i : Nat} (hi : i < l.length) : ∃ b o cap, v = .slice (some ⟨b, o, none⟩) l.length cap ∧ w.cell? ⟨b, o + i, none⟩ = some (.int .i64 (l.getD i 0)) := by
  obtain ⟨oa, cap, rfl, _, hc⟩ := h
  obtain ⟨b, o, rfl, h1⟩ := hc i _ (getD_of_lt l i 0 hi)
  exact ⟨b, o, cap, rfl, h1⟩
end Go.Proofs.YtjioipkfnekigaaGreatDoor
namespace Go.Proofs.YtjioipkfnekigaaGreatDoor
open Go.RowKit Go.ChangeShapes Go.WideShapes Go.ChangeAt
theorem cellsNode : Tryz.prog.cellsOf 100 = 2 := by kernel_rfl
theorem bytesNode : Tryz.prog.bytesOf 100 = 16 := by kernel_rfl
theorem bytesIntE : Tryz.prog.bytesOf 3 = 8 := by kernel_rfl
theorem typeNode : ∃ f0 f1 : Field, Tryz.prog.underlying 100 = some (.struct #[f0, f1]) ∧ f0.type = 3 ∧ f0.offset = 0 ∧ f1.type = 3 ∧ f1.offset = 1 := ⟨_, _, Tryz.underlying100, rfl, rfl, rfl, rfl⟩
section
variable {H : Type} {enc : TypeId × Value → H} {w : World} {base : Nat} {spare : Nat → Bool} {held : Bool}
theorem trod_node {fuel : Nat} {cs : List Value} {x : DataW H × List MemPlace} (h : DataW.trod enc Tryz.prog w base spare held fuel 100 cs = some x) :
    ∃ k a : Int, cs = [.int .i64 k, .int .i64 a] ∧ (Lit.int .i64 k).wf = true := by
  obtain ⟨f0, f1, hu, t0, o0, t1, o1⟩ := typeNode
  obtain ⟨y0, y1, n, hx, hl, h0, h1⟩ := trod_struct2 hu h
  rw [t0, o0, cellsInt] at h0
  rw [t1, o1, cellsInt] at h1
  obtain ⟨k, e0, r0, w0⟩ := DataW.trod_int Tryz.underlying3 h0
  obtain ⟨a, e1, r1, w1⟩ := DataW.trod_int Tryz.underlying3 h1
  rw [cellsNode] at hl
  match cs, hl with
  | [c0, c1], _ =>
    simp at e0 e1
    subst e0 e1
    exact ⟨k, a, rfl, w0⟩
theorem open_nodes {fuel : Nat} {v : Value} {x : DataW H × List MemPlace} (h : DataW.trod enc Tryz.prog w base spare held fuel 35 [v] = some x) (hw : ∀ n, n ∈ x.1.weights Tryz.prog 35 → n ≤ reachBytes) :
    ∃ c, NodesAt w v c ∧ ∀ x ∈ c, (Lit.int .i64 x.1).wf = true := by
  rcases Deep.open_slice Tryz.underlying35 h with ⟨e, _⟩ | ⟨a, len, cap, m, n, D, Pl, e, _, hlc, _, hm, hx, hi⟩
  · simp at e
    subst e
    exact ⟨[], NodesAt.nil _, by simp⟩
  · simp at e
    subst e
    have hlm : len ≤ m := by rw [hm]; split <;> omega
    have hlen : len * 16 ≤ 140737488351232 := by
      have := hw ((((List.range len).map D).length + ((List.range (m - len)).map fun j => D (len + j)).length) * Tryz.prog.bytesOf 100) (by rw [hx]; simp [DataW.weights, Tryz.underlying35])
      rw [bytesNode, reach_eq] at this
      simp at this
      omega
    have hall : ∀ i, i < len → ∃ y : Int × Int, (w.cell? (a.add (i * 2)) = some (.int .i64 y.1) ∧ w.cell? (a.add (i * 2 + 1)) = some (.int .i64 y.2)) ∧ (Lit.int .i64 y.1).wf = true := by
      intro i hil
      obtain ⟨cs', hc, ht⟩ := hi i (by omega)
      rw [cellsNode] at hc
      obtain ⟨_, _, hcell⟩ := World.cells?_some hc
      obtain ⟨k, av, rfl, hwk⟩ := trod_node ht
      refine ⟨(k, av), ⟨?_, ?_⟩, hwk⟩
      · have := hcell 0 (by omega); rw [Deep.add_add] at this; simpa using this
      · have := hcell 1 (by omega); rw [Deep.add_add] at this; simpa using this
    obtain ⟨g, hg⟩ := Deep.choose_lt hall
    refine ⟨(List.range len).map g, ⟨some a, cap, by simp, ⟨by simp; omega, by simpa using hlc⟩, fun i y hy => ?_⟩, fun y hy => ?_⟩
    · rw [List.getElem?_map, Option.map_eq_some_iff] at hy
      obtain ⟨j, hj, rfl⟩ := hy
      have hjl : i < len := by simpa using (List.getElem?_eq_some_iff.1 hj).1
      obtain rfl : i = j := by simpa [hjl] using hj
      have hs : a.spot = none := by
        have := (hg 0 (by omega)).1.1
        simp only [Nat.zero_mul] at this
        exact spot_none (by simpa [Addr.add] using this)
      refine ⟨a.block, a.off, by cases a; simp_all, ?_, ?_⟩
      · have := (hg i hjl).1.1; rwa [add_of_spot hs] at this
      · have := (hg i hjl).1.2; rwa [add_of_spot hs, ← Nat.add_assoc] at this
    · obtain ⟨i, hi', rfl⟩ := List.mem_map.1 hy
      exact (hg i (by simpa using hi')).2
theorem open_vals {fuel : Nat} {v : Value} {x : DataW H × List MemPlace} (h : DataW.trod enc Tryz.prog w base spare held fuel 36 [v] = some x) (hw : ∀ n, n ∈ x.1.weights Tryz.prog 36 → n ≤ reachBytes) : ∃ l, IntsW w v l := by
  rcases Deep.open_slice Tryz.underlying36 h with ⟨e, _⟩ | ⟨a, len, cap, m, n, D, Pl, e, _, hlc, _, hm, hx, hi⟩
  · simp at e
    subst e
    exact ⟨[], IntsW.nil _⟩
  · simp at e
    subst e
    have hlm : len ≤ m := by rw [hm]; split <;> omega
    have hlen : len * 8 ≤ 140737488351232 := by
      have := hw ((((List.range len).map D).length + ((List.range (m - len)).map fun j => D (len + j)).length) * Tryz.prog.bytesOf 3) (by rw [hx]; simp [DataW.weights, Tryz.underlying36])
      rw [bytesIntE, reach_eq] at this
      simp at this
      omega
    have hall : ∀ i, i < len → ∃ y : Int, w.cell? (a.add (i * 1)) = some (.int .i64 y) := by
      intro i hil
      obtain ⟨cs', hc, ht⟩ := hi i (by omega)
      rw [cellsInt] at hc
      obtain ⟨_, hcl, hcell⟩ := World.cells?_some hc
      obtain ⟨k, e0, _, _⟩ := DataW.trod_int Tryz.underlying3 ht
      subst e0
      refine ⟨k, ?_⟩
      have := hcell 0 (by omega); rw [Deep.add_add] at this; simpa using this
    obtain ⟨g, hg⟩ := Deep.choose_lt hall
    refine ⟨(List.range len).map g, some a, cap, by simp, by simp; omega, fun i y hy => ?_⟩
    rw [List.getElem?_map, Option.map_eq_some_iff] at hy
    obtain ⟨j, hj, rfl⟩ := hy
    have hjl : i < len := by simpa using (List.getElem?_eq_some_iff.1 hj).1
    obtain rfl : i = j := by simpa [hjl] using hj
    have hs : a.spot = none := by
      have := hg 0 (by omega)
      exact spot_none (by simpa [Addr.add] using this)
    refine ⟨a.block, a.off, by cases a; simp_all, ?_⟩
    have := hg i hjl; rwa [add_of_spot hs, Nat.mul_one] at this
end
end Go.Proofs.YtjioipkfnekigaaGreatDoor
