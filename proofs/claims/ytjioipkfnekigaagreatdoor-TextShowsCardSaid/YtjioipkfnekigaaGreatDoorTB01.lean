/- Plain, Keep, Mem, OpenG, Open, TextS, TextK, TextX, Hide, App, Blocks -/
import Derived.Below
import Derived.WalkKit
import Derived.WalkSmall
import Derived.BigQuiet
import Derived.Test.YtjioipkfnekigaaGreatDoorRows
import Derived.ProofKit
import Derived.OpenShut
import Derived.Deep.Slices
import Derived.SizedLaws
import Derived.Deep.Strs
import Derived.Lib.LaidTab
import Derived.Lib.Join
import Derived.Lib.ItoaNum
import Derived.Lib.SplitLaws
import Derived.Lib.Split
import Derived.Lib.IndexBytes
import Derived.Test.YtjioipkfnekigaaGreatDoorChecked
import Derived.Laws.AppendOwn
set_option maxRecDepth 100000
set_option maxHeartbeats 8000000
namespace Go.Proofs.YtjioipkfnekigaaGreatDoor
structure Fn where
  args : Int
  locals : Int
  code : List (Int × Int)
def Fn.zero : Fn := ⟨0, 0, []⟩
def ixB (i n : Int) : Bool := decide (0 ≤ i) && decide (i < n)
theorem ixB_true {i n : Int} (h : 0 ≤ i) (h' : i < n) : ixB i n = true := by simp [ixB, h, h']
theorem ixB_false {i n : Int} (h : ¬ (0 ≤ i ∧ i < n)) : ixB i n = false := by
  unfold ixB; rw [Bool.and_eq_false_iff]; simp only [decide_eq_false_iff_not]; omega
theorem ixB_iff {i n : Int} : ixB i n = true ↔ 0 ≤ i ∧ i < n := by simp [ixB]
def inB (n low high : Int) : Bool := decide (low ≤ n) && decide (n ≤ high)
theorem inB_true {n l h : Int} (h1 : l ≤ n) (h2 : n ≤ h) : inB n l h = true := by simp [inB, h1, h2]
theorem inB_false {n l h : Int} (h' : ¬ (l ≤ n ∧ n ≤ h)) : inB n l h = false := by
  unfold inB; rw [Bool.and_eq_false_iff]; simp only [decide_eq_false_iff_not]; omega
theorem inB_iff {n l h : Int} : inB n l h = true ↔ l ≤ n ∧ n ≤ h := by simp [inB]
theorem inB_ixB (i n : Int) : inB i 0 (n - 1) = ixB i n := by
  rw [Bool.eq_iff_iff, inB_iff, ixB_iff]; omega
def roomB (a l : Int) : Bool := decide (0 ≤ a) && decide (a ≤ l) && decide (l ≤ 4)
theorem roomB_iff {a l : Int} : roomB a l = true ↔ 0 ≤ a ∧ a ≤ l ∧ l ≤ 4 := by simp [roomB, and_assoc]
def ktab : List Int := [0,1,1, 1,0,0, 0,1,2, 1,0,2, 2,1,0, 2,1,0, 2,1,0, 2,1,0, 2,1,0, 0,0,3, 1,0,3, 0,1,4, 1,0,0, 0,1,4, 2,1,0, 1,1,0, 1,0,0]
def tk (k : Nat) : Int := ktab.getD (k * 3) 0
def lv (k : Nat) : Int := ktab.getD (k * 3 + 1) 0
def opd (k : Nat) : Int := ktab.getD (k * 3 + 2) 0
def effS (p : List Fn) (kd a : Int) : Int × Int × Int :=
  if 0 ≤ kd ∧ kd < 17 then
    if kd = 11 then (if 0 ≤ a ∧ a < p.length then ((p.getD a.toNat Fn.zero).args, 1, 0) else (0, 0, 5))
    else (tk kd.toNat, lv kd.toNat, 0)
  else (0, 0, 4)
def mayB (p : List Fn) (f : Fn) (o a : Int) : Bool :=
  if o = 0 then decide (a = 0) else if o = 1 then inB a 0 999 else if o = 2 then ixB a f.locals else if o = 3 then ixB a f.code.length
  else ixB a p.length && roomB (p.getD a.toNat Fn.zero).args (p.getD a.toNat Fn.zero).locals
def opS (p : List Fn) (f : Fn) (x : Int × Int) : Int :=
  if 0 ≤ x.1 ∧ x.1 < 17 then
    if mayB p f (opd x.1.toNat) x.2 = true then (if x.1 = 13 ∧ (p.getD x.2.toNat Fn.zero).args ≠ 1 then 1 else 0) else 3
  else 4
def opsS (p : List Fn) (f : Fn) : List (Int × Int) → Int
  | [] => 0
  | x :: r => if opS p f x = 0 then opsS p f r else opS p f x
def chkS (p : List Fn) (f : Int) : Int :=
  if 0 ≤ f ∧ f < p.length then
    let g := p.getD f.toNat Fn.zero
    if 24 < g.code.length then 2 else if roomB g.args g.locals = true then opsS p g g.code else 3
  else 5
theorem getD_of_lt {α : Type} (l : List α) (i : Nat) (d : α) (h : i < l.length) : l[i]? = some (l.getD i d) := by
  simp [List.getD, h]
open Go.RowKit
abbrev Kept (w w' : World) : Prop := Below w.heap.size w w'
theorem Kept.refl (w : World) : Kept w w := Below.refl _ w
theorem Kept.trans {a b c : World} (h : Kept a b) (k : Kept b c) : Kept a c := Below.trans h (Below.mono k h.size)
theorem Kept.drew {a b : World} (h : Kept a b) : Kept a b.drew := Below.drew h
theorem Kept.alloc {a b : World} (h : Kept a b) (o : Obj) : Kept a (b.alloc o) := Below.alloc h h.size o
theorem Kept.setCell {a b : World} (h : Kept a b) {p : Addr} (hp : a.heap.size ≤ p.block) (u : Value) : Kept a (b.setCell p u) := Below.setCell h hp u
theorem Kept.drewN {a b : World} (h : Kept a b) (n : Nat) : Kept a (b.drewN n) := below_drewN h n
theorem cell_lt {w : World} {p : Addr} {v : Value} (h : w.cell? p = some v) : p.block < w.heap.size := by
  unfold World.cell? at h
  split at h
  · rename_i hb; exact (Array.getElem?_eq_some_iff.1 hb).1
  · cases h
theorem Kept.cell {w w' : World} (h : Kept w w') {p : Addr} {v : Value} (hc : w.cell? p = some v) : w'.cell? p = some v :=
  (Below.cell h (cell_lt hc)).trans hc
theorem hide {p : Prop} (h : p) : Hid p := h
theorem unhide {p : Prop} (h : Hid p) : p := h
theorem lays_new {w : World} {o : Obj} {b : Nat} (h : w.heap.size = b) : (w.alloc o).heap[b]? = some o := by
  subst h
  show (w.heap.push o)[w.heap.size]? = _
  simp
theorem lays_alloc {w : World} {o : Obj} {b : Nat} (h : w.heap[b]? = some o) (o' : Obj) : (w.alloc o').heap[b]? = some o :=
  (Below.heap_alloc w o' b (Array.getElem?_eq_some_iff.1 h).1).trans h
theorem lays_kept {w w' : World} (k : Kept w w') {o : Obj} {b : Nat} (h : w.heap[b]? = some o) : w'.heap[b]? = some o :=
  (k.block b (Array.getElem?_eq_some_iff.1 h).1).trans h
theorem lays_drew {w : World} {o : Obj} {b : Nat} (h : w.heap[b]? = some o) : w.drew.heap[b]? = some o := h
theorem lays_other {w : World} {o : Obj} {b : Nat} (h : w.heap[b]? = some o) {a : Addr} (hn : b ≠ a.block) (u : Value) : (w.setCell a u).heap[b]? = some o :=
  (Below.heap_setCell w a u b hn).trans h
theorem cell_lays {w : World} {b : Nat} {c : Array Value} {t : TypeId} {fr : Nat × Nat} (h : w.heap[b]? = some (.cells c t fr)) (i : Nat) : w.cell? ⟨b, i, none⟩ = c[i]? := by
  simp [World.cell?, h]
theorem lays_set {w : World} {b : Nat} {c : Array Value} {t : TypeId} {fr : Nat × Nat} (h : w.heap[b]? = some (.cells c t fr)) (i : Nat) (u : Value) : (w.setCell ⟨b, i, none⟩ u).heap[b]? = some (.cells (c.setIfInBounds i u) t fr) := by
  simp [World.setCell, Array.getElem?_modify, h]
theorem frozen_lays {w : World} {b : Nat} {c : Array Value} {t : TypeId} (h : w.heap[b]? = some (.cells c t (0, 0))) (i : Nat) : w.frozen? ⟨b, i, none⟩ = false := by
  simp [World.frozen?, h]
structure KeptX (B : Nat) (w w' : World) : Prop where
  os : w'.os = w.os
  tape : w'.tape = w.tape
  output : w'.output = w.output
  size : w.heap.size ≤ w'.heap.size
  block : ∀ k, k < w.heap.size → k ≠ B → w'.heap[k]? = w.heap[k]?
theorem KeptX.of {B : Nat} {w w' : World} (h : Kept w w') : KeptX B w w' := ⟨h.os, h.tape, h.output, h.size, fun k hk _ => h.block k hk⟩
theorem KeptX.refl (B : Nat) (w : World) : KeptX B w w := .of (Kept.refl w)
theorem KeptX.trans {B : Nat} {a b c : World} (h : KeptX B a b) (k : KeptX B b c) : KeptX B a c :=
  ⟨k.os.trans h.os, k.tape.trans h.tape, k.output.trans h.output, Nat.le_trans h.size k.size, fun i hi hn => (k.block i (Nat.lt_of_lt_of_le hi h.size) hn).trans (h.block i hi hn)⟩
theorem KeptX.alloc {B : Nat} {a b : World} (h : KeptX B a b) (o : Obj) : KeptX B a (b.alloc o) := h.trans (.of ((Kept.refl _).alloc _))
theorem KeptX.drew {B : Nat} {a b : World} (h : KeptX B a b) : KeptX B a b.drew := h.trans (.of (Kept.refl _).drew)
theorem KeptX.setCell {B : Nat} {a b : World} (h : KeptX B a b) {p : Addr} (hp : p.block = B ∨ a.heap.size ≤ p.block) (u : Value) : KeptX B a (b.setCell p u) :=
  ⟨h.os, h.tape, h.output, by simpa [World.setCell] using h.size, fun k hk hn => (Below.heap_setCell _ _ _ _ (by omega)).trans (h.block k hk hn)⟩
theorem KeptX.kept {B : Nat} {w0 w w' : World} (h0 : Kept w0 w) (hB : w0.heap.size ≤ B) (h : KeptX B w w') : Kept w0 w' :=
  ⟨h.os.trans h0.os, h.tape.trans h0.tape, h.output.trans h0.output, Nat.le_trans h0.size h.size, fun k hk => (h.block k (Nat.lt_of_lt_of_le hk h0.size) (by omega)).trans (h0.block k hk)⟩
theorem KeptX.cell {B : Nat} {w w' : World} (h : KeptX B w w') {p : Addr} {v : Value} (hn : p.block ≠ B) (hc : w.cell? p = some v) : w'.cell? p = some v :=
  (World.cell?_of_block (w := w) (h.block p.block (cell_lt hc) hn)).trans hc
theorem KeptX.frozen {B : Nat} {w w' : World} (h : KeptX B w w') {p : Addr} (hp : p.block < w.heap.size) (hn : p.block ≠ B) : w'.frozen? p = w.frozen? p :=
  World.frozen?_of_block (w := w) (h.block p.block hp hn)
theorem KeptX.lays {B : Nat} {w w' : World} (h : KeptX B w w') {b : Nat} {o : Obj} (hn : b ≠ B) (hb : w.heap[b]? = some o) : w'.heap[b]? = some o :=
  (h.block b (Array.getElem?_eq_some_iff.1 hb).1 hn).trans hb
def IntsW (w : World) (v : Value) (l : List Int) : Prop :=
  ∃ oa cap, v = .slice oa l.length cap ∧ l.length ≤ 17592186043904 ∧ ∀ i z, l[i]? = some z → ∃ b o, oa = some ⟨b, o, none⟩ ∧ w.cell? ⟨b, o + i, none⟩ = some (.int .i64 z)
theorem IntsW.kept {w w' : World} (h : Kept w w') {v : Value} {l : List Int} (hl : IntsW w v l) : IntsW w' v l := by
  obtain ⟨oa, cap, e, hn, hi⟩ := hl
  refine ⟨oa, cap, e, hn, fun i z hz => ?_⟩
  obtain ⟨b, o, e1, h1⟩ := hi i z hz
  exact ⟨b, o, e1, h.cell h1⟩
theorem IntsW.nil (w : World) : IntsW w (.slice none 0 0) [] := ⟨none, 0, rfl, by simp, fun i z h => by simp at h⟩
def CodeAt (w : World) (v : Value) (c : List (Int × Int)) : Prop :=
  ∃ oa cap, v = .slice oa c.length cap ∧ c.length ≤ 8796093022208 ∧ ∀ i x, c[i]? = some x → ∃ b o, oa = some ⟨b, o, none⟩ ∧
    w.cell? ⟨b, o + i * 2, none⟩ = some (.int .i64 x.1) ∧ w.cell? ⟨b, o + i * 2 + 1, none⟩ = some (.int .i64 x.2)
def ProgAt (w : World) (v : Value) (p : List Fn) : Prop :=
  ∃ oa cap, v = .slice oa p.length cap ∧ p.length ≤ 8796093022208 ∧ ∀ i f, p[i]? = some f → ∃ b o cv, oa = some ⟨b, o, none⟩ ∧
    w.cell? ⟨b, o + i * 3, none⟩ = some (.int .i64 f.args) ∧ w.cell? ⟨b, o + i * 3 + 1, none⟩ = some (.int .i64 f.locals) ∧
    w.cell? ⟨b, o + i * 3 + 2, none⟩ = some cv ∧ CodeAt w cv f.code
def KindsAt (w : World) : Prop := ∀ k, k < 51 → w.cell? ⟨2, k, none⟩ = some (.int .i64 (ktab.getD k 0))
theorem CodeAt.kept {w w' : World} (h : Kept w w') {v : Value} {c : List (Int × Int)} (hc : CodeAt w v c) : CodeAt w' v c := by
  obtain ⟨oa, cap, e, hl, hi⟩ := hc
  refine ⟨oa, cap, e, hl, fun i x hx => ?_⟩
  obtain ⟨b, o, e1, h1, h2⟩ := hi i x hx
  exact ⟨b, o, e1, h.cell h1, h.cell h2⟩
theorem ProgAt.kept {w w' : World} (h : Kept w w') {v : Value} {p : List Fn} (hp : ProgAt w v p) : ProgAt w' v p := by
  obtain ⟨oa, cap, e, hl, hi⟩ := hp
  refine ⟨oa, cap, e, hl, fun i f hf => ?_⟩
  obtain ⟨b, o, cv, e1, h1, h2, h3, h4⟩ := hi i f hf
  exact ⟨b, o, cv, e1, h.cell h1, h.cell h2, h.cell h3, h4.kept h⟩
theorem KindsAt.kept {w w' : World} (h : Kept w w') (hk : KindsAt w) : KindsAt w' := fun k hk' => h.cell (hk k hk')
theorem ProgAt.lt {w : World} {v : Value} {p : List Fn} (hp : ProgAt w v p) : p.length ≤ 8796093022208 := by
  obtain ⟨_, _, _, h, _⟩ := hp; exact h
end Go.Proofs.YtjioipkfnekigaaGreatDoor
namespace Go.Proofs.YtjioipkfnekigaaGreatDoor
open Go.RowKit Go.ChangeShapes Go.WideShapes Go.ChangeAt
theorem own : ownKnob Tryz.prog.godebug = none := by kernel_rfl
theorem laidOut : laidOutB Tryz.prog = true := by kernel_rfl
theorem cellsInt : Tryz.prog.cellsOf 3 = 1 := by kernel_rfl
theorem reach_eq : reachBytes = 140737488351232 := rfl
section
variable {H : Type} {enc : TypeId × Value → H} {w : World} {base : Nat} {spare : Nat → Bool} {held : Bool}
theorem spot_none {a : Addr} {v : Value} (h : w.cell? a = some v) : a.spot = none := by
  unfold World.cell? at h
  split at h
  · split at h
    · cases h
    · rename_i hs; simpa using hs
  · cases h
theorem add_of_spot {a : Addr} (h : a.spot = none) (n : Nat) : a.add n = ⟨a.block, a.off + n, none⟩ := by
  unfold Addr.add
  split
  · rename_i e; subst e; cases a; simp_all
  · rfl
theorem weightsAll_mem {P : Program} {e : TypeId} : ∀ {l : List (DataW H)} {d : DataW H}, d ∈ l → ∀ n ∈ d.weights P e, n ∈ DataW.weightsAll P e l
  | d' :: r, d, hd, n, hn => by
    simp only [DataW.weightsAll, List.mem_append]
    rcases List.mem_cons.1 hd with rfl | h
    · exact Or.inl hn
    · exact Or.inr (weightsAll_mem h n hn)
end
theorem trodAll_below {H : Type} {enc : TypeId × Value → H} {W W' : World} (hb : Kept W W') : ∀ {ts : List TypeId} {vs : List Value} {ds : List (DataW H)} {ps : List MemPlace}, (∀ t, t ∈ ts → Tryz.prog.readableRec t = true ∧ t < Tryz.prog.types.size) →
    DataW.TrodAll enc Tryz.prog W 0 (fun _ => true) true ts vs ds ps → (∀ x, x ∈ ps → x.block < W.heap.size) → DataW.TrodAll enc Tryz.prog W' 0 (fun b => decide (b < W.heap.size)) true ts vs ds ps
  | [], vs, ds, ps, _, h, _ => by
    obtain ⟨rfl, rfl, rfl⟩ := trodAll_nil h
    exact trodAll_mk0
  | t :: ts, vs, ds, ps, hr, h, hl => by
    obtain ⟨v, vs', d, ds', p, q, rfl, rfl, rfl, h0, h1⟩ := trodAll_cons h
    obtain ⟨r1, r2⟩ := hr t (by simp)
    exact trodAll_cons_mk (Below.trod laidOut r1 r2 h0 hb (fun x hx => hl x (by simp [hx]))) (trodAll_below hb (fun t ht => hr t (by simp [ht])) h1 (fun x hx => hl x (by simp [hx])))
end Go.Proofs.YtjioipkfnekigaaGreatDoor
namespace Go.Proofs.YtjioipkfnekigaaGreatDoor
open Go.RowKit Go.ChangeShapes Go.WideShapes Go.ChangeAt
theorem cellsOp : Tryz.prog.cellsOf 44 = 2 := by kernel_rfl
theorem cellsOps : Tryz.prog.cellsOf 40 = 1 := by kernel_rfl
theorem cellsFunc : Tryz.prog.cellsOf 42 = 3 := by kernel_rfl
theorem cellsKind : Tryz.prog.cellsOf 129 = 3 := by kernel_rfl
theorem bytesOp : Tryz.prog.bytesOf 44 = 16 := by kernel_rfl
theorem bytesFunc : Tryz.prog.bytesOf 42 = 40 := by kernel_rfl
theorem typeOp : ∃ f0 f1 : Field, Tryz.prog.underlying 44 = some (.struct #[f0, f1]) ∧ f0.type = 3 ∧ f0.offset = 0 ∧ f1.type = 3 ∧ f1.offset = 1 := ⟨_, _, Tryz.underlying44, rfl, rfl, rfl, rfl⟩
theorem typeFunc : ∃ f0 f1 f2 : Field, Tryz.prog.underlying 42 = some (.struct #[f0, f1, f2]) ∧ f0.type = 3 ∧ f0.offset = 0 ∧ f1.type = 3 ∧ f1.offset = 1 ∧ f2.type = 40 ∧ f2.offset = 2 := ⟨_, _, _, Tryz.underlying42, rfl, rfl, rfl, rfl, rfl, rfl⟩
theorem typeKind : ∃ f0 f1 f2 : Field, Tryz.prog.underlying 129 = some (.struct #[f0, f1, f2]) ∧ f0.type = 3 ∧ f0.offset = 0 ∧ f1.type = 3 ∧ f1.offset = 1 ∧ f2.type = 3 ∧ f2.offset = 2 := ⟨_, _, _, Tryz.underlying129, rfl, rfl, rfl, rfl, rfl, rfl⟩
section
variable {H : Type} {enc : TypeId × Value → H} {w : World} {base : Nat} {spare : Nat → Bool} {held : Bool}
theorem trod_op {fuel : Nat} {cs : List Value} {x : DataW H × List MemPlace} (h : DataW.trod enc Tryz.prog w base spare held fuel 44 cs = some x) :
    ∃ k a : Int, cs = [.int .i64 k, .int .i64 a] ∧ x = (.agg [.lit (.int .i64 k), .lit (.int .i64 a)], []) ∧ (Lit.int .i64 k).wf = true ∧ (Lit.int .i64 a).wf = true := by
  obtain ⟨f0, f1, hu, t0, o0, t1, o1⟩ := typeOp
  obtain ⟨y0, y1, n, hx, hl, h0, h1⟩ := trod_struct2 hu h
  rw [t0, o0, cellsInt] at h0
  rw [t1, o1, cellsInt] at h1
  obtain ⟨k, e0, r0, w0⟩ := DataW.trod_int Tryz.underlying3 h0
  obtain ⟨a, e1, r1, w1⟩ := DataW.trod_int Tryz.underlying3 h1
  rw [cellsOp] at hl
  match cs, hl with
  | [c0, c1], _ =>
    simp at e0 e1
    subst e0 e1
    subst r0 r1
    exact ⟨k, a, rfl, by simpa using hx, w0, w1⟩
theorem open_code {fuel : Nat} {v : Value} {x : DataW H × List MemPlace} (h : DataW.trod enc Tryz.prog w base spare held fuel 40 [v] = some x) (hw : ∀ n, n ∈ x.1.weights Tryz.prog 40 → n ≤ reachBytes) : ∃ c, CodeAt w v c := by
  rcases Deep.open_slice Tryz.underlying40 h with ⟨e, _⟩ | ⟨a, len, cap, m, n, D, Pl, e, _, hlc, _, hm, hx, hi⟩
  · simp at e
    subst e
    exact ⟨[], none, 0, rfl, by simp, fun i x h => by simp at h⟩
  · simp at e
    subst e
    have hlm : len ≤ m := by rw [hm]; split <;> omega
    have hlen : len * 16 ≤ 140737488351232 := by
      have := hw ((((List.range len).map D).length + ((List.range (m - len)).map fun j => D (len + j)).length) * Tryz.prog.bytesOf 44) (by rw [hx]; simp [DataW.weights, Tryz.underlying40])
      rw [bytesOp, reach_eq] at this
      simp at this
      omega
    have hall : ∀ i, i < len → ∃ y : Int × Int, w.cell? (a.add (i * 2)) = some (.int .i64 y.1) ∧ w.cell? (a.add (i * 2 + 1)) = some (.int .i64 y.2) := by
      intro i hil
      obtain ⟨cs', hc, ht⟩ := hi i (by omega)
      rw [cellsOp] at hc
      obtain ⟨_, _, hcell⟩ := World.cells?_some hc
      obtain ⟨k, av, rfl, _⟩ := trod_op ht
      refine ⟨(k, av), ?_, ?_⟩
      · have := hcell 0 (by omega); rw [Deep.add_add] at this; simpa using this
      · have := hcell 1 (by omega); rw [Deep.add_add] at this; simpa using this
    obtain ⟨g, hg⟩ := Deep.choose_lt hall
    refine ⟨(List.range len).map g, some a, cap, by simp, by simp; omega, fun i y hy => ?_⟩
    rw [List.getElem?_map, Option.map_eq_some_iff] at hy
    obtain ⟨j, hj, rfl⟩ := hy
    have hjl : i < len := by simpa using (List.getElem?_eq_some_iff.1 hj).1
    obtain rfl : i = j := by simpa [hjl] using hj
    have hs : a.spot = none := by
      have := (hg 0 (by omega)).1
      simp only [Nat.zero_mul] at this
      exact spot_none (by simpa [Addr.add] using this)
    refine ⟨a.block, a.off, by cases a; simp_all, ?_, ?_⟩
    · have := (hg i hjl).1; rwa [add_of_spot hs] at this
    · have := (hg i hjl).2; rwa [add_of_spot hs, ← Nat.add_assoc] at this
theorem open_prog {fuel : Nat} {v : Value} {x : DataW H × List MemPlace} (h : DataW.trod enc Tryz.prog w base spare held fuel 22 [v] = some x) (hw : ∀ n, n ∈ x.1.weights Tryz.prog 22 → n ≤ reachBytes) : ∃ p, ProgAt w v p := by
  rcases Deep.open_slice Tryz.underlying22 h with ⟨e, _⟩ | ⟨a, len, cap, m, n, D, Pl, e, _, hlc, _, hm, hx, hi⟩
  · simp at e
    subst e
    exact ⟨[], none, 0, rfl, by simp, fun i x h => by simp at h⟩
  · simp at e
    subst e
    have hlm : len ≤ m := by rw [hm]; split <;> omega
    have hlen : len * 40 ≤ 140737488351232 := by
      have := hw ((((List.range len).map D).length + ((List.range (m - len)).map fun j => D (len + j)).length) * Tryz.prog.bytesOf 42) (by rw [hx]; simp [DataW.weights, Tryz.underlying22])
      rw [bytesFunc, reach_eq] at this
      simp at this
      omega
    have hall : ∀ i, i < len → ∃ y : Fn × Value, w.cell? (a.add (i * 3)) = some (.int .i64 y.1.args) ∧ w.cell? (a.add (i * 3 + 1)) = some (.int .i64 y.1.locals) ∧ w.cell? (a.add (i * 3 + 2)) = some y.2 ∧ CodeAt w y.2 y.1.code := by
      intro i hil
      obtain ⟨cs', hc, ht⟩ := hi i (by omega)
      rw [cellsFunc] at hc
      obtain ⟨_, hcl, hcell⟩ := World.cells?_some hc
      obtain ⟨f0, f1, f2, hu, t0, o0, t1, o1, t2, o2⟩ := typeFunc
      obtain ⟨y0, y1, y2, n', hy, _, g0, g1, g2⟩ := Deep.trod_struct3 hu ht
      rw [t0, o0, cellsInt] at g0
      rw [t1, o1, cellsInt] at g1
      rw [t2, o2, cellsOps] at g2
      obtain ⟨ar, e0, r0, _⟩ := DataW.trod_int Tryz.underlying3 g0
      obtain ⟨lo, e1, r1, _⟩ := DataW.trod_int Tryz.underlying3 g1
      match cs', hcl with
      | [c0, c1, c2], _ =>
        simp at e0 e1
        subst e0 e1
        simp only [List.drop, List.take] at g2
        have hD : D i = .agg [y0.1, y1.1, y2.1] := congrArg Prod.fst hy
        obtain ⟨c, hcode⟩ := open_code g2 (fun q hq => hw q (by
          rw [hx]
          simp only [DataW.weights, Tryz.underlying22, List.mem_cons, List.mem_append]
          refine Or.inr (Or.inl (weightsAll_mem (d := D i) (List.mem_map.2 ⟨i, by simpa using hil, rfl⟩) q ?_))
          rw [hD]
          simp only [DataW.weights, hu, DataW.weightsEach, List.map_cons, List.map_nil, t0, t1, t2, List.mem_append]
          exact Or.inr (Or.inr (Or.inl hq))))
        refine ⟨(⟨ar, lo, c⟩, c2), ?_, ?_, ?_, hcode⟩
        · have := hcell 0 (by omega); rw [Deep.add_add] at this; simpa using this
        · have := hcell 1 (by omega); rw [Deep.add_add] at this; simpa using this
        · have := hcell 2 (by omega); rw [Deep.add_add] at this; simpa using this
    have : Inhabited (Fn × Value) := ⟨(Fn.zero, .nilIface)⟩
    obtain ⟨g, hg⟩ := Deep.choose_lt hall
    refine ⟨(List.range len).map fun i => (g i).1, some a, cap, by simp, by simp; omega, fun i y hy => ?_⟩
    rw [List.getElem?_map, Option.map_eq_some_iff] at hy
    obtain ⟨j, hj, rfl⟩ := hy
    have hjl : i < len := by simpa using (List.getElem?_eq_some_iff.1 hj).1
    obtain rfl : i = j := by simpa [hjl] using hj
    have hs : a.spot = none := by
      have := (hg 0 (by omega)).1
      simp only [Nat.zero_mul] at this
      exact spot_none (by simpa [Addr.add] using this)
    obtain ⟨k0, k1, k2, k3⟩ := hg i hjl
    refine ⟨a.block, a.off, (g i).2, by cases a; simp_all, ?_, ?_, ?_, k3⟩
    · rwa [add_of_spot hs] at k0
    · rwa [add_of_spot hs, ← Nat.add_assoc] at k1
    · rwa [add_of_spot hs, ← Nat.add_assoc] at k2
end
theorem gKinds : Tryz.prog.globalNamed "glebe/op.kinds" = some 2 := by kernel_rfl
theorem gKindsType : (Tryz.prog.globals[2]?).map (·.type) = some 130 := by kernel_rfl
theorem laid_at {H : Type} (i : Nat) (h : i < 17) : ([.agg [.lit (.int .i64 0), .lit (.int .i64 1), .lit (.int .i64 1)], .agg [.lit (.int .i64 1), .lit (.int .i64 0), .lit (.int .i64 0)], .agg [.lit (.int .i64 0), .lit (.int .i64 1), .lit (.int .i64 2)], .agg [.lit (.int .i64 1), .lit (.int .i64 0), .lit (.int .i64 2)], .agg [.lit (.int .i64 2), .lit (.int .i64 1), .lit (.int .i64 0)], .agg [.lit (.int .i64 2), .lit (.int .i64 1), .lit (.int .i64 0)], .agg [.lit (.int .i64 2), .lit (.int .i64 1), .lit (.int .i64 0)], .agg [.lit (.int .i64 2), .lit (.int .i64 1), .lit (.int .i64 0)], .agg [.lit (.int .i64 2), .lit (.int .i64 1), .lit (.int .i64 0)], .agg [.lit (.int .i64 0), .lit (.int .i64 0), .lit (.int .i64 3)], .agg [.lit (.int .i64 1), .lit (.int .i64 0), .lit (.int .i64 3)], .agg [.lit (.int .i64 0), .lit (.int .i64 1), .lit (.int .i64 4)], .agg [.lit (.int .i64 1), .lit (.int .i64 0), .lit (.int .i64 0)], .agg [.lit (.int .i64 0), .lit (.int .i64 1), .lit (.int .i64 4)], .agg [.lit (.int .i64 2), .lit (.int .i64 1), .lit (.int .i64 0)], .agg [.lit (.int .i64 1), .lit (.int .i64 1), .lit (.int .i64 0)], .agg [.lit (.int .i64 1), .lit (.int .i64 0), .lit (.int .i64 0)]] : List (DataW H))[i]? = some (.agg [.lit (.int .i64 (tk i)), .lit (.int .i64 (lv i)), .lit (.int .i64 (opd i))]) := by
  have : i = 0 ∨ i = 1 ∨ i = 2 ∨ i = 3 ∨ i = 4 ∨ i = 5 ∨ i = 6 ∨ i = 7 ∨ i = 8 ∨ i = 9 ∨ i = 10 ∨ i = 11 ∨ i = 12 ∨ i = 13 ∨ i = 14 ∨ i = 15 ∨ i = 16 := by omega
  rcases this with rfl | rfl | rfl | rfl | rfl | rfl | rfl | rfl | rfl | rfl | rfl | rfl | rfl | rfl | rfl | rfl | rfl <;> rfl
theorem kinds_of_laid {W : World} (h : laidMetH Tryz.prog [("glebe/op.kinds", Rows.laid_glebe_op_kinds)] W) : KindsAt W := by
  obtain ⟨ps, ⟨g', t', cs, fuel, p, q, hg', ht', hvar, hd, _, _⟩, _⟩ := (h : laidMet Tryz.prog [("glebe/op.kinds", Rows.laid_glebe_op_kinds)] W)
  obtain rfl := Option.some.inj (gKinds.symm.trans hg')
  obtain rfl := Option.some.inj (gKindsType.symm.trans ht')
  obtain ⟨xs, m, _, hx, _, hxl, hi⟩ := DataW.trod_array Tryz.underlying130 hd
  have hagg : (Rows.laid_glebe_op_kinds : DataW Unit) = .agg (xs.map (·.1)) := congrArg Prod.fst hx
  have hl : ∀ i, i < 17 → (xs[i]?).map (·.1) = some (.agg [.lit (.int .i64 (tk i)), .lit (.int .i64 (lv i)), .lit (.int .i64 (opd i))]) := by
    intro i hi17
    rw [← List.getElem?_map, ← laid_at i hi17]
    unfold Rows.laid_glebe_op_kinds at hagg
    rw [← DataW.agg.inj hagg]
  have hc : ∀ i, i < 17 → cs[i * 3]? = some (.int .i64 (tk i)) ∧ cs[i * 3 + 1]? = some (.int .i64 (lv i)) ∧ cs[i * 3 + 2]? = some (.int .i64 (opd i)) := by
    intro i hi17
    have h1 := hi i hi17
    obtain ⟨x, hxi, hx1⟩ := Option.map_eq_some_iff.1 (hl i hi17)
    rw [hxi, cellsKind] at h1
    obtain ⟨f0, f1, f2, hu, t0, o0, t1, o1, t2, o2⟩ := typeKind
    obtain ⟨y0, y1, y2, n', hy, _, g0, g1, g2⟩ := Deep.trod_struct3 hu h1
    rw [t0, o0, cellsInt] at g0
    rw [t1, o1, cellsInt] at g1
    rw [t2, o2, cellsInt] at g2
    obtain ⟨z0, e0, r0, _⟩ := DataW.trod_int Tryz.underlying3 g0
    obtain ⟨z1, e1, r1, _⟩ := DataW.trod_int Tryz.underlying3 g1
    obtain ⟨z2, e2, r2, _⟩ := DataW.trod_int Tryz.underlying3 g2
    rw [hy, r0, r1, r2] at hx1
    simp at hx1
    obtain ⟨rfl, rfl, rfl⟩ := hx1
    refine ⟨?_, ?_, ?_⟩
    · have := congrArg (·[0]?) e0
      simpa [List.getElem?_take, List.getElem?_drop] using this
    · have := congrArg (·[0]?) e1
      simpa [List.getElem?_take, List.getElem?_drop, Nat.add_comm, Nat.add_left_comm] using this
    · have := congrArg (·[0]?) e2
      simpa [List.getElem?_take, List.getElem?_drop, Nat.add_comm, Nat.add_left_comm] using this
  intro k hk
  rw [World.var?_cell gKinds hvar k]
  obtain ⟨h0, h1, h2⟩ := hc (k / 3) (by omega)
  have : k = k / 3 * 3 ∨ k = k / 3 * 3 + 1 ∨ k = k / 3 * 3 + 2 := by omega
  rcases this with e | e | e
  · rw [e, h0]; unfold tk; rw [← e]
  · rw [e, h1]; unfold lv; rw [← e]
  · rw [e, h2]; unfold opd; rw [← e]
end Go.Proofs.YtjioipkfnekigaaGreatDoor
namespace Go.Proofs.YtjioipkfnekigaaGreatDoor
def tkS : List (List UInt8 × Nat) := [([112, 117, 115, 104], 1), ([112, 111, 112], 0), ([108, 111, 97, 100], 1), ([115, 116, 111, 114, 101], 1), ([97, 100, 100], 0), ([115, 117, 98], 0), ([109, 117, 108], 0), ([108, 101, 115, 115], 0), ([115, 97, 109, 101], 0), ([106, 117, 109, 112], 1), ([122, 101, 114, 111], 1), ([99, 97, 108, 108], 1), ([114, 101, 116, 117, 114, 110], 0), ([109, 97, 107, 101], 1), ([114, 101, 115, 117, 109, 101], 0), ([121, 105, 101, 108, 100], 0), ([112, 117, 116], 0)]
def lineT (word : List UInt8) (l : List Int) : List UInt8 := Lib.join (word :: l.map Lib.itoa) [32] ++ [10]
def opT (x : Int × Int) : List UInt8 := if (tkS.getD x.1.toNat ([], 0)).2 = 0 then lineT (tkS.getD x.1.toNat ([], 0)).1 [] else lineT (tkS.getD x.1.toNat ([], 0)).1 [x.2]
def fnT (f : Fn) : List UInt8 := lineT [102, 117, 110, 99] [f.args, f.locals] ++ f.code.flatMap opT
def showT (p : List Fn) : List UInt8 := p.flatMap fnT
def splitT (c : UInt8) : List UInt8 → List (List UInt8)
  | [] => [[]]
  | b :: l => if b = c then [] :: splitT c l else match splitT c l with
    | [] => [[b]]
    | y :: ys => (b :: y) :: ys
theorem splitT_ne (c : UInt8) : ∀ l, splitT c l ≠ []
  | [] => by simp [splitT]
  | b :: l => by
    unfold splitT
    split
    · simp
    · split <;> simp
theorem splitK_eq (c : UInt8) (k : Nat) (l : List UInt8) : Lib.splitK [c] 0 (k + 1) (c :: l) = [] :: Lib.splitK [c] 0 k l := by
  have h : Lib.index (c :: l) [c] = 0 := by rw [Lib.index_one]; simp [Lib.indexByte]
  unfold Lib.splitK
  rw [h, if_neg (by decide)]
  cases k <;> simp [Lib.splitK]
theorem split_is (c : UInt8) : ∀ l, Lib.split l [c] = splitT c l
  | [] => by
    have : Lib.count [] [c] = 0 := by rw [Lib.count_one]; rfl
    unfold Lib.split
    rw [this]
    rfl
  | b :: l => by
    have ih := split_is c l
    unfold Lib.split at ih ⊢
    unfold splitT
    by_cases hb : b = c
    · subst hb
      rw [if_pos rfl, Lib.count_cons_eq, Nat.add_comm, splitK_eq, ih]
    · rw [if_neg hb, Lib.count_cons_ne b c l hb, ← ih]
      cases hk : Lib.count l [c] with
      | zero => rfl
      | succ k =>
        have hi : Lib.index l [c] ≠ -1 := fun h => by
          rw [Lib.count_miss h] at hk
          cases hk
        have h1 : Lib.index (b :: l) [c] = Lib.index l [c] + 1 := by
          rw [Lib.index_one, Lib.index_one]
          rw [Lib.index_one] at hi
          simp [Lib.indexByte, hb, hi]
        have h0 : 0 ≤ Lib.index l [c] := by
          have := Lib.indexByte_ge l c
          rw [Lib.index_one] at hi ⊢
          omega
        obtain ⟨i, hi'⟩ := Int.eq_ofNat_of_zero_le h0
        unfold Lib.splitK
        rw [h1, hi', if_neg (by simp; omega), if_neg (by simp)]
        have e1 : ((i : Int) + 1).toNat = i + 1 := by omega
        rw [e1, Int.toNat_natCast]
        simp
theorem split_length (c : UInt8) (l : List UInt8) : (splitT c l).length = l.count c + 1 := by
  induction l with
  | nil => rfl
  | cons b l ih =>
    unfold splitT
    by_cases hb : b = c
    · subst hb; simp [ih]
    · rw [if_neg hb]
      cases hs : splitT c l with
      | nil => exact absurd hs (splitT_ne c l)
      | cons y ys =>
        rw [hs] at ih
        simp [List.count_cons_of_ne hb] at ih ⊢
        exact ih
theorem join_split (c : UInt8) : ∀ l, Lib.join (splitT c l) [c] = l
  | [] => by simp [splitT, Lib.join_one]
  | b :: l => by
    have ih := join_split c l
    unfold splitT
    by_cases hb : b = c
    · subst hb
      rw [if_pos rfl]
      cases hs : splitT b l with
      | nil => exact absurd hs (splitT_ne b l)
      | cons y ys =>
        rw [hs, Lib.join_cons] at ih
        rw [Lib.join_cons]
        simp only [Lib.joinTail, List.map_cons, List.flatten_cons, List.nil_append] at ih ⊢
        rw [List.append_assoc, ih]
        rfl
    · rw [if_neg hb]
      cases hs : splitT c l with
      | nil => exact absurd hs (splitT_ne c l)
      | cons y ys =>
        rw [hs, Lib.join_cons] at ih
        simp only [Lib.join_cons, List.cons_append, ih]
theorem split_none {c : UInt8} : ∀ {x : List UInt8}, c ∉ x → splitT c x = [x]
  | [], _ => rfl
  | b :: x, h => by
    have hb : b ≠ c := fun e => h (by simp [e])
    unfold splitT
    rw [if_neg hb, split_none (fun e => h (by simp [e]))]
theorem split_app {c : UInt8} (l : List UInt8) : ∀ {x : List UInt8}, c ∉ x → splitT c (x ++ c :: l) = x :: splitT c l
  | [], _ => by simp [splitT]
  | b :: x, h => by
    have hb : b ≠ c := fun e => h (by simp [e])
    rw [List.cons_append]
    conv => lhs; unfold splitT
    rw [if_neg hb, split_app l (fun e => h (by simp [e]))]
theorem split_join {c : UInt8} : ∀ {xs : List (List UInt8)}, xs ≠ [] → (∀ x ∈ xs, c ∉ x) → splitT c (Lib.join xs [c]) = xs
  | [], h, _ => absurd rfl h
  | [x], _, h => by rw [Lib.join_one]; exact split_none (h x (by simp))
  | x :: y :: ys, _, h => by
    have ih := split_join (xs := y :: ys) (by simp) (fun z hz => h z (by simp [hz]))
    rw [Lib.join_cons]
    have : Lib.joinTail [c] (y :: ys) = c :: Lib.join (y :: ys) [c] := by rw [Lib.join_cons]; simp [Lib.joinTail]
    rw [this, split_app _ (h x (by simp)), ih]
theorem splitT_app (c : UInt8) (r : List UInt8) : ∀ (a : List UInt8), c ∉ a → splitT c (a ++ c :: r) = a :: splitT c r
  | [], _ => by simp [splitT]
  | b :: a, h => by
    have ih := splitT_app c r a (fun hh => h (by simp [hh]))
    have hb : b ≠ c := fun e => h (by simp [e])
    rw [List.cons_append]
    conv => lhs; unfold splitT
    rw [if_neg hb, ih]
structure PosS (c : UInt8) (l : List UInt8) (xs : List (List UInt8)) (a i : Nat) : Prop where
  le : a ≤ i
  len : i ≤ l.length
  cut : splitT c l = xs ++ splitT c (l.drop a)
  no : c ∉ (l.take i).drop a
  few : xs.length ≤ a
theorem PosS.start (c : UInt8) (l : List UInt8) : PosS c l [] 0 0 := ⟨Nat.le_refl _, Nat.zero_le _, by simp, by simp, Nat.zero_le _⟩
theorem take_snoc {l : List UInt8} {i : Nat} {b : UInt8} (h : l[i]? = some b) {a : Nat} (ha : a ≤ i) : (l.take (i + 1)).drop a = (l.take i).drop a ++ [b] := by
  have hi := (List.getElem?_eq_some_iff.1 h).1
  rw [List.take_add_one, h, List.drop_append_of_le_length (by simp; omega)]
  rfl
theorem PosS.on {c : UInt8} {l : List UInt8} {xs : List (List UInt8)} {a i : Nat} (h : PosS c l xs a i) {b : UInt8} (hb : l[i]? = some b) (hn : b ≠ c) : PosS c l xs a (i + 1) := by
  refine ⟨Nat.le_succ_of_le h.le, (List.getElem?_eq_some_iff.1 hb).1, h.cut, ?_, h.few⟩
  rw [take_snoc hb h.le]
  intro hc
  rcases List.mem_append.1 hc with hc | hc
  · exact h.no hc
  · exact hn (List.mem_singleton.1 hc).symm
theorem PosS.hit {c : UInt8} {l : List UInt8} {xs : List (List UInt8)} {a i : Nat} (h : PosS c l xs a i) (hb : l[i]? = some c) : PosS c l (xs ++ [(l.take i).drop a]) (i + 1) (i + 1) := by
  have hi := (List.getElem?_eq_some_iff.1 hb).1
  refine ⟨Nat.le_refl _, hi, ?_, by simp, by simp; have := h.few; have := h.le; omega⟩
  have e : l.drop a = (l.take i).drop a ++ c :: l.drop (i + 1) := by
    have h1 : l = l.take i ++ c :: l.drop (i + 1) := by
      have := (List.getElem?_eq_some_iff.1 hb).2
      rw [← this, List.getElem_cons_drop, List.take_append_drop]
    conv => lhs; rw [h1]
    rw [List.drop_append_of_le_length (by simp; have := h.le; omega)]
  rw [h.cut, e, splitT_app c _ _ h.no]
  simp
theorem PosS.last {c : UInt8} {l : List UInt8} {xs : List (List UInt8)} {a : Nat} (h : PosS c l xs a l.length) : splitT c l = xs ++ [(l.take l.length).drop a] := by
  have hn := h.no
  rw [List.take_length] at hn ⊢
  rw [h.cut, split_none hn]
open Go.RowKit
theorem wp_appR {o : Oper} {a : Act} {K : Act → World → Prop} {Q : Exit → Act → World → Prop} (w : World) (s x : Operand) (t : TypeId)
    (ho : o.op = .call { callee := .builtin .append, args := #[s, x], argTypes := #[t, t] }) {v u v' : Value} {w' : World} (hs : a.eval s = v) (hx : a.eval x = u)
    (hr : (Builtin.append_ #[t, t] o.type #[v, u]).run Tryz.prog w = .ok v' w') (h : K (a.put o.dst v') w') : o.wp Tryz.prog a w K Q := by
  unfold Oper.wp execOp
  simp only [ho, resolve, invoke, builtin, Sem.run_bind, Sem.run_pure, Result.andThen_ok, List.map_toArray, List.map_cons, List.map_nil, hs, hx, hr]
  exact h
theorem wpList_appR {ops : Array Oper} {rest : List Oper} {o : Oper} {a : Act} {Q : Exit → Act → World → Prop} (w : World) (hgd : o.guard = none) (s x : Operand) (t : TypeId)
    (ho : o.op = .call { callee := .builtin .append, args := #[s, x], argTypes := #[t, t] }) {v u v' : Value} {w' : World} (hs : a.eval s = v) (hx : a.eval x = u)
    (hr : (Builtin.append_ #[t, t] o.type #[v, u]).run Tryz.prog w = .ok v' w') (h : wpList Tryz.prog ops Q rest (a.put o.dst v') w') : wpList Tryz.prog ops Q (o :: rest) a w :=
  wpList_plain hgd fun _ hK => wp_appR w s x t ho hs hx hr (hK _ _ h)
def flatOps (c : List (Int × Int)) : List Value := c.flatMap fun x => [.int .i64 x.1, .int .i64 x.2]
theorem flatOps_at : ∀ (c : List (Int × Int)) (i : Nat) (x : Int × Int), c[i]? = some x → (flatOps c)[i * 2]? = some (.int .i64 x.1) ∧ (flatOps c)[i * 2 + 1]? = some (.int .i64 x.2)
  | [], i, x, h => by simp at h
  | y :: c, 0, x, h => by simp at h; subst h; simp [flatOps]
  | y :: c, i + 1, x, h => by
    have := flatOps_at c i x (by simpa using h)
    have e : flatOps (y :: c) = .int .i64 y.1 :: .int .i64 y.2 :: flatOps c := by simp [flatOps]
    rw [e, show (i + 1) * 2 = i * 2 + 1 + 1 by omega]
    simpa using this
theorem codeAt_block {w : World} {b : Nat} {A : Array Value} {t : TypeId} {fr : Nat × Nat} (h : w.heap[b]? = some (.cells A t fr)) (c : List (Int × Int)) (hA : A = (flatOps c).toArray) (hl : c.length ≤ 8796093022208) (n cap : Nat) (hn : n = c.length) :
    CodeAt w (.slice (some ⟨b, 0, none⟩) n cap) c := by
  subst hn hA
  refine ⟨_, _, rfl, hl, fun i x hx => ⟨b, 0, rfl, ?_, ?_⟩⟩
  · rw [cell_lays h]; simpa using (flatOps_at c i x hx).1
  · rw [cell_lays h]; simpa using (flatOps_at c i x hx).2
def flatFns (l : List (Fn × Value)) : List Value := l.flatMap fun x => [.int .i64 x.1.args, .int .i64 x.1.locals, x.2]
theorem flatFns_at : ∀ (l : List (Fn × Value)) (i : Nat) (x : Fn × Value), l[i]? = some x → (flatFns l)[i * 3]? = some (.int .i64 x.1.args) ∧ (flatFns l)[i * 3 + 1]? = some (.int .i64 x.1.locals) ∧ (flatFns l)[i * 3 + 2]? = some x.2
  | [], i, x, h => by simp at h
  | y :: c, 0, x, h => by simp at h; subst h; simp [flatFns]
  | y :: c, i + 1, x, h => by
    have := flatFns_at c i x (by simpa using h)
    have e : flatFns (y :: c) = .int .i64 y.1.args :: .int .i64 y.1.locals :: y.2 :: flatFns c := by simp [flatFns]
    rw [e, show (i + 1) * 3 = i * 3 + 1 + 1 + 1 by omega]
    simpa using this
theorem progAt_block {w : World} {b : Nat} {A : Array Value} {t : TypeId} {fr : Nat × Nat} (h : w.heap[b]? = some (.cells A t fr)) (l : List (Fn × Value)) (hA : A = (flatFns l).toArray) (hl : l.length ≤ 8796093022208)
    (hc : ∀ x, x ∈ l → CodeAt w x.2 x.1.code) (n cap : Nat) (hn : n = l.length) (p : List Fn) (hp : p = l.map (·.1)) : ProgAt w (.slice (some ⟨b, 0, none⟩) n cap) p := by
  subst hn hA hp
  refine ⟨_, cap, by rw [List.length_map], by simpa using hl, fun i f hf => ?_⟩
  rw [List.getElem?_map, Option.map_eq_some_iff] at hf
  obtain ⟨x, hx, rfl⟩ := hf
  obtain ⟨h1, h2, h3⟩ := flatFns_at l i x hx
  refine ⟨b, 0, x.2, rfl, ?_, ?_, ?_, hc x (List.mem_of_getElem? hx)⟩
  · rw [cell_lays h]; simpa using h1
  · rw [cell_lays h]; simpa using h2
  · rw [cell_lays h]; simpa using h3
def cnt0 : List (Int × Int) := [(13, 1), (3, 0), (2, 0), (0, 7), (14, 0), (16, 0), (2, 0), (0, 0), (14, 0), (16, 0), (2, 0), (0, 0), (14, 0), (12, 0)]
def cnt1 : List (Int × Int) := [(2, 0), (15, 0), (1, 0), (2, 0), (0, 1), (11, 2), (15, 0), (1, 0), (0, 99), (12, 0), (0, 5), (9, 9)]
def cnt2 : List (Int × Int) := [(2, 0), (2, 1), (4, 0), (12, 0)]
def cntL : List Fn := [⟨0, 1, cnt0⟩, ⟨1, 1, cnt1⟩, ⟨2, 2, cnt2⟩]
def CountAt (n0 : Nat) (w : World) (v : Value) : Prop :=
  ∃ b0 b1 b2 b, n0 ≤ b0 ∧ b0 < b1 ∧ b1 < b2 ∧ b2 < b ∧ v = .slice (some ⟨b, 0, none⟩) 3 3 ∧ w.heap[b0]? = some (.cells (flatOps cnt0).toArray 44) ∧ w.heap[b1]? = some (.cells (flatOps cnt1).toArray 44) ∧
    w.heap[b2]? = some (.cells (flatOps cnt2).toArray 44) ∧
    w.heap[b]? = some (.cells #[.int .i64 0, .int .i64 1, .slice (some ⟨b0, 0, none⟩) 14 14, .int .i64 1, .int .i64 1, .slice (some ⟨b1, 0, none⟩) 12 12, .int .i64 2, .int .i64 2, .slice (some ⟨b2, 0, none⟩) 4 4] 42)
theorem CountAt.prog {n0 : Nat} {w : World} {v : Value} (h : CountAt n0 w v) : ProgAt w v cntL := by
  obtain ⟨b0, b1, b2, b, _, _, _, _, rfl, h0, h1, h2, h3⟩ := h
  refine progAt_block h3 [(⟨0, 1, cnt0⟩, .slice (some ⟨b0, 0, none⟩) 14 14), (⟨1, 1, cnt1⟩, .slice (some ⟨b1, 0, none⟩) 12 12), (⟨2, 2, cnt2⟩, .slice (some ⟨b2, 0, none⟩) 4 4)] rfl (by simp) ?_ 3 3 rfl cntL rfl
  intro x hx
  simp only [List.mem_cons, List.not_mem_nil, or_false] at hx
  rcases hx with rfl | rfl | rfl
  · exact codeAt_block h0 cnt0 rfl (by decide) 14 14 rfl
  · exact codeAt_block h1 cnt1 rfl (by decide) 12 12 rfl
  · exact codeAt_block h2 cnt2 rfl (by decide) 4 4 rfl
end Go.Proofs.YtjioipkfnekigaaGreatDoor
