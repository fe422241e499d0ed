/- Plain, Keep, Mem, OpenG, Open, TextS, Hide, App, Blocks, TextA -/
import Derived.Below
import Derived.WalkKit
import Derived.WalkSmall
import Derived.BigQuiet
import Derived.Test.YtjioipkfnekigaaDoorRows
import Derived.ProofKit
import Derived.OpenShut
import Derived.Deep.Slices
import Derived.SizedLaws
import Derived.Deep.Strs
import Derived.Lib.LaidTab
import Derived.Lib.Join
import Derived.Lib.ItoaNum
import Derived.Test.YtjioipkfnekigaaDoorChecked
import Derived.Laws.AppendOwn
import Derived.Test.YtjioipkfnekigaaDoorShelf
set_option maxRecDepth 100000
set_option maxHeartbeats 8000000
namespace Go.Proofs.YtjioipkfnekigaaDoor
structure Fn where
  args : Int
  locals : Int
  code : List (Int × Int)
def Fn.zero : Fn := ⟨0, 0, []⟩
def ixB (i n : Int) : Bool := decide (0 ≤ i) && decide (i < n)
theorem ixB_true {i n : Int} (h : 0 ≤ i) (h' : i < n) : ixB i n = true := by simp [ixB, h, h']
theorem ixB_false {i n : Int} (h : ¬ (0 ≤ i ∧ i < n)) : ixB i n = false := by
  unfold ixB; rw [Bool.and_eq_false_iff]; simp only [decide_eq_false_iff_not]; omega
theorem ixB_iff {i n : Int} : ixB i n = true ↔ 0 ≤ i ∧ i < n := by simp [ixB]
def inB (n low high : Int) : Bool := decide (low ≤ n) && decide (n ≤ high)
theorem inB_true {n l h : Int} (h1 : l ≤ n) (h2 : n ≤ h) : inB n l h = true := by simp [inB, h1, h2]
theorem inB_false {n l h : Int} (h' : ¬ (l ≤ n ∧ n ≤ h)) : inB n l h = false := by
  unfold inB; rw [Bool.and_eq_false_iff]; simp only [decide_eq_false_iff_not]; omega
theorem inB_iff {n l h : Int} : inB n l h = true ↔ l ≤ n ∧ n ≤ h := by simp [inB]
def roomB (a l : Int) : Bool := decide (0 ≤ a) && decide (a ≤ l) && decide (l ≤ 4)
theorem roomB_iff {a l : Int} : roomB a l = true ↔ 0 ≤ a ∧ a ≤ l ∧ l ≤ 4 := by simp [roomB, and_assoc]
def ktab : List Int := [0,1,1, 1,0,0, 0,1,2, 1,0,2, 2,1,0, 2,1,0, 2,1,0, 2,1,0, 2,1,0, 0,0,3, 1,0,3, 0,1,4, 1,0,0, 0,1,4, 2,1,0, 1,1,0, 1,0,0]
def tk (k : Nat) : Int := ktab.getD (k * 3) 0
def lv (k : Nat) : Int := ktab.getD (k * 3 + 1) 0
def opd (k : Nat) : Int := ktab.getD (k * 3 + 2) 0
def effS (p : List Fn) (kd a : Int) : Int × Int × Int :=
  if 0 ≤ kd ∧ kd < 17 then
    if kd = 11 then (if 0 ≤ a ∧ a < p.length then ((p.getD a.toNat Fn.zero).args, 1, 0) else (0, 0, 5))
    else (tk kd.toNat, lv kd.toNat, 0)
  else (0, 0, 4)
def mayB (p : List Fn) (f : Fn) (o a : Int) : Bool :=
  if o = 0 then decide (a = 0) else if o = 1 then inB a 0 999 else if o = 2 then ixB a f.locals else if o = 3 then ixB a f.code.length
  else ixB a p.length && roomB (p.getD a.toNat Fn.zero).args (p.getD a.toNat Fn.zero).locals
def opS (p : List Fn) (f : Fn) (x : Int × Int) : Int :=
  if 0 ≤ x.1 ∧ x.1 < 17 then
    if mayB p f (opd x.1.toNat) x.2 = true then (if x.1 = 13 ∧ (p.getD x.2.toNat Fn.zero).args ≠ 1 then 1 else 0) else 3
  else 4
def opsS (p : List Fn) (f : Fn) : List (Int × Int) → Int
  | [] => 0
  | x :: r => if opS p f x = 0 then opsS p f r else opS p f x
def chkS (p : List Fn) (f : Int) : Int :=
  if 0 ≤ f ∧ f < p.length then
    let g := p.getD f.toNat Fn.zero
    if 24 < g.code.length then 2 else if roomB g.args g.locals = true then opsS p g g.code else 3
  else 5
theorem getD_of_lt {α : Type} (l : List α) (i : Nat) (d : α) (h : i < l.length) : l[i]? = some (l.getD i d) := by
  simp [List.getD, h]
open Go.RowKit
abbrev Kept (w w' : World) : Prop := Below w.heap.size w w'
theorem Kept.refl (w : World) : Kept w w := Below.refl _ w
theorem Kept.trans {a b c : World} (h : Kept a b) (k : Kept b c) : Kept a c := Below.trans h (Below.mono k h.size)
theorem Kept.drew {a b : World} (h : Kept a b) : Kept a b.drew := Below.drew h
theorem Kept.alloc {a b : World} (h : Kept a b) (o : Obj) : Kept a (b.alloc o) := Below.alloc h h.size o
theorem Kept.setCell {a b : World} (h : Kept a b) {p : Addr} (hp : a.heap.size ≤ p.block) (u : Value) : Kept a (b.setCell p u) := Below.setCell h hp u
theorem Kept.drewN {a b : World} (h : Kept a b) (n : Nat) : Kept a (b.drewN n) := below_drewN h n
theorem cell_lt {w : World} {p : Addr} {v : Value} (h : w.cell? p = some v) : p.block < w.heap.size := by
  unfold World.cell? at h
  split at h
  · rename_i hb; exact (Array.getElem?_eq_some_iff.1 hb).1
  · cases h
theorem Kept.cell {w w' : World} (h : Kept w w') {p : Addr} {v : Value} (hc : w.cell? p = some v) : w'.cell? p = some v :=
  (Below.cell h (cell_lt hc)).trans hc
theorem hide {p : Prop} (h : p) : Hid p := h
theorem unhide {p : Prop} (h : Hid p) : p := h
theorem lays_new {w : World} {o : Obj} {b : Nat} (h : w.heap.size = b) : (w.alloc o).heap[b]? = some o := by
  subst h
  show (w.heap.push o)[w.heap.size]? = _
  simp
theorem lays_alloc {w : World} {o : Obj} {b : Nat} (h : w.heap[b]? = some o) (o' : Obj) : (w.alloc o').heap[b]? = some o :=
  (Below.heap_alloc w o' b (Array.getElem?_eq_some_iff.1 h).1).trans h
theorem lays_kept {w w' : World} (k : Kept w w') {o : Obj} {b : Nat} (h : w.heap[b]? = some o) : w'.heap[b]? = some o :=
  (k.block b (Array.getElem?_eq_some_iff.1 h).1).trans h
theorem lays_drew {w : World} {o : Obj} {b : Nat} (h : w.heap[b]? = some o) : w.drew.heap[b]? = some o := h
theorem lays_other {w : World} {o : Obj} {b : Nat} (h : w.heap[b]? = some o) {a : Addr} (hn : b ≠ a.block) (u : Value) : (w.setCell a u).heap[b]? = some o :=
  (Below.heap_setCell w a u b hn).trans h
theorem cell_lays {w : World} {b : Nat} {c : Array Value} {t : TypeId} {fr : Nat × Nat} (h : w.heap[b]? = some (.cells c t fr)) (i : Nat) : w.cell? ⟨b, i, none⟩ = c[i]? := by
  simp [World.cell?, h]
theorem lays_set {w : World} {b : Nat} {c : Array Value} {t : TypeId} {fr : Nat × Nat} (h : w.heap[b]? = some (.cells c t fr)) (i : Nat) (u : Value) : (w.setCell ⟨b, i, none⟩ u).heap[b]? = some (.cells (c.setIfInBounds i u) t fr) := by
  simp [World.setCell, Array.getElem?_modify, h]
theorem frozen_lays {w : World} {b : Nat} {c : Array Value} {t : TypeId} (h : w.heap[b]? = some (.cells c t (0, 0))) (i : Nat) : w.frozen? ⟨b, i, none⟩ = false := by
  simp [World.frozen?, h]
structure KeptX (B : Nat) (w w' : World) : Prop where
  os : w'.os = w.os
  tape : w'.tape = w.tape
  output : w'.output = w.output
  size : w.heap.size ≤ w'.heap.size
  block : ∀ k, k < w.heap.size → k ≠ B → w'.heap[k]? = w.heap[k]?
theorem KeptX.of {B : Nat} {w w' : World} (h : Kept w w') : KeptX B w w' := ⟨h.os, h.tape, h.output, h.size, fun k hk _ => h.block k hk⟩
theorem KeptX.refl (B : Nat) (w : World) : KeptX B w w := .of (Kept.refl w)
theorem KeptX.trans {B : Nat} {a b c : World} (h : KeptX B a b) (k : KeptX B b c) : KeptX B a c :=
  ⟨k.os.trans h.os, k.tape.trans h.tape, k.output.trans h.output, Nat.le_trans h.size k.size, fun i hi hn => (k.block i (Nat.lt_of_lt_of_le hi h.size) hn).trans (h.block i hi hn)⟩
theorem KeptX.alloc {B : Nat} {a b : World} (h : KeptX B a b) (o : Obj) : KeptX B a (b.alloc o) := h.trans (.of ((Kept.refl _).alloc _))
theorem KeptX.drew {B : Nat} {a b : World} (h : KeptX B a b) : KeptX B a b.drew := h.trans (.of (Kept.refl _).drew)
theorem KeptX.setCell {B : Nat} {a b : World} (h : KeptX B a b) {p : Addr} (hp : p.block = B ∨ a.heap.size ≤ p.block) (u : Value) : KeptX B a (b.setCell p u) :=
  ⟨h.os, h.tape, h.output, by simpa [World.setCell] using h.size, fun k hk hn => (Below.heap_setCell _ _ _ _ (by omega)).trans (h.block k hk hn)⟩
theorem KeptX.kept {B : Nat} {w0 w w' : World} (h0 : Kept w0 w) (hB : w0.heap.size ≤ B) (h : KeptX B w w') : Kept w0 w' :=
  ⟨h.os.trans h0.os, h.tape.trans h0.tape, h.output.trans h0.output, Nat.le_trans h0.size h.size, fun k hk => (h.block k (Nat.lt_of_lt_of_le hk h0.size) (by omega)).trans (h0.block k hk)⟩
theorem KeptX.cell {B : Nat} {w w' : World} (h : KeptX B w w') {p : Addr} {v : Value} (hn : p.block ≠ B) (hc : w.cell? p = some v) : w'.cell? p = some v :=
  (World.cell?_of_block (w := w) (h.block p.block (cell_lt hc) hn)).trans hc
theorem KeptX.frozen {B : Nat} {w w' : World} (h : KeptX B w w') {p : Addr} (hp : p.block < w.heap.size) (hn : p.block ≠ B) : w'.frozen? p = w.frozen? p :=
  World.frozen?_of_block (w := w) (h.block p.block hp hn)
theorem KeptX.lays {B : Nat} {w w' : World} (h : KeptX B w w') {b : Nat} {o : Obj} (hn : b ≠ B) (hb : w.heap[b]? = some o) : w'.heap[b]? = some o :=
  (h.block b (Array.getElem?_eq_some_iff.1 hb).1 hn).trans hb
def IntsW (w : World) (v : Value) (l : List Int) : Prop :=
  ∃ oa cap, v = .slice oa l.length cap ∧ l.length ≤ 17592186043904 ∧ ∀ i z, l[i]? = some z → ∃ b o, oa = some ⟨b, o, none⟩ ∧ w.cell? ⟨b, o + i, none⟩ = some (.int .i64 z)
theorem IntsW.kept {w w' : World} (h : Kept w w') {v : Value} {l : List Int} (hl : IntsW w v l) : IntsW w' v l := by
  obtain ⟨oa, cap, e, hn, hi⟩ := hl
  refine ⟨oa, cap, e, hn, fun i z hz => ?_⟩
  obtain ⟨b, o, e1, h1⟩ := hi i z hz
  exact ⟨b, o, e1, h.cell h1⟩
theorem IntsW.nil (w : World) : IntsW w (.slice none 0 0) [] := ⟨none, 0, rfl, by simp, fun i z h => by simp at h⟩
def CodeAt (w : World) (v : Value) (c : List (Int × Int)) : Prop :=
  ∃ oa cap, v = .slice oa c.length cap ∧ c.length ≤ 8796093022208 ∧ ∀ i x, c[i]? = some x → ∃ b o, oa = some ⟨b, o, none⟩ ∧
    w.cell? ⟨b, o + i * 2, none⟩ = some (.int .i64 x.1) ∧ w.cell? ⟨b, o + i * 2 + 1, none⟩ = some (.int .i64 x.2)
def ProgAt (w : World) (v : Value) (p : List Fn) : Prop :=
  ∃ oa cap, v = .slice oa p.length cap ∧ p.length ≤ 8796093022208 ∧ ∀ i f, p[i]? = some f → ∃ b o cv, oa = some ⟨b, o, none⟩ ∧
    w.cell? ⟨b, o + i * 3, none⟩ = some (.int .i64 f.args) ∧ w.cell? ⟨b, o + i * 3 + 1, none⟩ = some (.int .i64 f.locals) ∧
    w.cell? ⟨b, o + i * 3 + 2, none⟩ = some cv ∧ CodeAt w cv f.code
def KindsAt (w : World) : Prop := ∀ k, k < 51 → w.cell? ⟨1, k, none⟩ = some (.int .i64 (ktab.getD k 0))
theorem CodeAt.kept {w w' : World} (h : Kept w w') {v : Value} {c : List (Int × Int)} (hc : CodeAt w v c) : CodeAt w' v c := by
  obtain ⟨oa, cap, e, hl, hi⟩ := hc
  refine ⟨oa, cap, e, hl, fun i x hx => ?_⟩
  obtain ⟨b, o, e1, h1, h2⟩ := hi i x hx
  exact ⟨b, o, e1, h.cell h1, h.cell h2⟩
theorem ProgAt.kept {w w' : World} (h : Kept w w') {v : Value} {p : List Fn} (hp : ProgAt w v p) : ProgAt w' v p := by
  obtain ⟨oa, cap, e, hl, hi⟩ := hp
  refine ⟨oa, cap, e, hl, fun i f hf => ?_⟩
  obtain ⟨b, o, cv, e1, h1, h2, h3, h4⟩ := hi i f hf
  exact ⟨b, o, cv, e1, h.cell h1, h.cell h2, h.cell h3, h4.kept h⟩
theorem KindsAt.kept {w w' : World} (h : Kept w w') (hk : KindsAt w) : KindsAt w' := fun k hk' => h.cell (hk k hk')
theorem ProgAt.lt {w : World} {v : Value} {p : List Fn} (hp : ProgAt w v p) : p.length ≤ 8796093022208 := by
  obtain ⟨_, _, _, h, _⟩ := hp; exact h
end Go.Proofs.YtjioipkfnekigaaDoor
namespace Go.Proofs.YtjioipkfnekigaaDoor
open Go.RowKit Go.ChangeShapes Go.WideShapes Go.ChangeAt
theorem own : ownKnob Tryd.prog.godebug = none := by kernel_rfl
theorem laidOut : laidOutB Tryd.prog = true := by kernel_rfl
theorem cellsInt : Tryd.prog.cellsOf 3 = 1 := by kernel_rfl
theorem reach_eq : reachBytes = 140737488351232 := rfl
section
variable {H : Type} {enc : TypeId × Value → H} {w : World} {base : Nat} {spare : Nat → Bool} {held : Bool}
theorem spot_none {a : Addr} {v : Value} (h : w.cell? a = some v) : a.spot = none := by
  unfold World.cell? at h
  split at h
  · split at h
    · cases h
    · rename_i hs; simpa using hs
  · cases h
theorem add_of_spot {a : Addr} (h : a.spot = none) (n : Nat) : a.add n = ⟨a.block, a.off + n, none⟩ := by
  unfold Addr.add
  split
  · rename_i e; subst e; cases a; simp_all
  · rfl
theorem weightsAll_mem {P : Program} {e : TypeId} : ∀ {l : List (DataW H)} {d : DataW H}, d ∈ l → ∀ n ∈ d.weights P e, n ∈ DataW.weightsAll P e l
  | d' :: r, d, hd, n, hn => by
    simp only [DataW.weightsAll, List.mem_append]
    rcases List.mem_cons.1 hd with rfl | h
    · exact Or.inl hn
    · exact Or.inr (weightsAll_mem h n hn)
end
theorem trodAll_below {H : Type} {enc : TypeId × Value → H} {W W' : World} (hb : Kept W W') : ∀ {ts : List TypeId} {vs : List Value} {ds : List (DataW H)} {ps : List MemPlace}, (∀ t, t ∈ ts → Tryd.prog.readableRec t = true ∧ t < Tryd.prog.types.size) →
    DataW.TrodAll enc Tryd.prog W 0 (fun _ => true) true ts vs ds ps → (∀ x, x ∈ ps → x.block < W.heap.size) → DataW.TrodAll enc Tryd.prog W' 0 (fun b => decide (b < W.heap.size)) true ts vs ds ps
  | [], vs, ds, ps, _, h, _ => by
    obtain ⟨rfl, rfl, rfl⟩ := trodAll_nil h
    exact trodAll_mk0
  | t :: ts, vs, ds, ps, hr, h, hl => by
    obtain ⟨v, vs', d, ds', p, q, rfl, rfl, rfl, h0, h1⟩ := trodAll_cons h
    obtain ⟨r1, r2⟩ := hr t (by simp)
    exact trodAll_cons_mk (Below.trod laidOut r1 r2 h0 hb (fun x hx => hl x (by simp [hx]))) (trodAll_below hb (fun t ht => hr t (by simp [ht])) h1 (fun x hx => hl x (by simp [hx])))
end Go.Proofs.YtjioipkfnekigaaDoor
namespace Go.Proofs.YtjioipkfnekigaaDoor
open Go.RowKit Go.ChangeShapes Go.WideShapes Go.ChangeAt
theorem cellsOp : Tryd.prog.cellsOf 45 = 2 := by kernel_rfl
theorem cellsOps : Tryd.prog.cellsOf 36 = 1 := by kernel_rfl
theorem cellsFunc : Tryd.prog.cellsOf 38 = 3 := by kernel_rfl
theorem cellsKind : Tryd.prog.cellsOf 86 = 3 := by kernel_rfl
theorem bytesOp : Tryd.prog.bytesOf 45 = 16 := by kernel_rfl
theorem bytesFunc : Tryd.prog.bytesOf 38 = 40 := by kernel_rfl
theorem typeOp : ∃ f0 f1 : Field, Tryd.prog.underlying 45 = some (.struct #[f0, f1]) ∧ f0.type = 3 ∧ f0.offset = 0 ∧ f1.type = 3 ∧ f1.offset = 1 := ⟨_, _, Tryd.underlying45, rfl, rfl, rfl, rfl⟩
theorem typeFunc : ∃ f0 f1 f2 : Field, Tryd.prog.underlying 38 = some (.struct #[f0, f1, f2]) ∧ f0.type = 3 ∧ f0.offset = 0 ∧ f1.type = 3 ∧ f1.offset = 1 ∧ f2.type = 36 ∧ f2.offset = 2 := ⟨_, _, _, Tryd.underlying38, rfl, rfl, rfl, rfl, rfl, rfl⟩
theorem typeKind : ∃ f0 f1 f2 : Field, Tryd.prog.underlying 86 = some (.struct #[f0, f1, f2]) ∧ f0.type = 3 ∧ f0.offset = 0 ∧ f1.type = 3 ∧ f1.offset = 1 ∧ f2.type = 3 ∧ f2.offset = 2 := ⟨_, _, _, Tryd.underlying86, rfl, rfl, rfl, rfl, rfl, rfl⟩
section
variable {H : Type} {enc : TypeId × Value → H} {w : World} {base : Nat} {spare : Nat → Bool} {held : Bool}
theorem trod_op {fuel : Nat} {cs : List Value} {x : DataW H × List MemPlace} (h : DataW.trod enc Tryd.prog w base spare held fuel 45 cs = some x) :
    ∃ k a : Int, cs = [.int .i64 k, .int .i64 a] ∧ x = (.agg [.lit (.int .i64 k), .lit (.int .i64 a)], []) ∧ (Lit.int .i64 k).wf = true ∧ (Lit.int .i64 a).wf = true := by
  obtain ⟨f0, f1, hu, t0, o0, t1, o1⟩ := typeOp
  obtain ⟨y0, y1, n, hx, hl, h0, h1⟩ := trod_struct2 hu h
  rw [t0, o0, cellsInt] at h0
  rw [t1, o1, cellsInt] at h1
  obtain ⟨k, e0, r0, w0⟩ := DataW.trod_int Tryd.underlying3 h0
  obtain ⟨a, e1, r1, w1⟩ := DataW.trod_int Tryd.underlying3 h1
  rw [cellsOp] at hl
  match cs, hl with
  | [c0, c1], _ =>
    simp at e0 e1
    subst e0 e1
    subst r0 r1
    exact ⟨k, a, rfl, by simpa using hx, w0, w1⟩
theorem open_code {fuel : Nat} {v : Value} {x : DataW H × List MemPlace} (h : DataW.trod enc Tryd.prog w base spare held fuel 36 [v] = some x) (hw : ∀ n, n ∈ x.1.weights Tryd.prog 36 → n ≤ reachBytes) : ∃ c, CodeAt w v c := by
  rcases Deep.open_slice Tryd.underlying36 h with ⟨e, _⟩ | ⟨a, len, cap, m, n, D, Pl, e, _, hlc, _, hm, hx, hi⟩
  · simp at e
    subst e
    exact ⟨[], none, 0, rfl, by simp, fun i x h => by simp at h⟩
  · simp at e
    subst e
    have hlm : len ≤ m := by rw [hm]; split <;> omega
    have hlen : len * 16 ≤ 140737488351232 := by
      have := hw ((((List.range len).map D).length + ((List.range (m - len)).map fun j => D (len + j)).length) * Tryd.prog.bytesOf 45) (by rw [hx]; simp [DataW.weights, Tryd.underlying36])
      rw [bytesOp, reach_eq] at this
      simp at this
      omega
    have hall : ∀ i, i < len → ∃ y : Int × Int, w.cell? (a.add (i * 2)) = some (.int .i64 y.1) ∧ w.cell? (a.add (i * 2 + 1)) = some (.int .i64 y.2) := by
      intro i hil
      obtain ⟨cs', hc, ht⟩ := hi i (by omega)
      rw [cellsOp] at hc
      obtain ⟨_, _, hcell⟩ := World.cells?_some hc
      obtain ⟨k, av, rfl, _⟩ := trod_op ht
      refine ⟨(k, av), ?_, ?_⟩
      · have := hcell 0 (by omega); rw [Deep.add_add] at this; simpa using this
      · have := hcell 1 (by omega); rw [Deep.add_add] at this; simpa using this
    obtain ⟨g, hg⟩ := Deep.choose_lt hall
    refine ⟨(List.range len).map g, some a, cap, by simp, by simp; omega, fun i y hy => ?_⟩
    rw [List.getElem?_map, Option.map_eq_some_iff] at hy
    obtain ⟨j, hj, rfl⟩ := hy
    have hjl : i < len := by simpa using (List.getElem?_eq_some_iff.1 hj).1
    obtain rfl : i = j := by simpa [hjl] using hj
    have hs : a.spot = none := by
      have := (hg 0 (by omega)).1
      simp only [Nat.zero_mul] at this
      exact spot_none (by simpa [Addr.add] using this)
    refine ⟨a.block, a.off, by cases a; simp_all, ?_, ?_⟩
    · have := (hg i hjl).1; rwa [add_of_spot hs] at this
    · have := (hg i hjl).2; rwa [add_of_spot hs, ← Nat.add_assoc] at this
theorem open_prog {fuel : Nat} {v : Value} {x : DataW H × List MemPlace} (h : DataW.trod enc Tryd.prog w base spare held fuel 22 [v] = some x) (hw : ∀ n, n ∈ x.1.weights Tryd.prog 22 → n ≤ reachBytes) : ∃ p, ProgAt w v p := by
  rcases Deep.open_slice Tryd.underlying22 h with ⟨e, _⟩ | ⟨a, len, cap, m, n, D, Pl, e, _, hlc, _, hm, hx, hi⟩
  · simp at e
    subst e
    exact ⟨[], none, 0, rfl, by simp, fun i x h => by simp at h⟩
  · simp at e
    subst e
    have hlm : len ≤ m := by rw [hm]; split <;> omega
    have hlen : len * 40 ≤ 140737488351232 := by
      have := hw ((((List.range len).map D).length + ((List.range (m - len)).map fun j => D (len + j)).length) * Tryd.prog.bytesOf 38) (by rw [hx]; simp [DataW.weights, Tryd.underlying22])
      rw [bytesFunc, reach_eq] at this
      simp at this
      omega
    have hall : ∀ i, i < len → ∃ y : Fn × Value, w.cell? (a.add (i * 3)) = some (.int .i64 y.1.args) ∧ w.cell? (a.add (i * 3 + 1)) = some (.int .i64 y.1.locals) ∧ w.cell? (a.add (i * 3 + 2)) = some y.2 ∧ CodeAt w y.2 y.1.code := by
      intro i hil
      obtain ⟨cs', hc, ht⟩ := hi i (by omega)
      rw [cellsFunc] at hc
      obtain ⟨_, hcl, hcell⟩ := World.cells?_some hc
      obtain ⟨f0, f1, f2, hu, t0, o0, t1, o1, t2, o2⟩ := typeFunc
      obtain ⟨y0, y1, y2, n', hy, _, g0, g1, g2⟩ := Deep.trod_struct3 hu ht
      rw [t0, o0, cellsInt] at g0
      rw [t1, o1, cellsInt] at g1
      rw [t2, o2, cellsOps] at g2
      obtain ⟨ar, e0, r0, _⟩ := DataW.trod_int Tryd.underlying3 g0
      obtain ⟨lo, e1, r1, _⟩ := DataW.trod_int Tryd.underlying3 g1
      match cs', hcl with
      | [c0, c1, c2], _ =>
        simp at e0 e1
        subst e0 e1
        simp only [List.drop, List.take] at g2
        have hD : D i = .agg [y0.1, y1.1, y2.1] := congrArg Prod.fst hy
        obtain ⟨c, hcode⟩ := open_code g2 (fun q hq => hw q (by
          rw [hx]
          simp only [DataW.weights, Tryd.underlying22, List.mem_cons, List.mem_append]
          refine Or.inr (Or.inl (weightsAll_mem (d := D i) (List.mem_map.2 ⟨i, by simpa using hil, rfl⟩) q ?_))
          rw [hD]
          simp only [DataW.weights, hu, DataW.weightsEach, List.map_cons, List.map_nil, t0, t1, t2, List.mem_append]
          exact Or.inr (Or.inr (Or.inl hq))))
        refine ⟨(⟨ar, lo, c⟩, c2), ?_, ?_, ?_, hcode⟩
        · have := hcell 0 (by omega); rw [Deep.add_add] at this; simpa using this
        · have := hcell 1 (by omega); rw [Deep.add_add] at this; simpa using this
        · have := hcell 2 (by omega); rw [Deep.add_add] at this; simpa using this
    have : Inhabited (Fn × Value) := ⟨(Fn.zero, .nilIface)⟩
    obtain ⟨g, hg⟩ := Deep.choose_lt hall
    refine ⟨(List.range len).map fun i => (g i).1, some a, cap, by simp, by simp; omega, fun i y hy => ?_⟩
    rw [List.getElem?_map, Option.map_eq_some_iff] at hy
    obtain ⟨j, hj, rfl⟩ := hy
    have hjl : i < len := by simpa using (List.getElem?_eq_some_iff.1 hj).1
    obtain rfl : i = j := by simpa [hjl] using hj
    have hs : a.spot = none := by
      have := (hg 0 (by omega)).1
      simp only [Nat.zero_mul] at this
      exact spot_none (by simpa [Addr.add] using this)
    obtain ⟨k0, k1, k2, k3⟩ := hg i hjl
    refine ⟨a.block, a.off, (g i).2, by cases a; simp_all, ?_, ?_, ?_, k3⟩
    · rwa [add_of_spot hs] at k0
    · rwa [add_of_spot hs, ← Nat.add_assoc] at k1
    · rwa [add_of_spot hs, ← Nat.add_assoc] at k2
end
theorem gKinds : Tryd.prog.globalNamed "glebe/op.kinds" = some 1 := by kernel_rfl
theorem gKindsType : (Tryd.prog.globals[1]?).map (·.type) = some 87 := by kernel_rfl
theorem laid_at {H : Type} (i : Nat) (h : i < 17) : ([.agg [.lit (.int .i64 0), .lit (.int .i64 1), .lit (.int .i64 1)], .agg [.lit (.int .i64 1), .lit (.int .i64 0), .lit (.int .i64 0)], .agg [.lit (.int .i64 0), .lit (.int .i64 1), .lit (.int .i64 2)], .agg [.lit (.int .i64 1), .lit (.int .i64 0), .lit (.int .i64 2)], .agg [.lit (.int .i64 2), .lit (.int .i64 1), .lit (.int .i64 0)], .agg [.lit (.int .i64 2), .lit (.int .i64 1), .lit (.int .i64 0)], .agg [.lit (.int .i64 2), .lit (.int .i64 1), .lit (.int .i64 0)], .agg [.lit (.int .i64 2), .lit (.int .i64 1), .lit (.int .i64 0)], .agg [.lit (.int .i64 2), .lit (.int .i64 1), .lit (.int .i64 0)], .agg [.lit (.int .i64 0), .lit (.int .i64 0), .lit (.int .i64 3)], .agg [.lit (.int .i64 1), .lit (.int .i64 0), .lit (.int .i64 3)], .agg [.lit (.int .i64 0), .lit (.int .i64 1), .lit (.int .i64 4)], .agg [.lit (.int .i64 1), .lit (.int .i64 0), .lit (.int .i64 0)], .agg [.lit (.int .i64 0), .lit (.int .i64 1), .lit (.int .i64 4)], .agg [.lit (.int .i64 2), .lit (.int .i64 1), .lit (.int .i64 0)], .agg [.lit (.int .i64 1), .lit (.int .i64 1), .lit (.int .i64 0)], .agg [.lit (.int .i64 1), .lit (.int .i64 0), .lit (.int .i64 0)]] : List (DataW H))[i]? = some (.agg [.lit (.int .i64 (tk i)), .lit (.int .i64 (lv i)), .lit (.int .i64 (opd i))]) := by
  have : i = 0 ∨ i = 1 ∨ i = 2 ∨ i = 3 ∨ i = 4 ∨ i = 5 ∨ i = 6 ∨ i = 7 ∨ i = 8 ∨ i = 9 ∨ i = 10 ∨ i = 11 ∨ i = 12 ∨ i = 13 ∨ i = 14 ∨ i = 15 ∨ i = 16 := by omega
  rcases this with rfl | rfl | rfl | rfl | rfl | rfl | rfl | rfl | rfl | rfl | rfl | rfl | rfl | rfl | rfl | rfl | rfl <;> rfl
theorem kinds_of_laid {W : World} (h : laidMetH Tryd.prog [("glebe/op.kinds", Rows.laid_glebe_op_kinds)] W) : KindsAt W := by
  obtain ⟨ps, ⟨g', t', cs, fuel, p, q, hg', ht', hvar, hd, _, _⟩, _⟩ := (h : laidMet Tryd.prog [("glebe/op.kinds", Rows.laid_glebe_op_kinds)] W)
  obtain rfl := Option.some.inj (gKinds.symm.trans hg')
  obtain rfl := Option.some.inj (gKindsType.symm.trans ht')
  obtain ⟨xs, m, _, hx, _, hxl, hi⟩ := DataW.trod_array Tryd.underlying87 hd
  have hagg : (Rows.laid_glebe_op_kinds : DataW Unit) = .agg (xs.map (·.1)) := congrArg Prod.fst hx
  have hl : ∀ i, i < 17 → (xs[i]?).map (·.1) = some (.agg [.lit (.int .i64 (tk i)), .lit (.int .i64 (lv i)), .lit (.int .i64 (opd i))]) := by
    intro i hi17
    rw [← List.getElem?_map, ← laid_at i hi17]
    unfold Rows.laid_glebe_op_kinds at hagg
    rw [← DataW.agg.inj hagg]
  have hc : ∀ i, i < 17 → cs[i * 3]? = some (.int .i64 (tk i)) ∧ cs[i * 3 + 1]? = some (.int .i64 (lv i)) ∧ cs[i * 3 + 2]? = some (.int .i64 (opd i)) := by
    intro i hi17
    have h1 := hi i hi17
    obtain ⟨x, hxi, hx1⟩ := Option.map_eq_some_iff.1 (hl i hi17)
    rw [hxi, cellsKind] at h1
    obtain ⟨f0, f1, f2, hu, t0, o0, t1, o1, t2, o2⟩ := typeKind
    obtain ⟨y0, y1, y2, n', hy, _, g0, g1, g2⟩ := Deep.trod_struct3 hu h1
    rw [t0, o0, cellsInt] at g0
    rw [t1, o1, cellsInt] at g1
    rw [t2, o2, cellsInt] at g2
    obtain ⟨z0, e0, r0, _⟩ := DataW.trod_int Tryd.underlying3 g0
    obtain ⟨z1, e1, r1, _⟩ := DataW.trod_int Tryd.underlying3 g1
    obtain ⟨z2, e2, r2, _⟩ := DataW.trod_int Tryd.underlying3 g2
    rw [hy, r0, r1, r2] at hx1
    simp at hx1
    obtain ⟨rfl, rfl, rfl⟩ := hx1
    refine ⟨?_, ?_, ?_⟩
    · have := congrArg (·[0]?) e0
      simpa [List.getElem?_take, List.getElem?_drop] using this
    · have := congrArg (·[0]?) e1
      simpa [List.getElem?_take, List.getElem?_drop, Nat.add_comm, Nat.add_left_comm] using this
    · have := congrArg (·[0]?) e2
      simpa [List.getElem?_take, List.getElem?_drop, Nat.add_comm, Nat.add_left_comm] using this
  intro k hk
  rw [World.var?_cell gKinds hvar k]
  obtain ⟨h0, h1, h2⟩ := hc (k / 3) (by omega)
  have : k = k / 3 * 3 ∨ k = k / 3 * 3 + 1 ∨ k = k / 3 * 3 + 2 := by omega
  rcases this with e | e | e
  · rw [e, h0]; unfold tk; rw [← e]
  · rw [e, h1]; unfold lv; rw [← e]
  · rw [e, h2]; unfold opd; rw [← e]
end Go.Proofs.YtjioipkfnekigaaDoor
namespace Go.Proofs.YtjioipkfnekigaaDoor
def tkS : List (List UInt8 × Nat) := [([112, 117, 115, 104], 1), ([112, 111, 112], 0), ([108, 111, 97, 100], 1), ([115, 116, 111, 114, 101], 1), ([97, 100, 100], 0), ([115, 117, 98], 0), ([109, 117, 108], 0), ([108, 101, 115, 115], 0), ([115, 97, 109, 101], 0), ([106, 117, 109, 112], 1), ([122, 101, 114, 111], 1), ([99, 97, 108, 108], 1), ([114, 101, 116, 117, 114, 110], 0), ([109, 97, 107, 101], 1), ([114, 101, 115, 117, 109, 101], 0), ([121, 105, 101, 108, 100], 0), ([112, 117, 116], 0)]
def lineT (word : List UInt8) (l : List Int) : List UInt8 := Lib.join (word :: l.map Lib.itoa) [32] ++ [10]
def opT (x : Int × Int) : List UInt8 := if (tkS.getD x.1.toNat ([], 0)).2 = 0 then lineT (tkS.getD x.1.toNat ([], 0)).1 [] else lineT (tkS.getD x.1.toNat ([], 0)).1 [x.2]
def fnT (f : Fn) : List UInt8 := lineT [102, 117, 110, 99] [f.args, f.locals] ++ f.code.flatMap opT
def showT (p : List Fn) : List UInt8 := p.flatMap fnT
open Go.RowKit
theorem wp_appR {o : Oper} {a : Act} {K : Act → World → Prop} {Q : Exit → Act → World → Prop} (w : World) (s x : Operand) (t : TypeId)
    (ho : o.op = .call { callee := .builtin .append, args := #[s, x], argTypes := #[t, t] }) {v u v' : Value} {w' : World} (hs : a.eval s = v) (hx : a.eval x = u)
    (hr : (Builtin.append_ #[t, t] o.type #[v, u]).run Tryd.prog w = .ok v' w') (h : K (a.put o.dst v') w') : o.wp Tryd.prog a w K Q := by
  unfold Oper.wp execOp
  simp only [ho, resolve, invoke, builtin, Sem.run_bind, Sem.run_pure, Result.andThen_ok, List.map_toArray, List.map_cons, List.map_nil, hs, hx, hr]
  exact h
theorem wpList_appR {ops : Array Oper} {rest : List Oper} {o : Oper} {a : Act} {Q : Exit → Act → World → Prop} (w : World) (hgd : o.guard = none) (s x : Operand) (t : TypeId)
    (ho : o.op = .call { callee := .builtin .append, args := #[s, x], argTypes := #[t, t] }) {v u v' : Value} {w' : World} (hs : a.eval s = v) (hx : a.eval x = u)
    (hr : (Builtin.append_ #[t, t] o.type #[v, u]).run Tryd.prog w = .ok v' w') (h : wpList Tryd.prog ops Q rest (a.put o.dst v') w') : wpList Tryd.prog ops Q (o :: rest) a w :=
  wpList_plain hgd fun _ hK => wp_appR w s x t ho hs hx hr (hK _ _ h)
def flatOps (c : List (Int × Int)) : List Value := c.flatMap fun x => [.int .i64 x.1, .int .i64 x.2]
theorem flatOps_at : ∀ (c : List (Int × Int)) (i : Nat) (x : Int × Int), c[i]? = some x → (flatOps c)[i * 2]? = some (.int .i64 x.1) ∧ (flatOps c)[i * 2 + 1]? = some (.int .i64 x.2)
  | [], i, x, h => by simp at h
  | y :: c, 0, x, h => by simp at h; subst h; simp [flatOps]
  | y :: c, i + 1, x, h => by
    have := flatOps_at c i x (by simpa using h)
    have e : flatOps (y :: c) = .int .i64 y.1 :: .int .i64 y.2 :: flatOps c := by simp [flatOps]
    rw [e, show (i + 1) * 2 = i * 2 + 1 + 1 by omega]
    simpa using this
theorem codeAt_block {w : World} {b : Nat} {A : Array Value} {t : TypeId} {fr : Nat × Nat} (h : w.heap[b]? = some (.cells A t fr)) (c : List (Int × Int)) (hA : A = (flatOps c).toArray) (hl : c.length ≤ 8796093022208) (n cap : Nat) (hn : n = c.length) :
    CodeAt w (.slice (some ⟨b, 0, none⟩) n cap) c := by
  subst hn hA
  refine ⟨_, _, rfl, hl, fun i x hx => ⟨b, 0, rfl, ?_, ?_⟩⟩
  · rw [cell_lays h]; simpa using (flatOps_at c i x hx).1
  · rw [cell_lays h]; simpa using (flatOps_at c i x hx).2
def flatFns (l : List (Fn × Value)) : List Value := l.flatMap fun x => [.int .i64 x.1.args, .int .i64 x.1.locals, x.2]
theorem flatFns_at : ∀ (l : List (Fn × Value)) (i : Nat) (x : Fn × Value), l[i]? = some x → (flatFns l)[i * 3]? = some (.int .i64 x.1.args) ∧ (flatFns l)[i * 3 + 1]? = some (.int .i64 x.1.locals) ∧ (flatFns l)[i * 3 + 2]? = some x.2
  | [], i, x, h => by simp at h
  | y :: c, 0, x, h => by simp at h; subst h; simp [flatFns]
  | y :: c, i + 1, x, h => by
    have := flatFns_at c i x (by simpa using h)
    have e : flatFns (y :: c) = .int .i64 y.1.args :: .int .i64 y.1.locals :: y.2 :: flatFns c := by simp [flatFns]
    rw [e, show (i + 1) * 3 = i * 3 + 1 + 1 + 1 by omega]
    simpa using this
theorem progAt_block {w : World} {b : Nat} {A : Array Value} {t : TypeId} {fr : Nat × Nat} (h : w.heap[b]? = some (.cells A t fr)) (l : List (Fn × Value)) (hA : A = (flatFns l).toArray) (hl : l.length ≤ 8796093022208)
    (hc : ∀ x, x ∈ l → CodeAt w x.2 x.1.code) (n cap : Nat) (hn : n = l.length) (p : List Fn) (hp : p = l.map (·.1)) : ProgAt w (.slice (some ⟨b, 0, none⟩) n cap) p := by
  subst hn hA hp
  refine ⟨_, cap, by rw [List.length_map], by simpa using hl, fun i f hf => ?_⟩
  rw [List.getElem?_map, Option.map_eq_some_iff] at hf
  obtain ⟨x, hx, rfl⟩ := hf
  obtain ⟨h1, h2, h3⟩ := flatFns_at l i x hx
  refine ⟨b, 0, x.2, rfl, ?_, ?_, ?_, hc x (List.mem_of_getElem? hx)⟩
  · rw [cell_lays h]; simpa using h1
  · rw [cell_lays h]; simpa using h2
  · rw [cell_lays h]; simpa using h3
def cnt0 : List (Int × Int) := [(13, 1), (3, 0), (2, 0), (0, 7), (14, 0), (16, 0), (2, 0), (0, 0), (14, 0), (16, 0), (2, 0), (0, 0), (14, 0), (12, 0)]
def cnt1 : List (Int × Int) := [(2, 0), (15, 0), (1, 0), (2, 0), (0, 1), (11, 2), (15, 0), (1, 0), (0, 99), (12, 0), (0, 5), (9, 9)]
def cnt2 : List (Int × Int) := [(2, 0), (2, 1), (4, 0), (12, 0)]
def cntL : List Fn := [⟨0, 1, cnt0⟩, ⟨1, 1, cnt1⟩, ⟨2, 2, cnt2⟩]
def CountAt (n0 : Nat) (w : World) (v : Value) : Prop :=
  ∃ b0 b1 b2 b, n0 ≤ b0 ∧ b0 < b1 ∧ b1 < b2 ∧ b2 < b ∧ v = .slice (some ⟨b, 0, none⟩) 3 3 ∧ w.heap[b0]? = some (.cells (flatOps cnt0).toArray 45) ∧ w.heap[b1]? = some (.cells (flatOps cnt1).toArray 45) ∧
    w.heap[b2]? = some (.cells (flatOps cnt2).toArray 45) ∧
    w.heap[b]? = some (.cells #[.int .i64 0, .int .i64 1, .slice (some ⟨b0, 0, none⟩) 14 14, .int .i64 1, .int .i64 1, .slice (some ⟨b1, 0, none⟩) 12 12, .int .i64 2, .int .i64 2, .slice (some ⟨b2, 0, none⟩) 4 4] 38)
theorem CountAt.prog {n0 : Nat} {w : World} {v : Value} (h : CountAt n0 w v) : ProgAt w v cntL := by
  obtain ⟨b0, b1, b2, b, _, _, _, _, rfl, h0, h1, h2, h3⟩ := h
  refine progAt_block h3 [(⟨0, 1, cnt0⟩, .slice (some ⟨b0, 0, none⟩) 14 14), (⟨1, 1, cnt1⟩, .slice (some ⟨b1, 0, none⟩) 12 12), (⟨2, 2, cnt2⟩, .slice (some ⟨b2, 0, none⟩) 4 4)] rfl (by simp) ?_ 3 3 rfl cntL rfl
  intro x hx
  simp only [List.mem_cons, List.not_mem_nil, or_false] at hx
  rcases hx with rfl | rfl | rfl
  · exact codeAt_block h0 cnt0 rfl (by decide) 14 14 rfl
  · exact codeAt_block h1 cnt1 rfl (by decide) 12 12 rfl
  · exact codeAt_block h2 cnt2 rfl (by decide) 4 4 rfl
open Go.RowKit Go.Maps
def TabW (w : World) : Prop := Lib.TabIs Tryd.prog w "internal/strconv.uint64pow10" .u64 Lib.pow10Tab
theorem TabW.kept {w w' : World} (h : TabW w) (k : Kept w w') : TabW w' := by
  have hg : Tryd.prog.globalNamed "internal/strconv.uint64pow10" = some 3 := by kernel_rfl
  unfold TabW Lib.TabIs World.var? at h ⊢
  rw [hg] at h ⊢
  simp only [Option.bind_some] at h ⊢
  have hlt : 3 < w.heap.size := by
    cases hq : w.heap[3]? with
    | none => rw [hq] at h; cases h
    | some o => exact (Array.getElem?_eq_some_iff.1 hq).1
  rw [k.block _ hlt]
  exact h
theorem grow_kept (w : World) (k : Nat) (os : Array Obj) : Kept w (Sort.grow (w.drewN k) os) :=
  ⟨rfl, rfl, rfl, by simp [Sort.grow], fun g hg => by simp [Sort.grow, Array.getElem?_append, hg]⟩
def I64 (z : Int) : Prop := -9223372036854775808 ≤ z ∧ z ≤ 9223372036854775807
theorem itoa_any (w : World) (z : Int) (hz : I64 z) (ht : TabW w) : Calls Tryd.prog 34 #[.int .i64 z] w fun e w' => e = .returned (.string ⟨(Lib.itoa z).toArray⟩) ∧ Kept w w' :=
  (Tryd.strconv_Itoa z hz.1 hz.2 w ht).mono fun _ _ ⟨h1, k, os, h2⟩ => ⟨h1, h2 ▸ grow_kept w k os⟩
theorem strInfo : (Tryd.prog.info? 9).map (fun i => (i.zero, i.size, i.bytes)) = some (some (.string ⟨#[]⟩), 1, 16) := by kernel_rfl
theorem made_strs (m : Nat) : madeCells #[Value.string ⟨#[]⟩] (m * 1) = Array.replicate m (Value.string ⟨#[]⟩) := by
  apply Array.ext
  · simp [madeCells]
  · intro i h1 h2
    simp [madeCells, Nat.mod_one]
theorem make_strs (m : Nat) (hm : m ≤ 1000000) (u : World) : (Instr.makeSlice 55 (.int .i64 m) (.int .i64 m)).run Tryd.prog u =
    .ok (.slice (some ⟨u.heap.size, 0, none⟩) m m) (u.alloc (.cells (Array.replicate m (Value.string ⟨#[]⟩)) 9)) := by
  obtain ⟨i0, hi, hz0, hz1, hz2⟩ := info_parts strInfo
  have h := run_make (P := Tryd.prog) u 55 9 i0 (.string ⟨#[]⟩) Tryd.underlying55 hi hz0 .i64 .i64 (m : Int) (m : Int) (by omega) (Int.le_refl _) (by rw [hz2]; omega) (by omega)
  rw [Int.toNat_natCast] at h
  rw [← made_strs]
  simpa [hz1, Value.cells] using h
def strV (l : List UInt8) : Value := .string ⟨l.toArray⟩
def StrsAt (w : World) (g : Nat) (l : List (List UInt8)) : Prop := ∃ cur, w.heap[g]? = some (.cells cur 9) ∧ cur.size = l.length ∧ ∀ (i : Nat) x, l[i]? = some x → cur[i]? = some (strV x)
theorem numbers_any (w : World) (vl : Value) (l : List Int) (h : IntsW w vl l) (hl : l.length ≤ 1000) (hz : ∀ z ∈ l, I64 z) (ht : TabW w) :
    Calls Tryd.prog 20 #[vl] w fun e w' => ∃ g, e = .returned (.slice (some ⟨g, 0, none⟩) l.length l.length) ∧ StrsAt w' g (l.map Lib.itoa) ∧ w.heap.size ≤ g ∧ Kept w w' := by
  obtain ⟨oa, cap, rfl, hn, hi⟩ := h
  have hmk := make_strs l.length (by omega)
  generalize hN : l.length = n at *
  have HN := hide hN
  have HI := hide hi
  have HT := hide ht
  have HZ := hide hz
  have H1 : Hid (∃ cur, (w.alloc (.cells (Array.replicate n (Value.string ⟨#[]⟩)) 9)).heap[w.heap.size]? = some (.cells cur 9) ∧ cur.size = n ∧ (∀ (i : Nat) z, i < 0 → l[i]? = some z → cur[i]? = some (strV (Lib.itoa z))) ∧ Kept w (w.alloc (.cells (Array.replicate n (Value.string ⟨#[]⟩)) 9))) := hide ⟨_, lays_new rfl, by simp, fun i z h0 => by omega, (Kept.refl w).alloc _⟩
  have HG : Hid (w.heap.size ≤ w.heap.size) := hide (Nat.le_refl _)
  clear hi hN hn ht hz
  go_enter Tryd.func20, Tryd.ntmps20
  go_wp2_with fail
  generalize w.alloc (.cells (Array.replicate n (Value.string ⟨#[]⟩)) 9) = wm at H1 ⊢
  obtain ⟨G, hG⟩ : ∃ G, G = w.heap.size := ⟨_, rfl⟩
  rw [← hG] at H1 ⊢
  replace HG : Hid (w.heap.size ≤ G) := hide (by omega)
  clear hG hmk
  go_loopw [11] (fun s11 wr => ∃ k : Nat, k ≤ n ∧ s11 = .int .i64 k ∧ Hid (∃ cur, wr.heap[G]? = some (.cells cur 9) ∧ cur.size = n ∧ (∀ (i : Nat) z, i < k → l[i]? = some z → cur[i]? = some (strV (Lib.itoa z))) ∧ Kept w wr)) (fun s11 _ => n - (intOf s11).toNat)
  case atStart =>
    obtain ⟨cur, hh⟩ := unhide H1
    exact ⟨0, Nat.zero_le _, rfl, hide ⟨cur, hh⟩⟩
  case round =>
    obtain ⟨k, hkm, rfl, HW⟩ := hrel
    clear H1
    by_cases hk : k < n
    · obtain ⟨cur, a3, a4, a5, a6⟩ := unhide HW
      obtain ⟨x, hx⟩ : ∃ x, l[k]? = some x := ⟨_, List.getElem?_eq_getElem (by rw [unhide HN]; exact hk)⟩
      obtain ⟨b, o, rfl, c0⟩ := (unhide HI) k x hx
      replace c0 := a6.cell c0
      have hk0 : (0 : Int) ≤ (k : Int) := by omega
      have hk1 : (k : Int) < (n : Int) := by omega
      have HC := hide (itoa_any wr x ((unhide HZ) x (List.mem_of_getElem? hx)) ((unhide HT).kept a6))
      have HX := hide hx
      have HA := hide (And.intro a3 (And.intro a4 (And.intro a5 a6)))
      clear hx a3 a4 a5 a6 HW
      go_wp2_with fail
      refine (unhide HC).mono ?_
      rintro _ w2 ⟨rfl, k2⟩
      obtain ⟨a3, a4, a5, a6⟩ := unhide HA
      have g2 := lays_kept k2 a3
      obtain ⟨d1, c1⟩ : ∃ d, w2.cell? ⟨G, k, none⟩ = some d := ⟨_, (cell_lays g2 k).trans (Array.getElem?_eq_getElem (by omega))⟩
      have f1 := frozen_lays g2 k
      have HN2 : Hid (∃ cur, (w2.setCell ⟨G, k, none⟩ (.string ⟨(Lib.itoa x).toArray⟩)).heap[G]? = some (.cells cur 9) ∧ cur.size = n ∧ (∀ (i : Nat) z, i < k + 1 → l[i]? = some z → cur[i]? = some (strV (Lib.itoa z))) ∧ Kept w (w2.setCell ⟨G, k, none⟩ (.string ⟨(Lib.itoa x).toArray⟩))) := hide (by
        refine ⟨cur.setIfInBounds k (.string ⟨(Lib.itoa x).toArray⟩), lays_set g2 k _, by simp [a4], fun i y hi hy => ?_, (a6.trans k2).setCell (p := ⟨G, k, none⟩) (unhide HG) _⟩
        rw [Array.getElem?_setIfInBounds]
        by_cases hik : i = k
        · subst hik
          rw [if_pos rfl, if_pos (by omega)]
          rw [unhide HX] at hy
          cases hy
          rfl
        · rw [if_neg (fun e => hik e.symm)]
          exact a5 i y (by omega) hy)
      generalize (ByteArray.mk (Lib.itoa x).toArray) = S at *
      clear a3 a4 a5 a6 g2 k2 HA HC c0
      go_wp2_with fail
      go_roundw
      case rel => exact ⟨k + 1, by omega, by go_num, HN2⟩
      case measure => simp [intOf]; omega
    · obtain rfl : k = n := by omega
      go_wp2
      go_ret
      obtain ⟨cur, a3, a4, a5, a6⟩ := unhide HW
      refine ⟨G, rfl, ⟨cur, a3, by simp [a4, unhide HN], fun i x hx => ?_⟩, unhide HG, a6⟩
      rw [List.getElem?_map, Option.map_eq_some_iff] at hx
      obtain ⟨z, hz, rfl⟩ := hx
      exact a5 i z (by have := (List.getElem?_eq_some_iff.1 hz).1; have := unhide HN; omega) hz
end Go.Proofs.YtjioipkfnekigaaDoor
