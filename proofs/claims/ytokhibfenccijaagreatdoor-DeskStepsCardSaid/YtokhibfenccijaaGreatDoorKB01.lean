/- Plain, TextS, Keep, Mem, Hide, App, Blocks, TextA, TextB, TextCc -/
import Derived.Below
import Derived.Lib.Join
import Derived.Lib.ItoaNum
import Derived.WalkKit
import Derived.WalkSmall
import Derived.BigQuiet
import Derived.Test.YtokhibfenccijaaGreatDoorChecked
import Derived.Laws.AppendOwn
import Derived.Test.YtokhibfenccijaaGreatDoorShelf
import Derived.Lib.LaidTab
import Derived.Maps.AppendAt
import Derived.Lib.Builder
set_option maxRecDepth 100000
set_option maxHeartbeats 8000000
namespace Go.Proofs.YtokhibfenccijaaGreatDoor
structure Fn where
  args : Int
  locals : Int
  code : List (Int × Int)
def Fn.zero : Fn := ⟨0, 0, []⟩
def ixB (i n : Int) : Bool := decide (0 ≤ i) && decide (i < n)
theorem ixB_true {i n : Int} (h : 0 ≤ i) (h' : i < n) : ixB i n = true := by simp [ixB, h, h']
theorem ixB_false {i n : Int} (h : ¬ (0 ≤ i ∧ i < n)) : ixB i n = false := by
  unfold ixB; rw [Bool.and_eq_false_iff]; simp only [decide_eq_false_iff_not]; omega
theorem ixB_iff {i n : Int} : ixB i n = true ↔ 0 ≤ i ∧ i < n := by simp [ixB]
def inB (n low high : Int) : Bool := decide (low ≤ n) && decide (n ≤ high)
theorem inB_true {n l h : Int} (h1 : l ≤ n) (h2 : n ≤ h) : inB n l h = true := by simp [inB, h1, h2]
theorem inB_false {n l h : Int} (h' : ¬ (l ≤ n ∧ n ≤ h)) : inB n l h = false := by
  unfold inB; rw [Bool.and_eq_false_iff]; simp only [decide_eq_false_iff_not]; omega
theorem inB_iff {n l h : Int} : inB n l h = true ↔ l ≤ n ∧ n ≤ h := by simp [inB]
def roomB (a l : Int) : Bool := decide (0 ≤ a) && decide (a ≤ l) && decide (l ≤ 4)
theorem roomB_iff {a l : Int} : roomB a l = true ↔ 0 ≤ a ∧ a ≤ l ∧ l ≤ 4 := by simp [roomB, and_assoc]
def ktab : List Int := [0,1,1, 1,0,0, 0,1,2, 1,0,2, 2,1,0, 2,1,0, 2,1,0, 2,1,0, 2,1,0, 0,0,3, 1,0,3, 0,1,4, 1,0,0, 0,1,4, 2,1,0, 1,1,0, 1,0,0]
def tk (k : Nat) : Int := ktab.getD (k * 3) 0
def lv (k : Nat) : Int := ktab.getD (k * 3 + 1) 0
def opd (k : Nat) : Int := ktab.getD (k * 3 + 2) 0
def effS (p : List Fn) (kd a : Int) : Int × Int × Int :=
  if 0 ≤ kd ∧ kd < 17 then
    if kd = 11 then (if 0 ≤ a ∧ a < p.length then ((p.getD a.toNat Fn.zero).args, 1, 0) else (0, 0, 5))
    else (tk kd.toNat, lv kd.toNat, 0)
  else (0, 0, 4)
def mayB (p : List Fn) (f : Fn) (o a : Int) : Bool :=
  if o = 0 then decide (a = 0) else if o = 1 then inB a 0 999 else if o = 2 then ixB a f.locals else if o = 3 then ixB a f.code.length
  else ixB a p.length && roomB (p.getD a.toNat Fn.zero).args (p.getD a.toNat Fn.zero).locals
def opS (p : List Fn) (f : Fn) (x : Int × Int) : Int :=
  if 0 ≤ x.1 ∧ x.1 < 17 then
    if mayB p f (opd x.1.toNat) x.2 = true then (if x.1 = 13 ∧ (p.getD x.2.toNat Fn.zero).args ≠ 1 then 1 else 0) else 3
  else 4
def opsS (p : List Fn) (f : Fn) : List (Int × Int) → Int
  | [] => 0
  | x :: r => if opS p f x = 0 then opsS p f r else opS p f x
def chkS (p : List Fn) (f : Int) : Int :=
  if 0 ≤ f ∧ f < p.length then
    let g := p.getD f.toNat Fn.zero
    if 24 < g.code.length then 2 else if roomB g.args g.locals = true then opsS p g g.code else 3
  else 5
theorem getD_of_lt {α : Type} (l : List α) (i : Nat) (d : α) (h : i < l.length) : l[i]? = some (l.getD i d) := by
  simp [List.getD, h]
def tkS : List (List UInt8 × Nat) := [([112, 117, 115, 104], 1), ([112, 111, 112], 0), ([108, 111, 97, 100], 1), ([115, 116, 111, 114, 101], 1), ([97, 100, 100], 0), ([115, 117, 98], 0), ([109, 117, 108], 0), ([108, 101, 115, 115], 0), ([115, 97, 109, 101], 0), ([106, 117, 109, 112], 1), ([122, 101, 114, 111], 1), ([99, 97, 108, 108], 1), ([114, 101, 116, 117, 114, 110], 0), ([109, 97, 107, 101], 1), ([114, 101, 115, 117, 109, 101], 0), ([121, 105, 101, 108, 100], 0), ([112, 117, 116], 0)]
def lineT (word : List UInt8) (l : List Int) : List UInt8 := Lib.join (word :: l.map Lib.itoa) [32] ++ [10]
def opT (x : Int × Int) : List UInt8 := if (tkS.getD x.1.toNat ([], 0)).2 = 0 then lineT (tkS.getD x.1.toNat ([], 0)).1 [] else lineT (tkS.getD x.1.toNat ([], 0)).1 [x.2]
def fnT (f : Fn) : List UInt8 := lineT [102, 117, 110, 99] [f.args, f.locals] ++ f.code.flatMap opT
def showT (p : List Fn) : List UInt8 := p.flatMap fnT
open Go.RowKit
abbrev Kept (w w' : World) : Prop := Below w.heap.size w w'
theorem Kept.refl (w : World) : Kept w w := Below.refl _ w
theorem Kept.trans {a b c : World} (h : Kept a b) (k : Kept b c) : Kept a c := Below.trans h (Below.mono k h.size)
theorem Kept.drew {a b : World} (h : Kept a b) : Kept a b.drew := Below.drew h
theorem Kept.alloc {a b : World} (h : Kept a b) (o : Obj) : Kept a (b.alloc o) := Below.alloc h h.size o
theorem Kept.setCell {a b : World} (h : Kept a b) {p : Addr} (hp : a.heap.size ≤ p.block) (u : Value) : Kept a (b.setCell p u) := Below.setCell h hp u
theorem Kept.drewN {a b : World} (h : Kept a b) (n : Nat) : Kept a (b.drewN n) := below_drewN h n
theorem cell_lt {w : World} {p : Addr} {v : Value} (h : w.cell? p = some v) : p.block < w.heap.size := by
  unfold World.cell? at h
  split at h
  · rename_i hb; exact (Array.getElem?_eq_some_iff.1 hb).1
  · cases h
theorem Kept.cell {w w' : World} (h : Kept w w') {p : Addr} {v : Value} (hc : w.cell? p = some v) : w'.cell? p = some v :=
  (Below.cell h (cell_lt hc)).trans hc
theorem hide {p : Prop} (h : p) : Hid p := h
theorem unhide {p : Prop} (h : Hid p) : p := h
theorem lays_new {w : World} {o : Obj} {b : Nat} (h : w.heap.size = b) : (w.alloc o).heap[b]? = some o := by
  subst h
  show (w.heap.push o)[w.heap.size]? = _
  simp
theorem lays_alloc {w : World} {o : Obj} {b : Nat} (h : w.heap[b]? = some o) (o' : Obj) : (w.alloc o').heap[b]? = some o :=
  (Below.heap_alloc w o' b (Array.getElem?_eq_some_iff.1 h).1).trans h
theorem lays_kept {w w' : World} (k : Kept w w') {o : Obj} {b : Nat} (h : w.heap[b]? = some o) : w'.heap[b]? = some o :=
  (k.block b (Array.getElem?_eq_some_iff.1 h).1).trans h
theorem lays_drew {w : World} {o : Obj} {b : Nat} (h : w.heap[b]? = some o) : w.drew.heap[b]? = some o := h
theorem lays_other {w : World} {o : Obj} {b : Nat} (h : w.heap[b]? = some o) {a : Addr} (hn : b ≠ a.block) (u : Value) : (w.setCell a u).heap[b]? = some o :=
  (Below.heap_setCell w a u b hn).trans h
theorem cell_lays {w : World} {b : Nat} {c : Array Value} {t : TypeId} {fr : Nat × Nat} (h : w.heap[b]? = some (.cells c t fr)) (i : Nat) : w.cell? ⟨b, i, none⟩ = c[i]? := by
  simp [World.cell?, h]
theorem lays_set {w : World} {b : Nat} {c : Array Value} {t : TypeId} {fr : Nat × Nat} (h : w.heap[b]? = some (.cells c t fr)) (i : Nat) (u : Value) : (w.setCell ⟨b, i, none⟩ u).heap[b]? = some (.cells (c.setIfInBounds i u) t fr) := by
  simp [World.setCell, Array.getElem?_modify, h]
theorem frozen_lays {w : World} {b : Nat} {c : Array Value} {t : TypeId} (h : w.heap[b]? = some (.cells c t (0, 0))) (i : Nat) : w.frozen? ⟨b, i, none⟩ = false := by
  simp [World.frozen?, h]
structure KeptX (B : Nat) (w w' : World) : Prop where
  os : w'.os = w.os
  tape : w'.tape = w.tape
  output : w'.output = w.output
  size : w.heap.size ≤ w'.heap.size
  block : ∀ k, k < w.heap.size → k ≠ B → w'.heap[k]? = w.heap[k]?
theorem KeptX.of {B : Nat} {w w' : World} (h : Kept w w') : KeptX B w w' := ⟨h.os, h.tape, h.output, h.size, fun k hk _ => h.block k hk⟩
theorem KeptX.refl (B : Nat) (w : World) : KeptX B w w := .of (Kept.refl w)
theorem KeptX.trans {B : Nat} {a b c : World} (h : KeptX B a b) (k : KeptX B b c) : KeptX B a c :=
  ⟨k.os.trans h.os, k.tape.trans h.tape, k.output.trans h.output, Nat.le_trans h.size k.size, fun i hi hn => (k.block i (Nat.lt_of_lt_of_le hi h.size) hn).trans (h.block i hi hn)⟩
theorem KeptX.alloc {B : Nat} {a b : World} (h : KeptX B a b) (o : Obj) : KeptX B a (b.alloc o) := h.trans (.of ((Kept.refl _).alloc _))
theorem KeptX.drew {B : Nat} {a b : World} (h : KeptX B a b) : KeptX B a b.drew := h.trans (.of (Kept.refl _).drew)
theorem KeptX.setCell {B : Nat} {a b : World} (h : KeptX B a b) {p : Addr} (hp : p.block = B ∨ a.heap.size ≤ p.block) (u : Value) : KeptX B a (b.setCell p u) :=
  ⟨h.os, h.tape, h.output, by simpa [World.setCell] using h.size, fun k hk hn => (Below.heap_setCell _ _ _ _ (by omega)).trans (h.block k hk hn)⟩
theorem KeptX.kept {B : Nat} {w0 w w' : World} (h0 : Kept w0 w) (hB : w0.heap.size ≤ B) (h : KeptX B w w') : Kept w0 w' :=
  ⟨h.os.trans h0.os, h.tape.trans h0.tape, h.output.trans h0.output, Nat.le_trans h0.size h.size, fun k hk => (h.block k (Nat.lt_of_lt_of_le hk h0.size) (by omega)).trans (h0.block k hk)⟩
theorem KeptX.cell {B : Nat} {w w' : World} (h : KeptX B w w') {p : Addr} {v : Value} (hn : p.block ≠ B) (hc : w.cell? p = some v) : w'.cell? p = some v :=
  (World.cell?_of_block (w := w) (h.block p.block (cell_lt hc) hn)).trans hc
theorem KeptX.frozen {B : Nat} {w w' : World} (h : KeptX B w w') {p : Addr} (hp : p.block < w.heap.size) (hn : p.block ≠ B) : w'.frozen? p = w.frozen? p :=
  World.frozen?_of_block (w := w) (h.block p.block hp hn)
theorem KeptX.lays {B : Nat} {w w' : World} (h : KeptX B w w') {b : Nat} {o : Obj} (hn : b ≠ B) (hb : w.heap[b]? = some o) : w'.heap[b]? = some o :=
  (h.block b (Array.getElem?_eq_some_iff.1 hb).1 hn).trans hb
def IntsW (w : World) (v : Value) (l : List Int) : Prop :=
  ∃ oa cap, v = .slice oa l.length cap ∧ l.length ≤ 17592186043904 ∧ ∀ i z, l[i]? = some z → ∃ b o, oa = some ⟨b, o, none⟩ ∧ w.cell? ⟨b, o + i, none⟩ = some (.int .i64 z)
theorem IntsW.kept {w w' : World} (h : Kept w w') {v : Value} {l : List Int} (hl : IntsW w v l) : IntsW w' v l := by
  obtain ⟨oa, cap, e, hn, hi⟩ := hl
  refine ⟨oa, cap, e, hn, fun i z hz => ?_⟩
  obtain ⟨b, o, e1, h1⟩ := hi i z hz
  exact ⟨b, o, e1, h.cell h1⟩
theorem IntsW.nil (w : World) : IntsW w (.slice none 0 0) [] := ⟨none, 0, rfl, by simp, fun i z h => by simp at h⟩
def CodeAt (w : World) (v : Value) (c : List (Int × Int)) : Prop :=
  ∃ oa cap, v = .slice oa c.length cap ∧ c.length ≤ 8796093022208 ∧ ∀ i x, c[i]? = some x → ∃ b o, oa = some ⟨b, o, none⟩ ∧
    w.cell? ⟨b, o + i * 2, none⟩ = some (.int .i64 x.1) ∧ w.cell? ⟨b, o + i * 2 + 1, none⟩ = some (.int .i64 x.2)
def ProgAt (w : World) (v : Value) (p : List Fn) : Prop :=
  ∃ oa cap, v = .slice oa p.length cap ∧ p.length ≤ 8796093022208 ∧ ∀ i f, p[i]? = some f → ∃ b o cv, oa = some ⟨b, o, none⟩ ∧
    w.cell? ⟨b, o + i * 3, none⟩ = some (.int .i64 f.args) ∧ w.cell? ⟨b, o + i * 3 + 1, none⟩ = some (.int .i64 f.locals) ∧
    w.cell? ⟨b, o + i * 3 + 2, none⟩ = some cv ∧ CodeAt w cv f.code
def KindsAt (w : World) : Prop := ∀ k, k < 51 → w.cell? ⟨2, k, none⟩ = some (.int .i64 (ktab.getD k 0))
theorem CodeAt.kept {w w' : World} (h : Kept w w') {v : Value} {c : List (Int × Int)} (hc : CodeAt w v c) : CodeAt w' v c := by
  obtain ⟨oa, cap, e, hl, hi⟩ := hc
  refine ⟨oa, cap, e, hl, fun i x hx => ?_⟩
  obtain ⟨b, o, e1, h1, h2⟩ := hi i x hx
  exact ⟨b, o, e1, h.cell h1, h.cell h2⟩
theorem ProgAt.kept {w w' : World} (h : Kept w w') {v : Value} {p : List Fn} (hp : ProgAt w v p) : ProgAt w' v p := by
  obtain ⟨oa, cap, e, hl, hi⟩ := hp
  refine ⟨oa, cap, e, hl, fun i f hf => ?_⟩
  obtain ⟨b, o, cv, e1, h1, h2, h3, h4⟩ := hi i f hf
  exact ⟨b, o, cv, e1, h.cell h1, h.cell h2, h.cell h3, h4.kept h⟩
theorem KindsAt.kept {w w' : World} (h : Kept w w') (hk : KindsAt w) : KindsAt w' := fun k hk' => h.cell (hk k hk')
theorem ProgAt.lt {w : World} {v : Value} {p : List Fn} (hp : ProgAt w v p) : p.length ≤ 8796093022208 := by
  obtain ⟨_, _, _, h, _⟩ := hp; exact h
theorem cell_set_ne {w : World} {b i B j : Nat} {v : Value} (h : w.cell? ⟨b, i, none⟩ = some v) (hne : b ≠ B) (u : Value) : (w.setCell ⟨B, j, none⟩ u).cell? ⟨b, i, none⟩ = some v := by
  rw [World.cell?_of_block (w := w)]
  · exact h
  · exact Below.heap_setCell w _ _ _ hne
theorem wp_appR {o : Oper} {a : Act} {K : Act → World → Prop} {Q : Exit → Act → World → Prop} (w : World) (s x : Operand) (t : TypeId)
    (ho : o.op = .call { callee := .builtin .append, args := #[s, x], argTypes := #[t, t] }) {v u v' : Value} {w' : World} (hs : a.eval s = v) (hx : a.eval x = u)
    (hr : (Builtin.append_ #[t, t] o.type #[v, u]).run Tryz.prog w = .ok v' w') (h : K (a.put o.dst v') w') : o.wp Tryz.prog a w K Q := by
  unfold Oper.wp execOp
  simp only [ho, resolve, invoke, builtin, Sem.run_bind, Sem.run_pure, Result.andThen_ok, List.map_toArray, List.map_cons, List.map_nil, hs, hx, hr]
  exact h
theorem wpList_appR {ops : Array Oper} {rest : List Oper} {o : Oper} {a : Act} {Q : Exit → Act → World → Prop} (w : World) (hgd : o.guard = none) (s x : Operand) (t : TypeId)
    (ho : o.op = .call { callee := .builtin .append, args := #[s, x], argTypes := #[t, t] }) {v u v' : Value} {w' : World} (hs : a.eval s = v) (hx : a.eval x = u)
    (hr : (Builtin.append_ #[t, t] o.type #[v, u]).run Tryz.prog w = .ok v' w') (h : wpList Tryz.prog ops Q rest (a.put o.dst v') w') : wpList Tryz.prog ops Q (o :: rest) a w :=
  wpList_plain hgd fun _ hK => wp_appR w s x t ho hs hx hr (hK _ _ h)
theorem step_appR {ops : Array Oper} {o : Oper} {a : Act} {K : Act → World → Prop} {Q : Exit → Act → World → Prop} {E : Prop} (w : World) (hgd : o.guard = none) (s x : Operand) (t : TypeId)
    (ho : o.op = .call { callee := .builtin .append, args := #[s, x], argTypes := #[t, t] }) {v u v' : Value} {w' : World} (hs : a.eval s = v) (hx : a.eval x = u)
    (hr : (Builtin.append_ #[t, t] o.type #[v, u]).run Tryz.prog w = .ok v' w') (h : K (a.put o.dst v') w') : if Region.wanted o (yielded ops a.tmps) = true then Oper.wp Tryz.prog o a w K Q else E := by
  rw [if_pos (by simp [Region.wanted, hgd])]
  exact wp_appR w s x t ho hs hx hr h
theorem row_unique {w : World} {base base' : Nat} {e : TypeId} {size : Nat} {v : Value} {n : Nat} {xs ys : List Value} (h : w.ownsRow base e size v n xs) (h' : w.ownsRow base' e size v n ys) : xs = ys := by
  rcases h with ⟨l, ⟨rfl, rfl⟩ | ⟨g, cap, cur, rfl, _, hg, _, _, _, ht⟩⟩
  · have l' := h'.1
    simp at l l'
    rw [l, l']
  · rcases h' with ⟨_, ⟨h0, _⟩ | ⟨g', cap', cur', e', _, hg', _, _, _, ht'⟩⟩
    · cases h0
    · simp only [Value.slice.injEq, Option.some.injEq, Addr.mk.injEq] at e'
      obtain ⟨⟨rfl, _⟩, _⟩ := e'
      rw [hg] at hg'
      obtain rfl : cur = cur' := by simpa using hg'
      rw [← ht, ht']
def flatOps (c : List (Int × Int)) : List Value := c.flatMap fun x => [.int .i64 x.1, .int .i64 x.2]
theorem flatOps_at : ∀ (c : List (Int × Int)) (i : Nat) (x : Int × Int), c[i]? = some x → (flatOps c)[i * 2]? = some (.int .i64 x.1) ∧ (flatOps c)[i * 2 + 1]? = some (.int .i64 x.2)
  | [], i, x, h => by simp at h
  | y :: c, 0, x, h => by simp at h; subst h; simp [flatOps]
  | y :: c, i + 1, x, h => by
    have := flatOps_at c i x (by simpa using h)
    have e : flatOps (y :: c) = .int .i64 y.1 :: .int .i64 y.2 :: flatOps c := by simp [flatOps]
    rw [e, show (i + 1) * 2 = i * 2 + 1 + 1 by omega]
    simpa using this
theorem codeAt_block {w : World} {b : Nat} {A : Array Value} {t : TypeId} {fr : Nat × Nat} (h : w.heap[b]? = some (.cells A t fr)) (c : List (Int × Int)) (hA : A = (flatOps c).toArray) (hl : c.length ≤ 8796093022208) (n cap : Nat) (hn : n = c.length) :
    CodeAt w (.slice (some ⟨b, 0, none⟩) n cap) c := by
  subst hn hA
  refine ⟨_, _, rfl, hl, fun i x hx => ⟨b, 0, rfl, ?_, ?_⟩⟩
  · rw [cell_lays h]; simpa using (flatOps_at c i x hx).1
  · rw [cell_lays h]; simpa using (flatOps_at c i x hx).2
def flatFns (l : List (Fn × Value)) : List Value := l.flatMap fun x => [.int .i64 x.1.args, .int .i64 x.1.locals, x.2]
theorem flatFns_at : ∀ (l : List (Fn × Value)) (i : Nat) (x : Fn × Value), l[i]? = some x → (flatFns l)[i * 3]? = some (.int .i64 x.1.args) ∧ (flatFns l)[i * 3 + 1]? = some (.int .i64 x.1.locals) ∧ (flatFns l)[i * 3 + 2]? = some x.2
  | [], i, x, h => by simp at h
  | y :: c, 0, x, h => by simp at h; subst h; simp [flatFns]
  | y :: c, i + 1, x, h => by
    have := flatFns_at c i x (by simpa using h)
    have e : flatFns (y :: c) = .int .i64 y.1.args :: .int .i64 y.1.locals :: y.2 :: flatFns c := by simp [flatFns]
    rw [e, show (i + 1) * 3 = i * 3 + 1 + 1 + 1 by omega]
    simpa using this
theorem progAt_block {w : World} {b : Nat} {A : Array Value} {t : TypeId} {fr : Nat × Nat} (h : w.heap[b]? = some (.cells A t fr)) (l : List (Fn × Value)) (hA : A = (flatFns l).toArray) (hl : l.length ≤ 8796093022208)
    (hc : ∀ x, x ∈ l → CodeAt w x.2 x.1.code) (n cap : Nat) (hn : n = l.length) (p : List Fn) (hp : p = l.map (·.1)) : ProgAt w (.slice (some ⟨b, 0, none⟩) n cap) p := by
  subst hn hA hp
  refine ⟨_, cap, by rw [List.length_map], by simpa using hl, fun i f hf => ?_⟩
  rw [List.getElem?_map, Option.map_eq_some_iff] at hf
  obtain ⟨x, hx, rfl⟩ := hf
  obtain ⟨h1, h2, h3⟩ := flatFns_at l i x hx
  refine ⟨b, 0, x.2, rfl, ?_, ?_, ?_, hc x (List.mem_of_getElem? hx)⟩
  · rw [cell_lays h]; simpa using h1
  · rw [cell_lays h]; simpa using h2
  · rw [cell_lays h]; simpa using h3
def cnt0 : List (Int × Int) := [(13, 1), (3, 0), (2, 0), (0, 7), (14, 0), (16, 0), (2, 0), (0, 0), (14, 0), (16, 0), (2, 0), (0, 0), (14, 0), (12, 0)]
def cnt1 : List (Int × Int) := [(2, 0), (15, 0), (1, 0), (2, 0), (0, 1), (11, 2), (15, 0), (1, 0), (0, 99), (12, 0), (0, 5), (9, 9)]
def cnt2 : List (Int × Int) := [(2, 0), (2, 1), (4, 0), (12, 0)]
def cntL : List Fn := [⟨0, 1, cnt0⟩, ⟨1, 1, cnt1⟩, ⟨2, 2, cnt2⟩]
def CountAt (n0 : Nat) (w : World) (v : Value) : Prop :=
  ∃ b0 b1 b2 b, n0 ≤ b0 ∧ b0 < b1 ∧ b1 < b2 ∧ b2 < b ∧ v = .slice (some ⟨b, 0, none⟩) 3 3 ∧ w.heap[b0]? = some (.cells (flatOps cnt0).toArray 72) ∧ w.heap[b1]? = some (.cells (flatOps cnt1).toArray 72) ∧
    w.heap[b2]? = some (.cells (flatOps cnt2).toArray 72) ∧
    w.heap[b]? = some (.cells #[.int .i64 0, .int .i64 1, .slice (some ⟨b0, 0, none⟩) 14 14, .int .i64 1, .int .i64 1, .slice (some ⟨b1, 0, none⟩) 12 12, .int .i64 2, .int .i64 2, .slice (some ⟨b2, 0, none⟩) 4 4] 69)
theorem CountAt.prog {n0 : Nat} {w : World} {v : Value} (h : CountAt n0 w v) : ProgAt w v cntL := by
  obtain ⟨b0, b1, b2, b, _, _, _, _, rfl, h0, h1, h2, h3⟩ := h
  refine progAt_block h3 [(⟨0, 1, cnt0⟩, .slice (some ⟨b0, 0, none⟩) 14 14), (⟨1, 1, cnt1⟩, .slice (some ⟨b1, 0, none⟩) 12 12), (⟨2, 2, cnt2⟩, .slice (some ⟨b2, 0, none⟩) 4 4)] rfl (by simp) ?_ 3 3 rfl cntL rfl
  intro x hx
  simp only [List.mem_cons, List.not_mem_nil, or_false] at hx
  rcases hx with rfl | rfl | rfl
  · exact codeAt_block h0 cnt0 rfl (by decide) 14 14 rfl
  · exact codeAt_block h1 cnt1 rfl (by decide) 12 12 rfl
  · exact codeAt_block h2 cnt2 rfl (by decide) 4 4 rfl
open Go.RowKit Go.Maps
def TabW (w : World) : Prop := Lib.TabIs Tryz.prog w "internal/strconv.uint64pow10" .u64 Lib.pow10Tab
theorem TabW.kept {w w' : World} (h : TabW w) (k : Kept w w') : TabW w' := by
  have hg : Tryz.prog.globalNamed "internal/strconv.uint64pow10" = some 7 := by kernel_rfl
  unfold TabW Lib.TabIs World.var? at h ⊢
  rw [hg] at h ⊢
  simp only [Option.bind_some] at h ⊢
  have hlt : 7 < w.heap.size := by
    cases hq : w.heap[7]? with
    | none => rw [hq] at h; cases h
    | some o => exact (Array.getElem?_eq_some_iff.1 hq).1
  rw [k.block _ hlt]
  exact h
theorem grow_kept (w : World) (k : Nat) (os : Array Obj) : Kept w (Sort.grow (w.drewN k) os) :=
  ⟨rfl, rfl, rfl, by simp [Sort.grow], fun g hg => by simp [Sort.grow, Array.getElem?_append, hg]⟩
def I64 (z : Int) : Prop := -9223372036854775808 ≤ z ∧ z ≤ 9223372036854775807
theorem itoa_any (w : World) (z : Int) (hz : I64 z) (ht : TabW w) : Calls Tryz.prog 87 #[.int .i64 z] w fun e w' => e = .returned (.string ⟨(Lib.itoa z).toArray⟩) ∧ Kept w w' :=
  (Tryz.strconv_Itoa z hz.1 hz.2 w ht).mono fun _ _ ⟨h1, k, os, h2⟩ => ⟨h1, h2 ▸ grow_kept w k os⟩
theorem strInfo : (Tryz.prog.info? 9).map (fun i => (i.zero, i.size, i.bytes)) = some (some (.string ⟨#[]⟩), 1, 16) := by kernel_rfl
theorem made_strs (m : Nat) : madeCells #[Value.string ⟨#[]⟩] (m * 1) = Array.replicate m (Value.string ⟨#[]⟩) := by
  apply Array.ext
  · simp [madeCells]
  · intro i h1 h2
    simp [madeCells, Nat.mod_one]
theorem make_strs (m : Nat) (hm : m ≤ 1000000) (u : World) : (Instr.makeSlice 38 (.int .i64 m) (.int .i64 m)).run Tryz.prog u =
    .ok (.slice (some ⟨u.heap.size, 0, none⟩) m m) (u.alloc (.cells (Array.replicate m (Value.string ⟨#[]⟩)) 9)) := by
  obtain ⟨i0, hi, hz0, hz1, hz2⟩ := info_parts strInfo
  have h := run_make (P := Tryz.prog) u 38 9 i0 (.string ⟨#[]⟩) Tryz.underlying38 hi hz0 .i64 .i64 (m : Int) (m : Int) (by omega) (Int.le_refl _) (by rw [hz2]; omega) (by omega)
  rw [Int.toNat_natCast] at h
  rw [← made_strs]
  simpa [hz1, Value.cells] using h
def strV (l : List UInt8) : Value := .string ⟨l.toArray⟩
def StrsAt (w : World) (g : Nat) (l : List (List UInt8)) : Prop := ∃ cur, w.heap[g]? = some (.cells cur 9) ∧ cur.size = l.length ∧ ∀ (i : Nat) x, l[i]? = some x → cur[i]? = some (strV x)
theorem numbers_any (w : World) (vl : Value) (l : List Int) (h : IntsW w vl l) (hl : l.length ≤ 1000) (hz : ∀ z ∈ l, I64 z) (ht : TabW w) :
    Calls Tryz.prog 58 #[vl] w fun e w' => ∃ g, e = .returned (.slice (some ⟨g, 0, none⟩) l.length l.length) ∧ StrsAt w' g (l.map Lib.itoa) ∧ w.heap.size ≤ g ∧ Kept w w' := by
  obtain ⟨oa, cap, rfl, hn, hi⟩ := h
  have hmk := make_strs l.length (by omega)
  generalize hN : l.length = n at *
  have HN := hide hN
  have HI := hide hi
  have HT := hide ht
  have HZ := hide hz
  have H1 : Hid (∃ cur, (w.alloc (.cells (Array.replicate n (Value.string ⟨#[]⟩)) 9)).heap[w.heap.size]? = some (.cells cur 9) ∧ cur.size = n ∧ (∀ (i : Nat) z, i < 0 → l[i]? = some z → cur[i]? = some (strV (Lib.itoa z))) ∧ Kept w (w.alloc (.cells (Array.replicate n (Value.string ⟨#[]⟩)) 9))) := hide ⟨_, lays_new rfl, by simp, fun i z h0 => by omega, (Kept.refl w).alloc _⟩
  have HG : Hid (w.heap.size ≤ w.heap.size) := hide (Nat.le_refl _)
  clear hi hN hn ht hz
  go_enter Tryz.func58, Tryz.ntmps58
  go_wp2_with fail
  generalize w.alloc (.cells (Array.replicate n (Value.string ⟨#[]⟩)) 9) = wm at H1 ⊢
  obtain ⟨G, hG⟩ : ∃ G, G = w.heap.size := ⟨_, rfl⟩
  rw [← hG] at H1 ⊢
  replace HG : Hid (w.heap.size ≤ G) := hide (by omega)
  clear hG hmk
  go_loopw [11] (fun s11 wr => ∃ k : Nat, k ≤ n ∧ s11 = .int .i64 k ∧ Hid (∃ cur, wr.heap[G]? = some (.cells cur 9) ∧ cur.size = n ∧ (∀ (i : Nat) z, i < k → l[i]? = some z → cur[i]? = some (strV (Lib.itoa z))) ∧ Kept w wr)) (fun s11 _ => n - (intOf s11).toNat)
  case atStart =>
    obtain ⟨cur, hh⟩ := unhide H1
    exact ⟨0, Nat.zero_le _, rfl, hide ⟨cur, hh⟩⟩
  case round =>
    obtain ⟨k, hkm, rfl, HW⟩ := hrel
    clear H1
    by_cases hk : k < n
    · obtain ⟨cur, a3, a4, a5, a6⟩ := unhide HW
      obtain ⟨x, hx⟩ : ∃ x, l[k]? = some x := ⟨_, List.getElem?_eq_getElem (by rw [unhide HN]; exact hk)⟩
      obtain ⟨b, o, rfl, c0⟩ := (unhide HI) k x hx
      replace c0 := a6.cell c0
      have hk0 : (0 : Int) ≤ (k : Int) := by omega
      have hk1 : (k : Int) < (n : Int) := by omega
      have HC := hide (itoa_any wr x ((unhide HZ) x (List.mem_of_getElem? hx)) ((unhide HT).kept a6))
      have HX := hide hx
      have HA := hide (And.intro a3 (And.intro a4 (And.intro a5 a6)))
      clear hx a3 a4 a5 a6 HW
      go_wp2_with fail
      refine (unhide HC).mono ?_
      rintro _ w2 ⟨rfl, k2⟩
      obtain ⟨a3, a4, a5, a6⟩ := unhide HA
      have g2 := lays_kept k2 a3
      obtain ⟨d1, c1⟩ : ∃ d, w2.cell? ⟨G, k, none⟩ = some d := ⟨_, (cell_lays g2 k).trans (Array.getElem?_eq_getElem (by omega))⟩
      have f1 := frozen_lays g2 k
      have HN2 : Hid (∃ cur, (w2.setCell ⟨G, k, none⟩ (.string ⟨(Lib.itoa x).toArray⟩)).heap[G]? = some (.cells cur 9) ∧ cur.size = n ∧ (∀ (i : Nat) z, i < k + 1 → l[i]? = some z → cur[i]? = some (strV (Lib.itoa z))) ∧ Kept w (w2.setCell ⟨G, k, none⟩ (.string ⟨(Lib.itoa x).toArray⟩))) := hide (by
        refine ⟨cur.setIfInBounds k (.string ⟨(Lib.itoa x).toArray⟩), lays_set g2 k _, by simp [a4], fun i y hi hy => ?_, (a6.trans k2).setCell (p := ⟨G, k, none⟩) (unhide HG) _⟩
        rw [Array.getElem?_setIfInBounds]
        by_cases hik : i = k
        · subst hik
          rw [if_pos rfl, if_pos (by omega)]
          rw [unhide HX] at hy
          cases hy
          rfl
        · rw [if_neg (fun e => hik e.symm)]
          exact a5 i y (by omega) hy)
      generalize (ByteArray.mk (Lib.itoa x).toArray) = S at *
      clear a3 a4 a5 a6 g2 k2 HA HC c0
      go_wp2_with fail
      go_roundw
      case rel => exact ⟨k + 1, by omega, by go_num, HN2⟩
      case measure => simp [intOf]; omega
    · obtain rfl : k = n := by omega
      go_wp2
      go_ret
      obtain ⟨cur, a3, a4, a5, a6⟩ := unhide HW
      refine ⟨G, rfl, ⟨cur, a3, by simp [a4, unhide HN], fun i x hx => ?_⟩, unhide HG, a6⟩
      rw [List.getElem?_map, Option.map_eq_some_iff] at hx
      obtain ⟨z, hz, rfl⟩ := hx
      exact a5 i z (by have := (List.getElem?_eq_some_iff.1 hz).1; have := unhide HN; omega) hz
theorem strs_app (a b : List UInt8) : (ByteArray.mk a.toArray) ++ (ByteArray.mk b.toArray) = ⟨(a ++ b).toArray⟩ := by
  apply ByteArray.ext
  simp
theorem flat_strs (xs : List (List UInt8)) : (xs.map (fun x => ByteArray.mk x.toArray)).map (·.data.toList) = xs := by simp [Function.comp_def]
theorem wLine_any (w : World) (g c : Nat) (xs : List (List UInt8)) (hc : xs.length ≤ c) (h : ∀ (j : Nat) x, xs[j]? = some x → w.cell? ⟨g, j, none⟩ = some (strV x)) (hg : g < w.heap.size) (hl : (Lib.join xs [32]).length ≤ 1000000) (hx : xs.length ≤ 1000) :
    Calls Tryz.prog 17 #[.slice (some ⟨g, 0, none⟩) xs.length c] w fun e w' => e = .returned (strV (Lib.join xs [32] ++ [10])) ∧ Kept w w' := by
  have HC : Hid (Calls Tryz.prog 39 #[.slice (some ⟨g, 0, none⟩) xs.length c, .string ⟨#[32]⟩] w fun e w' => e = .returned (.string ⟨(Lib.join xs [32]).toArray⟩) ∧ Kept w w') := hide (by
    have := Tryz.strings_Join g 0 c (xs.map (fun x => ByteArray.mk x.toArray)) ⟨#[32]⟩ w (fun j x hj => by
      rw [List.getElem?_map, Option.map_eq_some_iff] at hj
      obtain ⟨y, hy, rfl⟩ := hj
      rw [Nat.zero_add]
      exact h j y hy) hg (by simp; omega) (by simpa using hc) (by rw [flat_strs]; exact Nat.le_trans hl (by omega))
    rw [flat_strs, List.length_map] at this
    exact this)
  have hE := strs_app (Lib.join xs [32]) [10]
  have hJ : ¬ 9223372036854775807 < (ByteArray.mk (Lib.join xs [32]).toArray).size + 1 := by rw [show (ByteArray.mk (Lib.join xs [32]).toArray).size = (Lib.join xs [32]).length by simp [ByteArray.size]]; omega
  unfold strV
  generalize (ByteArray.mk (Lib.join xs [32]).toArray) = J at *
  generalize (ByteArray.mk (Lib.join xs [32] ++ [10]).toArray) = R at *
  generalize xs.length = n at *
  clear h hl hx hc
  go_enter Tryz.func17, Tryz.ntmps17
  go_wp2_with fail
  refine (unhide HC).mono ?_
  rintro _ w2 ⟨rfl, k2⟩
  have HK := hide k2
  clear k2 HC
  go_wp2_with fail
  go_ret
  exact ⟨rfl, unhide HK⟩
theorem join_len (xs : List (List UInt8)) (k : Nat) (h : ∀ x ∈ xs, x.length ≤ k) : (Lib.join xs [32]).length ≤ xs.length * (k + 1) := by
  induction xs with
  | nil => simp [Lib.join]
  | cons x xs ih =>
    have h1 := h x (by simp)
    have h2 := ih (fun y hy => h y (by simp [hy]))
    cases xs with
    | nil => simp [Lib.join, List.intercalate] at *; omega
    | cons y ys =>
      simp only [Lib.join, List.intercalate, List.intersperse, List.flatten_cons, List.length_append, List.length_cons, List.length_nil] at *
      rw [Nat.add_mul]
      omega
theorem dec_len (n : Nat) : ∀ k, n < 10 ^ k → 0 < k → (Lib.decDigits n).length ≤ k := by
  intro k
  induction k generalizing n with
  | zero => intro _ h; omega
  | succ k ih =>
    intro h _
    unfold Lib.decDigits
    split
    · simp
    · have h1 : n / 10 < 10 ^ k := by rw [Nat.pow_succ] at h; omega
      have h2 : 0 < k := by
        cases k with
        | zero => simp at h; omega
        | succ k => omega
      have := ih (n / 10) h1 h2
      simp
      omega
theorem itoa_len {z : Int} (h : I64 z) : (Lib.itoa z).length ≤ 20 := by
  unfold Lib.itoa
  obtain ⟨h1, h2⟩ := h
  split
  · have := dec_len z.natAbs 19 (by simp; omega) (by omega)
    simp
    omega
  · have := dec_len z.toNat 19 (by simp; omega) (by omega)
    omega
theorem row_same' {w w' : World} {base : Nat} {e : TypeId} {size : Nat} {v : Value} {n : Nat} {xs : List Value} (h : w.ownsRow base e size v n xs) (k : Kept w w') : w'.ownsRow base e size v n xs := by
  refine ⟨h.1, ?_⟩
  rcases h.2 with hn | ⟨g, cap, cur, rfl, hb, hgg, rest⟩
  · exact .inl hn
  · exact .inr ⟨g, cap, cur, rfl, hb, lays_kept k hgg, rest⟩
theorem tLine_any (w : World) (word : List UInt8) (vl : Value) (l : List Int) (h : IntsW w vl l) (hw : word.length ≤ 1000) (hl : l.length ≤ 10) (hz : ∀ z ∈ l, I64 z) (ht : TabW w) :
    Calls Tryz.prog 26 #[.string ⟨word.toArray⟩, vl] w fun e w' => e = .returned (strV (lineT word l)) ∧ Kept w w' := by
  obtain ⟨i0, hi0, hz0, hz1, hz2⟩ := info_parts strInfo
  have HC := hide (numbers_any (w.alloc (.cells #[.string ⟨word.toArray⟩] 9)) vl l (h.kept ((Kept.refl w).alloc _)) (by omega) hz (ht.kept ((Kept.refl w).alloc _)))
  have HRW : Hid ((w.alloc (.cells #[.string ⟨word.toArray⟩] 9)).ownsRow w.heap.size 9 1 (.slice (some ⟨w.heap.size, 0, none⟩) 1 1) 1 [strV word]) := hide ⟨rfl, .inr ⟨w.heap.size, 1, _, rfl, Nat.le_refl _, lays_new rfl, Nat.le_refl _, by unfold maxLen; omega, rfl, rfl⟩⟩
  have HLJ : Hid ((Lib.join (word :: l.map Lib.itoa) [32]).length ≤ 1000000) := hide (by
    have := join_len (word :: l.map Lib.itoa) 1000 (fun x hx => by
      rcases List.mem_cons.1 hx with rfl | hx
      · exact hw
      · obtain ⟨z, hz', rfl⟩ := List.mem_map.1 hx
        have := itoa_len (hz z hz')
        omega)
    simp only [List.length_cons, List.length_map] at this
    have h2 : (l.length + 1) * (1000 + 1) ≤ 11 * 1001 := Nat.mul_le_mul (by omega) (by omega)
    omega)
  unfold lineT
  obtain ⟨oa, cap, rfl, _⟩ := h
  generalize hN : l.length = n at *
  have HN := hide hN
  clear hz ht hw hN
  generalize (ByteArray.mk word.toArray) = WD at *
  go_enter Tryz.func26, Tryz.ntmps26
  go_wp2_with fail
  refine (unhide HC).mono ?_
  rintro _ w2 ⟨g, rfl, ⟨cur, h2, hs, hc⟩, hge, k2⟩
  obtain ⟨v3, w3, hrun, hown, hgrow, _, _⟩ := run_append_own_at (P := Tryz.prog) (w := w2) w.heap.size 38 38 9 i0 _ 1 16 Tryz.underlying38 hi0 hz0 hz1 hz2 rfl (by decide) _ 1 [strV word] (row_same' (unhide HRW) k2) ⟨g, 0, none⟩ n n ((l.map Lib.itoa).map strV) (by simp [unhide HN]) (fun j u hj => by
      have : ((⟨g, 0, none⟩ : Addr).add j) = ⟨g, j, none⟩ := by unfold Addr.add; split <;> simp_all
      rw [this, cell_lays h2]
      rw [List.getElem?_map, Option.map_eq_some_iff] at hj
      obtain ⟨x, hx, rfl⟩ := hj
      exact hc j x hx) (fun u hu => by
      obtain ⟨x, _, rfl⟩ := List.mem_map.1 hu
      rfl) (by unfold maxLen; omega) (by omega) (by have := k2.size; simp at this; omega)
  have hK3 : Kept w w3 := Below.grown (a := w) (w := w2) ((Kept.refl w).alloc _ |>.trans k2) hgrow (by have := k2.size; simp at this; omega) (fun g hg => (World.ownsRow.lt (row_same' (unhide HRW) k2) g hg).1)
  obtain ⟨g3, cap3, cur3, rfl, hg3, hcap3, hcur3⟩ : ∃ g3 cap3 cur3, v3 = .slice (some ⟨g3, 0, none⟩) (1 + n) cap3 ∧ w3.heap[g3]? = some (.cells cur3 9) ∧ 1 + n ≤ cap3 ∧ ∀ (j : Nat) u, ([strV word] ++ (l.map Lib.itoa).map strV)[j]? = some u → cur3[j]? = some u := by
    obtain ⟨hl0, ⟨_, h0⟩ | ⟨g3, cap3, cur3, rfl, _, hh, h1, _, _, htk⟩⟩ := hown
    · omega
    · refine ⟨g3, cap3, cur3, rfl, hh, h1, fun j u hj => ?_⟩
      rw [← htk, List.getElem?_take] at hj
      split at hj
      · simpa using hj
      · cases hj
  have HL : Hid (Calls Tryz.prog 17 #[.slice (some ⟨g3, 0, none⟩) (1 + n) cap3] w3 fun e w' => e = .returned (strV (Lib.join (word :: l.map Lib.itoa) [32] ++ [10])) ∧ Kept w3 w') := hide (by
    have hlen : (word :: l.map Lib.itoa).length = 1 + n := by simp [unhide HN]; omega
    have := wLine_any w3 g3 cap3 (word :: l.map Lib.itoa) (by omega) (fun j x hj => by
      rw [cell_lays hg3]
      exact hcur3 j _ (by rw [show [strV word] ++ (l.map Lib.itoa).map strV = (word :: l.map Lib.itoa).map strV by simp, List.getElem?_map, hj]; rfl)) (Array.getElem?_eq_some_iff.1 hg3).1 (unhide HLJ) (by omega)
    rwa [hlen] at this)
  have HR := hide hrun
  have HK := hide hK3
  clear hK3 hrun hown hgrow hg3 hcap3 hcur3 h2 hs hc hge k2 HRW HLJ HC
  go_wp2_with (at_builtin; refine unhide ?_)
  refine hide ?_
  refine wpList_appR _ rfl (.tmp 6) (.tmp 8) 38 rfl rfl rfl (unhide HR) ?_
  clear HR
  go_wp2_with fail
  refine (unhide HL).mono ?_
  rintro _ w4 ⟨rfl, k4⟩
  replace HK := hide ((unhide HK).trans k4)
  clear k4 HL
  unfold strV
  generalize hRR : (ByteArray.mk (Lib.join (word :: l.map Lib.itoa) [32] ++ [10]).toArray) = R at *
  go_wp2_with fail
  go_ret
  exact ⟨by rw [strV, hRR]; rfl, unhide HK⟩
def TKAt (w : World) : Prop := ∀ k, k < 17 → w.cell? ⟨0, k * 2, none⟩ = some (strV (tkS.getD k ([], 0)).1) ∧ w.cell? ⟨0, k * 2 + 1, none⟩ = some (.int .i64 ((tkS.getD k ([], 0)).2 : Nat))
theorem TKAt.kept {w w' : World} (h : TKAt w) (k : Kept w w') : TKAt w' := fun i hi => ⟨k.cell (h i hi).1, k.cell (h i hi).2⟩
theorem tk_len (k : Nat) : (tkS.getD k ([], 0)).1.length ≤ 6 := by
  by_cases h : k < 17
  · revert h; revert k; decide
  · rw [show tkS.getD k ([], 0) = ([], 0) by simp [List.getD, List.getElem?_eq_none (show tkS.length ≤ k by simp [tkS]; omega)]]; simp
theorem opLine_any (w : World) (k : Nat) (a : Int) (hk : k < 17) (ha : I64 a) (ht : TabW w) (htk : TKAt w) :
    Calls Tryz.prog 27 #[.agg #[.int .i64 k, .int .i64 a]] w fun e w' => e = .returned (strV (opT (k, a))) ∧ Kept w w' := by
  have H0 : Hid (∀ u, Kept w u → Calls Tryz.prog 26 #[.string ⟨(tkS.getD k ([], 0)).1.toArray⟩, .slice none 0 0] u fun e w' => e = .returned (strV (lineT (tkS.getD k ([], 0)).1 [])) ∧ Kept u w') := hide fun u hu => tLine_any u _ _ [] (IntsW.nil u) (by have := tk_len k; omega) (by simp) (by simp) (ht.kept hu)
  have H1 : Hid (∀ u b, Kept w u → u.heap[b]? = some (.cells #[.int .i64 a] 3) → Calls Tryz.prog 26 #[.string ⟨(tkS.getD k ([], 0)).1.toArray⟩, .slice (some ⟨b, 0, none⟩) 1 1] u fun e w' => e = .returned (strV (lineT (tkS.getD k ([], 0)).1 [a])) ∧ Kept u w') := hide fun u b hu hb => tLine_any u _ _ [a] ⟨_, _, rfl, by simp, fun i z hz => ⟨b, 0, rfl, by
      rw [cell_lays hb, Nat.zero_add]
      cases i with
      | zero => simpa using hz
      | succ i => simp at hz⟩⟩ (by have := tk_len k; omega) (by simp) (by simpa using ha) (ht.kept hu)
  have b0 : ∀ o : Obj, (w.alloc o).cell? ⟨0, k * 2, none⟩ = some (strV (tkS.getD k ([], 0)).1) := fun o => ((Kept.refl w).alloc o).cell (htk k hk).1
  have b1 : ∀ o : Obj, (w.alloc o).cell? ⟨0, k * 2 + 1, none⟩ = some (.int .i64 ((tkS.getD k ([], 0)).2 : Nat)) := fun o => ((Kept.refl w).alloc o).cell (htk k hk).2
  unfold opT
  simp only [Int.toNat_natCast]
  generalize (tkS.getD k ([], 0)).1 = wd at *
  generalize (tkS.getD k ([], 0)).2 = nn at *
  unfold strV at b0
  generalize (ByteArray.mk wd.toArray) = WD at *
  have hk0 : (0 : Int) ≤ (k : Int) := by omega
  have hk1 : (k : Int) < 17 := by omega
  clear ht htk
  by_cases hn : nn = 0
  · subst hn
    rw [if_pos rfl]
    go_enter Tryz.func27, Tryz.ntmps27
    go_wp2_with fail
    refine ((unhide H0) _ (((Kept.refl w).alloc _).alloc _)).mono ?_
    rintro _ w4 ⟨rfl, k4⟩
    have HK := hide ((((Kept.refl w).alloc (.cells #[.int .i64 (k : Int), .int .i64 a] 72)).alloc (.cells #[.string WD, .int .i64 0] 107)).trans k4)
    clear k4 H0 H1 b0 b1
    unfold strV
    generalize hRR : (ByteArray.mk (lineT wd []).toArray) = R at *
    go_wp2_with fail
    go_ret
    exact ⟨by rw [strV, hRR]; rfl, unhide HK⟩
  · rw [if_neg hn]
    have hn0 : ((nn : Int) == 0) = false := by simp; omega
    go_enter Tryz.func27, Tryz.ntmps27
    go_wp2_with fail
    refine ((unhide H1) _ _ ((((Kept.refl w).alloc _).alloc _).alloc _) (lays_new (by simp))).mono ?_
    rintro _ w4 ⟨rfl, k4⟩
    have HK := hide (((((Kept.refl w).alloc (.cells #[.int .i64 (k : Int), .int .i64 a] 72)).alloc (.cells #[.string WD, .int .i64 (nn : Int)] 107)).alloc (.cells #[.int .i64 a] 3)).trans k4)
    clear k4 H0 H1 b0 b1
    unfold strV
    generalize hRR : (ByteArray.mk (lineT wd [a]).toArray) = R at *
    go_wp2_with fail
    go_ret
    exact ⟨by rw [strV, hRR]; rfl, unhide HK⟩
theorem conv_up (w : World) (b : Nat) (hsh : w.shape? b = some (51, 2)) : (convert 48 115 (.pointer (some ⟨b, 0, none⟩))).run Tryz.prog w = .ok (.pointer (some ⟨b, 0, none⟩)) w := by
  obtain ⟨jj, hj, hjs⟩ := Option.map_eq_some_iff.1 (show (Tryz.prog.info? 51).map (·.size) = some 2 by kernel_rfl)
  simp [convert, run_underlying Tryz.underlying48, run_underlying Tryz.underlying115]
  conv => lhs; arg 2; whnf
  simp only [Sem.run, Sem.bind, Tryz.underlying48]
  change Sem.run Tryz.prog ((pure _ : Sem _) >>= _) w = _
  simp [run_underlying Tryz.underlying115, Conv.seenAt, viewAt, cellsIn, hsh, sizeOf, typeInfo, hj, hjs]
theorem conv_down (w : World) (b : Nat) (hsh : w.shape? b = some (51, 2)) : (convert 115 48 (.pointer (some ⟨b, 0, none⟩))).run Tryz.prog w = .ok (.pointer (some ⟨b, 0, none⟩)) w := by
  obtain ⟨jj, hj, hjs⟩ := Option.map_eq_some_iff.1 (show (Tryz.prog.info? 51).map (·.size) = some 2 by kernel_rfl)
  have hlies : liesAt Tryz.prog Tryz.prog.depth 51 (2 / Tryz.prog.cellsOf 51) 0 51 1 = true := by kernel_rfl
  simp [convert, run_underlying Tryz.underlying48, run_underlying Tryz.underlying115]
  conv => lhs; arg 2; whnf
  simp only [Sem.run, Sem.bind, Tryz.underlying115]
  change Sem.run Tryz.prog ((pure _ : Sem _) >>= _) w = _
  simp [run_underlying Tryz.underlying48, Conv.seenAt, viewAt, hsh, variablesAt, hlies, sizeOf, typeInfo, hj]
end Go.Proofs.YtokhibfenccijaaGreatDoor
