/- Plain, Keep, Mem, OpA, Blocks, OpE -/
import Derived.Below
import Derived.WalkKit
import Derived.WalkSmall
import Derived.BigQuiet
import Derived.Test.YtblihfpigjiahaaGreatDoorChecked
import Derived.Laws.EntriesVeiled
set_option maxRecDepth 100000
set_option maxHeartbeats 8000000
namespace Go.Proofs.YtblihfpigjiahaaGreatDoor
structure Fn where
 args:Int
 locals:Int
 code:List (Int × Int)
def Fn.zero:Fn:=⟨0,0,[]⟩
def ixB (i n:Int):Bool:=decide (0≤i) && decide (i < n)
theorem Qf {i n:Int} (h:0≤i) (h':i < n):ixB i n=true:=by simp [ixB,h,h']
theorem Jl {i n:Int} (h:¬ (0≤i∧i < n)):ixB i n=false:=by
 unfold ixB; rw [Bool.and_eq_false_iff]; simp only [decide_eq_false_iff_not]; omega
theorem Qb {i n:Int}:ixB i n=true↔0≤i∧i < n:=by simp [ixB]
def inB (n low high:Int):Bool:=decide (low≤n) && decide (n≤high)
theorem Qu {n l h:Int} (h1:l≤n) (h2:n≤h):inB n l h=true:=by simp [inB,h1,h2]
theorem Js {n l h:Int} (h':¬ (l≤n∧n≤h)):inB n l h=false:=by
 unfold inB; rw [Bool.and_eq_false_iff]; simp only [decide_eq_false_iff_not]; omega
theorem inB_iff {n l h:Int}:inB n l h=true↔l≤n∧n≤h:=by simp [inB]
theorem inB_ixB (i n:Int):inB i 0 (n - 1)=ixB i n:=by
 rw [Bool.eq_iff_iff,inB_iff,Qb]; omega
def Xo (a l:Int):Bool:=decide (0≤a) && decide (a≤l) && decide (l≤4)
theorem Qz {a l:Int}:Xo a l=true↔0≤a∧a≤l∧l≤4:=by simp [Xo,and_assoc]
def ktab:List Int:=[0,1,1,1,0,0,0,1,2,1,0,2,2,1,0,2,1,0,2,1,0,2,1,0,2,1,0,0,0,3,1,0,3,0,1,4,1,0,0,0,1,4,2,1,0,1,1,0,1,0,0]
def tk (k:Nat):Int:=ktab.getD (k * 3) 0
def lv (k:Nat):Int:=ktab.getD (k * 3 + 1) 0
def opd (k:Nat):Int:=ktab.getD (k * 3 + 2) 0
def effS (p:List Fn) (kd a:Int):Int × Int × Int :=
 if 0≤kd∧kd < 17 then
  if kd=11 then (if 0≤a∧a < p.length then ((p.getD a.toNat Fn.zero).args,1,0) else (0,0,5))
  else (tk kd.toNat,lv kd.toNat,0)
 else (0,0,4)
def mayB (p:List Fn) (f:Fn) (o a:Int):Bool :=
 if o=0 then decide (a=0) else if o=1 then inB a 0 999 else if o=2 then ixB a f.locals else if o=3 then ixB a f.code.length
 else ixB a p.length && Xo (p.getD a.toNat Fn.zero).args (p.getD a.toNat Fn.zero).locals
def opS (p:List Fn) (f:Fn) (x:Int × Int):Int :=
 if 0≤x.1∧x.1 < 17 then
  if mayB p f (opd x.1.toNat) x.2=true then (if x.1=13∧(p.getD x.2.toNat Fn.zero).args≠1 then 1 else 0) else 3
 else 4
def opsS (p:List Fn) (f:Fn):List (Int × Int)→Int
 | []=>0
 | x :: r=>if opS p f x=0 then opsS p f r else opS p f x
def chkS (p:List Fn) (f:Int):Int :=
 if 0≤f∧f < p.length then
  let g:=p.getD f.toNat Fn.zero
  if 24 < g.code.length then 2 else if Xo g.args g.locals=true then opsS p g g.code else 3
 else 5
theorem Zm {α:Type} (l:List α) (i:Nat) (d:α) (h:i < l.length):l[i]?=some (l.getD i d):=by
 simp [List.getD,h]
open Go.RowKit
abbrev Kept (w w':World):Prop:=Below w.heap.size w w'
theorem Kept.refl (w:World):Kept w w:=Below.refl _ w
theorem Kept.trans {a b c:World} (h:Kept a b) (k:Kept b c):Kept a c:=Below.trans h (Below.mono k h.size)
theorem Kept.drew {a b:World} (h:Kept a b):Kept a b.drew:=Below.drew h
theorem Kept.alloc {a b:World} (h:Kept a b) (o:Obj):Kept a (b.alloc o):=Below.alloc h h.size o
theorem Kept.setCell {a b:World} (h:Kept a b) {p:Addr} (hp:a.heap.size≤p.block) (u:Value):Kept a (b.setCell p u):=Below.setCell h hp u
theorem Kept.drewN {a b:World} (h:Kept a b) (n:Nat):Kept a (b.drewN n):=below_drewN h n
theorem Xd {w:World} {p:Addr} {v:Value} (h:w.cell? p=some v):p.block < w.heap.size:=by
 unfold World.cell? at h
 split at h
 ·rename_i hb; exact (Array.getElem?_eq_some_iff.1 hb).1
 ·cases h
theorem Kept.cell {w w':World} (h:Kept w w') {p:Addr} {v:Value} (hc:w.cell? p=some v):w'.cell? p=some v :=
 (Below.cell h (Xd hc)).trans hc
theorem hide {p:Prop} (h:p):Hid p:=h
theorem un {p:Prop} (h:Hid p):p:=h
theorem Zd {w:World} {o:Obj} {b:Nat} (h:w.heap.size=b):(w.alloc o).heap[b]?=some o:=by
 subst h
 show (w.heap.push o)[w.heap.size]?=_
 simp
theorem Zg {w:World} {o:Obj} {b:Nat} (h:w.heap[b]?=some o) (o':Obj):(w.alloc o').heap[b]?=some o :=
 (Below.heap_alloc w o' b (Array.getElem?_eq_some_iff.1 h).1).trans h
theorem Zj {w w':World} (k:Kept w w') {o:Obj} {b:Nat} (h:w.heap[b]?=some o):w'.heap[b]?=some o :=
 (k.block b (Array.getElem?_eq_some_iff.1 h).1).trans h
theorem Zt {w:World} {o:Obj} {b:Nat} (h:w.heap[b]?=some o):w.drew.heap[b]?=some o:=h
theorem Xz {w:World} {o:Obj} {b:Nat} (h:w.heap[b]?=some o) {a:Addr} (hn:b≠a.block) (u:Value):(w.setCell a u).heap[b]?=some o :=
 (Below.heap_setCell w a u b hn).trans h
theorem Zb {w:World} {b:Nat} {c:Array Value} {t:TypeId} {fr:Nat × Nat} (h:w.heap[b]?=some (.cells c t fr)) (i:Nat):w.cell? ⟨b,i,none⟩=c[i]?:=by
 simp [World.cell?,h]
theorem Zs {w:World} {b:Nat} {c:Array Value} {t:TypeId} {fr:Nat × Nat} (h:w.heap[b]?=some (.cells c t fr)) (i:Nat) (u:Value):(w.setCell ⟨b,i,none⟩ u).heap[b]?=some (.cells (c.setIfInBounds i u) t fr):=by
 simp [World.setCell,Array.getElem?_modify,h]
theorem Zi {w:World} {b:Nat} {c:Array Value} {t:TypeId} (h:w.heap[b]?=some (.cells c t (0,0))) (i:Nat):w.frozen? ⟨b,i,none⟩=false:=by
 simp [World.frozen?,h]
structure KeptX (B:Nat) (w w':World):Prop where
 os:w'.os=w.os
 tape:w'.tape=w.tape
 output:w'.output=w.output
 size:w.heap.size≤w'.heap.size
 block:∀ k,k < w.heap.size→k≠B→w'.heap[k]?=w.heap[k]?
theorem KeptX.of {B:Nat} {w w':World} (h:Kept w w'):KeptX B w w':=⟨h.os,h.tape,h.output,h.size,fun k hk _=>h.block k hk⟩
theorem KeptX.refl (B:Nat) (w:World):KeptX B w w:=.of (Kept.refl w)
theorem KeptX.trans {B:Nat} {a b c:World} (h:KeptX B a b) (k:KeptX B b c):KeptX B a c :=
 ⟨k.os.trans h.os,k.tape.trans h.tape,k.output.trans h.output,Nat.le_trans h.size k.size,fun i hi hn=>(k.block i (Nat.lt_of_lt_of_le hi h.size) hn).trans (h.block i hi hn)⟩
theorem KeptX.alloc {B:Nat} {a b:World} (h:KeptX B a b) (o:Obj):KeptX B a (b.alloc o):=h.trans (.of ((Kept.refl _).alloc _))
theorem KeptX.drew {B:Nat} {a b:World} (h:KeptX B a b):KeptX B a b.drew:=h.trans (.of (Kept.refl _).drew)
theorem KeptX.setCell {B:Nat} {a b:World} (h:KeptX B a b) {p:Addr} (hp:p.block=B∨a.heap.size≤p.block) (u:Value):KeptX B a (b.setCell p u) :=
 ⟨h.os,h.tape,h.output,by simpa [World.setCell] using h.size,fun k hk hn=>(Below.heap_setCell _ _ _ _ (by omega)).trans (h.block k hk hn)⟩
theorem KeptX.kept {B:Nat} {w0 w w':World} (h0:Kept w0 w) (hB:w0.heap.size≤B) (h:KeptX B w w'):Kept w0 w' :=
 ⟨h.os.trans h0.os,h.tape.trans h0.tape,h.output.trans h0.output,Nat.le_trans h0.size h.size,fun k hk=>(h.block k (Nat.lt_of_lt_of_le hk h0.size) (by omega)).trans (h0.block k hk)⟩
theorem KeptX.cell {B:Nat} {w w':World} (h:KeptX B w w') {p:Addr} {v:Value} (hn:p.block≠B) (hc:w.cell? p=some v):w'.cell? p=some v :=
 (World.cell?_of_block (w:=w) (h.block p.block (Xd hc) hn)).trans hc
theorem KeptX.frozen {B:Nat} {w w':World} (h:KeptX B w w') {p:Addr} (hp:p.block < w.heap.size) (hn:p.block≠B):w'.frozen? p=w.frozen? p :=
 World.frozen?_of_block (w:=w) (h.block p.block hp hn)
theorem KeptX.lays {B:Nat} {w w':World} (h:KeptX B w w') {b:Nat} {o:Obj} (hn:b≠B) (hb:w.heap[b]?=some o):w'.heap[b]?=some o :=
 (h.block b (Array.getElem?_eq_some_iff.1 hb).1 hn).trans hb
def IntsW (w:World) (v:Value) (l:List Int):Prop :=
 ∃ oa cap,v=.slice oa l.length cap∧l.length≤17592186043904∧∀ i z,l[i]?=some z→∃ b o,oa=some ⟨b,o,none⟩∧w.cell? ⟨b,o + i,none⟩=some (.int .i64 z)
theorem IntsW.kept {w w':World} (h:Kept w w') {v:Value} {l:List Int} (hl:IntsW w v l):IntsW w' v l:=by
 obtain ⟨oa,cap,e,hn,hi⟩:=hl
 refine ⟨oa,cap,e,hn,fun i z hz=>?_⟩
 obtain ⟨b,o,e1,h1⟩:=hi i z hz
 exact ⟨b,o,e1,h.cell h1⟩
theorem IntsW.nil (w:World):IntsW w (.slice none 0 0) []:=⟨none,0,rfl,by simp,fun i z h=>by simp at h⟩
def CodeAt (w:World) (v:Value) (c:List (Int × Int)):Prop :=
 ∃ oa cap,v=.slice oa c.length cap∧c.length≤8796093022208∧∀ i x,c[i]?=some x→∃ b o,oa=some ⟨b,o,none⟩ ∧
  w.cell? ⟨b,o + i * 2,none⟩=some (.int .i64 x.1)∧w.cell? ⟨b,o + i * 2 + 1,none⟩=some (.int .i64 x.2)
def ProgAt (w:World) (v:Value) (p:List Fn):Prop :=
 ∃ oa cap,v=.slice oa p.length cap∧p.length≤8796093022208∧∀ i f,p[i]?=some f→∃ b o cv,oa=some ⟨b,o,none⟩ ∧
  w.cell? ⟨b,o + i * 3,none⟩=some (.int .i64 f.args)∧w.cell? ⟨b,o + i * 3 + 1,none⟩=some (.int .i64 f.locals) ∧
  w.cell? ⟨b,o + i * 3 + 2,none⟩=some cv∧CodeAt w cv f.code
def KindsAt (w:World):Prop:=∀ k,k < 51→w.cell? ⟨0,k,none⟩=some (.int .i64 (ktab.getD k 0))
theorem CodeAt.kept {w w':World} (h:Kept w w') {v:Value} {c:List (Int × Int)} (hc:CodeAt w v c):CodeAt w' v c:=by
 obtain ⟨oa,cap,e,hl,hi⟩:=hc
 refine ⟨oa,cap,e,hl,fun i x hx=>?_⟩
 obtain ⟨b,o,e1,h1,h2⟩:=hi i x hx
 exact ⟨b,o,e1,h.cell h1,h.cell h2⟩
theorem ProgAt.kept {w w':World} (h:Kept w w') {v:Value} {p:List Fn} (hp:ProgAt w v p):ProgAt w' v p:=by
 obtain ⟨oa,cap,e,hl,hi⟩:=hp
 refine ⟨oa,cap,e,hl,fun i f hf=>?_⟩
 obtain ⟨b,o,cv,e1,h1,h2,h3,h4⟩:=hi i f hf
 exact ⟨b,o,cv,e1,h.cell h1,h.cell h2,h.cell h3,h4.kept h⟩
theorem KindsAt.kept {w w':World} (h:Kept w w') (hk:KindsAt w):KindsAt w':=fun k hk'=>h.cell (hk k hk')
theorem ProgAt.lt {w:World} {v:Value} {p:List Fn} (hp:ProgAt w v p):p.length≤8796093022208:=by
 obtain ⟨_,_,_,h,_⟩:=hp; exact h
theorem Kk {w:World} {b i B j:Nat} {v:Value} (h:w.cell? ⟨b,i,none⟩=some v) (hne:b≠B) (u:Value):(w.setCell ⟨B,j,none⟩ u).cell? ⟨b,i,none⟩=some v:=by
 rw [World.cell?_of_block (w:=w)]
 ·exact h
 ·exact Below.heap_setCell w _ _ _ hne
theorem Qe (i n:Int) (w:World) :
  Calls Tryz.prog 70 #[.int .i64 i,.int .i64 n] w fun e w'=>e=.returned (.bool (ixB i n))∧w=w':=by
 by_cases h1:0≤i
 ·by_cases h2:i < n
  ·rw [Qf h1 h2]
   go_enter Tryz.func70,Tryz.ntmps70
   go_wp2
   go_ret
   exact ⟨rfl,rfl⟩
  ·rw [Jl (by omega)]
   go_enter Tryz.func70,Tryz.ntmps70
   go_wp2
   go_ret
   exact ⟨rfl,rfl⟩
 ·rw [Jl (by omega)]
  go_enter Tryz.func70,Tryz.ntmps70
  go_wp2
  go_ret
  exact ⟨rfl,rfl⟩
theorem hasRoom_any (a l:Int) (c:Value) (w:World) :
  Calls Tryz.prog 71 #[.agg #[.int .i64 a,.int .i64 l,c]] w fun e w'=>e=.returned (.bool (Xo a l))∧w'=w.alloc (.cells #[.int .i64 a,.int .i64 l,c] 70):=by
 by_cases h1:0≤a
 ·by_cases h2:a≤l
  ·by_cases h3:l≤4
   ·rw [show Xo a l=true from by rw [Qz]; exact ⟨h1,h2,h3⟩]
    go_enter Tryz.func71,Tryz.ntmps71
    go_wp2
    go_ret
    exact ⟨rfl,rfl⟩
   ·rw [show Xo a l=false from by rw [← Bool.not_eq_true,Qz]; omega]
    go_enter Tryz.func71,Tryz.ntmps71
    go_wp2
    go_ret
    exact ⟨rfl,rfl⟩
  ·rw [show Xo a l=false from by rw [← Bool.not_eq_true,Qz]; omega]
   go_enter Tryz.func71,Tryz.ntmps71
   go_wp2
   go_ret
   exact ⟨rfl,rfl⟩
 ·rw [show Xo a l=false from by rw [← Bool.not_eq_true,Qz]; omega]
  go_enter Tryz.func71,Tryz.ntmps71
  go_wp2
  go_ret
  exact ⟨rfl,rfl⟩
def flatOps (c:List (Int × Int)):List Value:=c.flatMap fun x=>[.int .i64 x.1,.int .i64 x.2]
theorem flatOps_at:∀ (c:List (Int × Int)) (i:Nat) (x:Int × Int),c[i]?=some x→(flatOps c)[i * 2]?=some (.int .i64 x.1)∧(flatOps c)[i * 2 + 1]?=some (.int .i64 x.2)
 | [],i,x,h=>by simp at h
 | y :: c,0,x,h=>by simp at h; subst h; simp [flatOps]
 | y :: c,i + 1,x,h=>by
  have:=flatOps_at c i x (by simpa using h)
  have e:flatOps (y :: c)=.int .i64 y.1 :: .int .i64 y.2 :: flatOps c:=by simp [flatOps]
  rw [e,show (i + 1) * 2=i * 2 + 1 + 1 by omega]
  simpa using this
theorem codeAt_block {w:World} {b:Nat} {A:Array Value} {t:TypeId} {fr:Nat × Nat} (h:w.heap[b]?=some (.cells A t fr)) (c:List (Int × Int)) (hA:A=(flatOps c).toArray) (hl:c.length≤8796093022208) (n cap:Nat) (hn:n=c.length) :
  CodeAt w (.slice (some ⟨b,0,none⟩) n cap) c:=by
 subst hn hA
 refine ⟨_,_,rfl,hl,fun i x hx=>⟨b,0,rfl,?_,?_⟩⟩
 ·rw [Zb h]; simpa using (flatOps_at c i x hx).1
 ·rw [Zb h]; simpa using (flatOps_at c i x hx).2
def flatFns (l:List (Fn × Value)):List Value:=l.flatMap fun x=>[.int .i64 x.1.args,.int .i64 x.1.locals,x.2]
theorem flatFns_at:∀ (l:List (Fn × Value)) (i:Nat) (x:Fn × Value),l[i]?=some x→(flatFns l)[i * 3]?=some (.int .i64 x.1.args)∧(flatFns l)[i * 3 + 1]?=some (.int .i64 x.1.locals)∧(flatFns l)[i * 3 + 2]?=some x.2
 | [],i,x,h=>by simp at h
 | y :: c,0,x,h=>by simp at h; subst h; simp [flatFns]
 | y :: c,i + 1,x,h=>by
  have:=flatFns_at c i x (by simpa using h)
  have e:flatFns (y :: c)=.int .i64 y.1.args :: .int .i64 y.1.locals :: y.2 :: flatFns c:=by simp [flatFns]
  rw [e,show (i + 1) * 3=i * 3 + 1 + 1 + 1 by omega]
  simpa using this
theorem progAt_block {w:World} {b:Nat} {A:Array Value} {t:TypeId} {fr:Nat × Nat} (h:w.heap[b]?=some (.cells A t fr)) (l:List (Fn × Value)) (hA:A=(flatFns l).toArray) (hl:l.length≤8796093022208)
  (hc:∀ x,x∈l→CodeAt w x.2 x.1.code) (n cap:Nat) (hn:n=l.length) (p:List Fn) (hp:p=l.map (·.1)):ProgAt w (.slice (some ⟨b,0,none⟩) n cap) p:=by
 subst hn hA hp
 refine ⟨_,cap,by rw [List.length_map],by simpa using hl,fun i f hf=>?_⟩
 rw [List.getElem?_map,Option.map_eq_some_iff] at hf
 obtain ⟨x,hx,rfl⟩:=hf
 obtain ⟨h1,h2,h3⟩:=flatFns_at l i x hx
 refine ⟨b,0,x.2,rfl,?_,?_,?_,hc x (List.mem_of_getElem? hx)⟩
 ·rw [Zb h]; simpa using h1
 ·rw [Zb h]; simpa using h2
 ·rw [Zb h]; simpa using h3
def cnt0:List (Int × Int):=[(13,1),(3,0),(2,0),(0,7),(14,0),(16,0),(2,0),(0,0),(14,0),(16,0),(2,0),(0,0),(14,0),(12,0)]
def cnt1:List (Int × Int):=[(2,0),(15,0),(1,0),(2,0),(0,1),(11,2),(15,0),(1,0),(0,99),(12,0),(0,5),(9,9)]
def cnt2:List (Int × Int):=[(2,0),(2,1),(4,0),(12,0)]
def cntL:List Fn:=[⟨0,1,cnt0⟩,⟨1,1,cnt1⟩,⟨2,2,cnt2⟩]
def CountAt (n0:Nat) (w:World) (v:Value):Prop :=
 ∃ b0 b1 b2 b,n0≤b0∧b0 < b1∧b1 < b2∧b2 < b∧v=.slice (some ⟨b,0,none⟩) 3 3∧w.heap[b0]?=some (.cells (flatOps cnt0).toArray 66)∧w.heap[b1]?=some (.cells (flatOps cnt1).toArray 66) ∧
  w.heap[b2]?=some (.cells (flatOps cnt2).toArray 66) ∧
  w.heap[b]?=some (.cells #[.int .i64 0,.int .i64 1,.slice (some ⟨b0,0,none⟩) 14 14,.int .i64 1,.int .i64 1,.slice (some ⟨b1,0,none⟩) 12 12,.int .i64 2,.int .i64 2,.slice (some ⟨b2,0,none⟩) 4 4] 70)
theorem CountAt.prog {n0:Nat} {w:World} {v:Value} (h:CountAt n0 w v):ProgAt w v cntL:=by
 obtain ⟨b0,b1,b2,b,_,_,_,_,rfl,h0,h1,h2,h3⟩:=h
 refine progAt_block h3 [(⟨0,1,cnt0⟩,.slice (some ⟨b0,0,none⟩) 14 14),(⟨1,1,cnt1⟩,.slice (some ⟨b1,0,none⟩) 12 12),(⟨2,2,cnt2⟩,.slice (some ⟨b2,0,none⟩) 4 4)] rfl (by simp) ?_ 3 3 rfl cntL rfl
 intro x hx
 simp only [List.mem_cons,List.not_mem_nil,or_false] at hx
 rcases hx with rfl | rfl | rfl
 ·exact codeAt_block h0 cnt0 rfl (by decide) 14 14 rfl
 ·exact codeAt_block h1 cnt1 rfl (by decide) 12 12 rfl
 ·exact codeAt_block h2 cnt2 rfl (by decide) 4 4 rfl
theorem may0_any (a:Int) (w:World) :
  Calls Tryz.prog 118 #[.int .i64 a] w fun e w'=>e=.returned (.bool (a == 0))∧w'=w:=by
 go_enter Tryz.func118,Tryz.ntmps118
 go_wp2
 go_ret
 exact ⟨rfl,rfl⟩
theorem may1_any (a:Int) (w:World) :
  Calls Tryz.prog 119 #[.int .i64 a] w fun e w'=>e=.returned (.bool (inB a 0 999))∧w'=w:=by
 by_cases h1:0≤a
 ·by_cases h2:a≤999
  ·rw [Qu h1 h2]
   go_enter Tryz.func119,Tryz.ntmps119
   go_wp2
   go_ret
   exact ⟨rfl,rfl⟩
  ·rw [Js (by omega)]
   go_enter Tryz.func119,Tryz.ntmps119
   go_wp2
   go_ret
   exact ⟨rfl,rfl⟩
 ·rw [Js (by omega)]
  go_enter Tryz.func119,Tryz.ntmps119
  go_wp2
  go_ret
  exact ⟨rfl,rfl⟩
theorem may2_any (a l:Int) (B:Nat) (w:World) (h:w.cell? ⟨B,1,none⟩=some (.int .i64 l)) :
  Calls Tryz.prog 120 #[.int .i64 a,.pointer (some ⟨B,0,none⟩)] w fun e w'=>e=.returned (.bool (ixB a l))∧w'=w:=by
 go_enter Tryz.func120,Tryz.ntmps120
 go_wp2_with (go_at_call 70; refine (Qe _ _ _).mono ?_; rintro e w' ⟨rfl,rfl⟩)
 go_ret
 exact ⟨rfl,rfl⟩
theorem may3_any (a:Int) (B:Nat) (oa:Option Addr) (n cap:Nat) (w:World) (h:w.cell? ⟨B,2,none⟩=some (.slice oa n cap)) :
  Calls Tryz.prog 121 #[.int .i64 a,.pointer (some ⟨B,0,none⟩)] w fun e w'=>e=.returned (.bool (ixB a n))∧w'=w:=by
 go_enter Tryz.func121,Tryz.ntmps121
 go_wp2_with (go_at_call 70; refine (Qe _ _ _).mono ?_; rintro e w' ⟨rfl,rfl⟩)
 go_ret
 exact ⟨rfl,rfl⟩
theorem may4_no (a:Int) (B:Nat) (oa:Option Addr) (n cap:Nat) (w:World) (h:w.cell? ⟨B,0,none⟩=some (.slice oa n cap)) (ha:ixB a n=false) :
  Calls Tryz.prog 122 #[.int .i64 a,.pointer (some ⟨B,0,none⟩)] w fun e w'=>e=.returned (.bool false)∧w'=w:=by
 go_enter Tryz.func122,Tryz.ntmps122
 go_wp2_with (go_at_call 70; refine (Qe _ _ _).mono ?_; rintro e w' ⟨rfl,rfl⟩)
 go_ret
 exact ⟨rfl,rfl⟩
theorem may4_yes (i B b o n cap:Nat) (ar lo:Int) (cv:Value) (w:World) (h:w.cell? ⟨B,0,none⟩=some (.slice (some ⟨b,o,none⟩) n cap)) (hi:i < n)
  (c0:w.cell? ⟨b,o + i * 3,none⟩=some (.int .i64 ar)) (c1:w.cell? ⟨b,o + i * 3 + 1,none⟩=some (.int .i64 lo)) (c2:w.cell? ⟨b,o + i * 3 + 2,none⟩=some cv) :
  Calls Tryz.prog 122 #[.int .i64 i,.pointer (some ⟨B,0,none⟩)] w fun e w'=>e=.returned (.bool (Xo ar lo))∧Kept w w':=by
 have ha:ixB i n=true:=Qf (by omega) (by omega)
 go_enter Tryz.func122,Tryz.ntmps122
 go_wp2_with (first | (go_at_call 70; refine (Qe _ _ _).mono ?_; rintro e w' ⟨rfl,rfl⟩) | (go_at_call 71; refine (hasRoom_any _ _ _ _).mono ?_; rintro e w' ⟨rfl,rfl⟩))
 go_ret
 exact ⟨rfl,(Kept.refl _).alloc _⟩
theorem may4_any (p:List Fn) (v:Value) (a:Int) (B:Nat) (w:World) (h:w.cell? ⟨B,0,none⟩=some v) (hp:ProgAt w v p) :
  Calls Tryz.prog 122 #[.int .i64 a,.pointer (some ⟨B,0,none⟩)] w fun e w'=>e=.returned (.bool (ixB a p.length && Xo (p.getD a.toNat Fn.zero).args (p.getD a.toNat Fn.zero).locals))∧Kept w w':=by
 obtain ⟨oa,cap,rfl,hl,hi⟩:=hp
 by_cases ha:0≤a∧a < p.length
 ·obtain ⟨i,rfl⟩:=Int.eq_ofNat_of_zero_le ha.1
  obtain ⟨b,o,cv,rfl,c0,c1,c2,_⟩:=hi i _ (Zm p i Fn.zero (by omega))
  rw [Int.toNat_natCast,Qf ha.1 ha.2,Bool.true_and]
  exact may4_yes i B b o p.length cap _ _ cv w h (by omega) c0 c1 c2
 ·rw [Jl ha,Bool.false_and]
  exact (may4_no a B oa p.length cap w h (Jl ha)).mono fun e w' ⟨h1,h2⟩=>⟨h1,h2 ▸ Kept.refl _⟩
def mayV (Bp Bf:Nat):Value:=.agg #[.func (.func 118) #[] #[],.func (.func 119) #[] #[],.func (.func 120) #[] #[.pointer (some ⟨Bf,0,none⟩)],.func (.func 121) #[] #[.pointer (some ⟨Bf,0,none⟩)],.func (.func 122) #[] #[.pointer (some ⟨Bp,0,none⟩)]]
theorem bounds_any (oa:Option Addr) (n cap:Nat) (ar lo:Int) (oc:Option Addr) (m cc:Nat) (w:World) :
  Calls Tryz.prog 72 #[.slice oa n cap,.agg #[.int .i64 ar,.int .i64 lo,.slice oc m cc]] w fun e w'=>∃ Bp Bf,e=.returned (mayV Bp Bf)∧w'.cell? ⟨Bp,0,none⟩=some (.slice oa n cap)∧w'.cell? ⟨Bf,1,none⟩=some (.int .i64 lo)∧w'.cell? ⟨Bf,2,none⟩=some (.slice oc m cc)∧Kept w w':=by
 go_enter Tryz.func72,Tryz.ntmps72
 go_wp2
 refine bodyPost_ret (v:=mayV w.heap.size (w.heap.size + 1)) (by simp [results,Tryz.results72,go_sem,mayV]) rfl ⟨w.heap.size,w.heap.size + 1,rfl,?_,?_,?_,?_⟩
 ·exact Zb (Zg (Zg (Zd rfl) _) _) 0
 ·exact Zb (Zg (Zd (by simp)) _) 1
 ·exact Zb (Zg (Zd (by simp)) _) 2
 ·exact (((Kept.refl _).alloc _).alloc _).alloc _
end Go.Proofs.YtblihfpigjiahaaGreatDoor
