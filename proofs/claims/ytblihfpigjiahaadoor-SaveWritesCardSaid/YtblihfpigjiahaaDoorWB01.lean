/- Plain, Keep, Mem, OpenG, Open, OpA, Blocks, OpE -/
import Derived.Below
import Derived.WalkKit
import Derived.WalkSmall
import Derived.BigQuiet
import Derived.Test.YtblihfpigjiahaaDoorRows
import Derived.ProofKit
import Derived.OpenShut
import Derived.Deep.Slices
import Derived.SizedLaws
import Derived.Deep.Strs
import Derived.Lib.LaidTab
import Derived.Test.YtblihfpigjiahaaDoorChecked
import Derived.Laws.EntriesVeiled
set_option maxRecDepth 100000
set_option maxHeartbeats 8000000
namespace Go.Proofs.YtblihfpigjiahaaDoor
structure Fn where
 args:Int
 locals:Int
 code:List (Int × Int)
def Fn.zero:Fn:=⟨0,0,[]⟩
def ixB (i n:Int):Bool:=decide (0≤i) && decide (i<n)
theorem Jr {i n:Int} (h:0≤i) (h':i<n):ixB i n=true:=by simp [ixB,h,h']
theorem Wy {i n:Int} (h:¬ (0≤i∧i<n)):ixB i n=false:=by
 unfold ixB;rw [Bool.and_eq_false_iff];simp only [decide_eq_false_iff_not];omega
theorem Jq {i n:Int}:ixB i n=true↔0≤i∧i<n:=by simp [ixB]
def inB (n low high:Int):Bool:=decide (low≤n) && decide (n≤high)
theorem Wl {n l h:Int} (h1:l≤n) (h2:n≤h):inB n l h=true:=by simp [inB,h1,h2]
theorem Pr {n l h:Int} (h':¬ (l≤n∧n≤h)):inB n l h=false:=by
 unfold inB;rw [Bool.and_eq_false_iff];simp only [decide_eq_false_iff_not];omega
theorem Zbb {n l h:Int}:inB n l h=true↔l≤n∧n≤h:=by simp [inB]
theorem Zgd (i n:Int):inB i 0 (n - 1)=ixB i n:=by
 rw [Bool.eq_iff_iff,Zbb,Jq];omega
def Qn (a l:Int):Bool:=decide (0≤a) && decide (a≤l) && decide (l≤4)
theorem Ws {a l:Int}:Qn a l=true↔0≤a∧a≤l∧l≤4:=by simp [Qn,and_assoc]
def ktab:List Int:=[0,1,1,1,0,0,0,1,2,1,0,2,2,1,0,2,1,0,2,1,0,2,1,0,2,1,0,0,0,3,1,0,3,0,1,4,1,0,0,0,1,4,2,1,0,1,1,0,1,0,0]
def tk (k:Nat):Int:=ktab.getD (k*3) 0
def lv (k:Nat):Int:=ktab.getD (k*3+1) 0
def opd (k:Nat):Int:=ktab.getD (k*3+2) 0
def Qr (p:List Fn) (kd a:Int):Int × Int × Int :=
 if 0≤kd∧kd<17 then
  if kd=11 then (if 0≤a∧a<p.length then ((p.getD a.toNat Fn.zero).args,1,0) else (0,0,5))
  else (tk kd.toNat,lv kd.toNat,0)
 else (0,0,4)
def Qm (p:List Fn) (f:Fn) (o a:Int):Bool :=
 if o=0 then decide (a=0) else if o=1 then inB a 0 999 else if o=2 then ixB a f.locals else if o=3 then ixB a f.code.length
 else ixB a p.length && Qn (p.getD a.toNat Fn.zero).args (p.getD a.toNat Fn.zero).locals
def opS (p:List Fn) (f:Fn) (x:Int × Int):Int :=
 if 0≤x.1∧x.1<17 then
  if Qm p f (opd x.1.toNat) x.2=true then (if x.1=13∧(p.getD x.2.toNat Fn.zero).args≠1 then 1 else 0) else 3
 else 4
def Wn (p:List Fn) (f:Fn):List (Int × Int)→Int
 | []=>0
 | x :: r=>if opS p f x=0 then Wn p f r else opS p f x
def Xv (p:List Fn) (f:Int):Int :=
 if 0≤f∧f<p.length then
  let g:=p.getD f.toNat Fn.zero
  if 24<g.code.length then 2 else if Qn g.args g.locals=true then Wn p g g.code else 3
 else 5
theorem Zq {α:Type} (l:List α) (i:Nat) (d:α) (h:i<l.length):l[i]?=some (l.getD i d):=by
 simp [List.getD,h]
open Go.RowKit
abbrev Zb (w w':World):Prop:=Below w.heap.size w w'
theorem Zb.refl (w:World):Zb w w:=Below.refl _ w
theorem Zb.trans {a b c:World} (h:Zb a b) (k:Zb b c):Zb a c:=Below.trans h (Below.mono k h.size)
theorem Zb.drew {a b:World} (h:Zb a b):Zb a b.drew:=Below.drew h
theorem Zb.alloc {a b:World} (h:Zb a b) (o:Obj):Zb a (b.alloc o):=Below.alloc h h.size o
theorem Zb.setCell {a b:World} (h:Zb a b) {p:Addr} (hp:a.heap.size≤p.block) (u:Value):Zb a (b.setCell p u):=Below.setCell h hp u
theorem Zb.drewN {a b:World} (h:Zb a b) (n:Nat):Zb a (b.drewN n):=below_drewN h n
theorem Xo {w:World} {p:Addr} {v:Value} (h:w.cell? p=some v):p.block<w.heap.size:=by
 unfold World.cell? at h
 split at h
 ·rename_i hb;exact (Array.getElem?_eq_some_iff.1 hb).1
 ·cases h
theorem Zb.cell {w w':World} (h:Zb w w') {p:Addr} {v:Value} (hc:w.cell? p=some v):w'.cell? p=some v :=
 (Below.cell h (Xo hc)).trans hc
theorem Za {p:Prop} (h:p):Hid p:=h
theorem un {p:Prop} (h:Hid p):p:=h
theorem Zg {w:World} {o:Obj} {b:Nat} (h:w.heap.size=b):(w.alloc o).heap[b]?=some o:=by
 subst h
 show (w.heap.push o)[w.heap.size]?=_
 simp
theorem Zr {w:World} {o:Obj} {b:Nat} (h:w.heap[b]?=some o) (o':Obj):(w.alloc o').heap[b]?=some o :=
 (Below.heap_alloc w o' b (Array.getElem?_eq_some_iff.1 h).1).trans h
theorem Zm {w w':World} (k:Zb w w') {o:Obj} {b:Nat} (h:w.heap[b]?=some o):w'.heap[b]?=some o :=
 (k.block b (Array.getElem?_eq_some_iff.1 h).1).trans h
theorem Xi {w:World} {o:Obj} {b:Nat} (h:w.heap[b]?=some o):w.drew.heap[b]?=some o:=h
theorem Zz {w:World} {o:Obj} {b:Nat} (h:w.heap[b]?=some o) {a:Addr} (hn:b≠a.block) (u:Value):(w.setCell a u).heap[b]?=some o :=
 (Below.heap_setCell w a u b hn).trans h
theorem Zd {w:World} {b:Nat} {c:Array Value} {t:TypeId} {fr:Nat × Nat} (h:w.heap[b]?=some (.cells c t fr)) (i:Nat):w.cell? ⟨b,i,none⟩=c[i]?:=by
 simp [World.cell?,h]
theorem Zl {w:World} {b:Nat} {c:Array Value} {t:TypeId} {fr:Nat × Nat} (h:w.heap[b]?=some (.cells c t fr)) (i:Nat) (u:Value):(w.setCell ⟨b,i,none⟩ u).heap[b]?=some (.cells (c.setIfInBounds i u) t fr):=by
 simp [World.setCell,Array.getElem?_modify,h]
theorem Zk {w:World} {b:Nat} {c:Array Value} {t:TypeId} (h:w.heap[b]?=some (.cells c t (0,0))) (i:Nat):w.frozen? ⟨b,i,none⟩=false:=by
 simp [World.frozen?,h]
structure Zn (B:Nat) (w w':World):Prop where
 os:w'.os=w.os
 tape:w'.tape=w.tape
 output:w'.output=w.output
 size:w.heap.size≤w'.heap.size
 block:∀ k,k<w.heap.size→k≠B→w'.heap[k]?=w.heap[k]?
theorem Zn.of {B:Nat} {w w':World} (h:Zb w w'):Zn B w w':=⟨h.os,h.tape,h.output,h.size,fun k hk _=>h.block k hk⟩
theorem Zn.refl (B:Nat) (w:World):Zn B w w:=.of (Zb.refl w)
theorem Zn.trans {B:Nat} {a b c:World} (h:Zn B a b) (k:Zn B b c):Zn B a c :=
 ⟨k.os.trans h.os,k.tape.trans h.tape,k.output.trans h.output,Nat.le_trans h.size k.size,fun i hi hn=>(k.block i (Nat.lt_of_lt_of_le hi h.size) hn).trans (h.block i hi hn)⟩
theorem Zn.alloc {B:Nat} {a b:World} (h:Zn B a b) (o:Obj):Zn B a (b.alloc o):=h.trans (.of ((Zb.refl _).alloc _))
theorem Zn.drew {B:Nat} {a b:World} (h:Zn B a b):Zn B a b.drew:=h.trans (.of (Zb.refl _).drew)
theorem Zn.setCell {B:Nat} {a b:World} (h:Zn B a b) {p:Addr} (hp:p.block=B∨a.heap.size≤p.block) (u:Value):Zn B a (b.setCell p u) :=
 ⟨h.os,h.tape,h.output,by simpa [World.setCell] using h.size,fun k hk hn=>(Below.heap_setCell _ _ _ _ (by omega)).trans (h.block k hk hn)⟩
theorem Zn.kept {B:Nat} {w0 w w':World} (h0:Zb w0 w) (hB:w0.heap.size≤B) (h:Zn B w w'):Zb w0 w' :=
 ⟨h.os.trans h0.os,h.tape.trans h0.tape,h.output.trans h0.output,Nat.le_trans h0.size h.size,fun k hk=>(h.block k (Nat.lt_of_lt_of_le hk h0.size) (by omega)).trans (h0.block k hk)⟩
theorem Zn.cell {B:Nat} {w w':World} (h:Zn B w w') {p:Addr} {v:Value} (hn:p.block≠B) (hc:w.cell? p=some v):w'.cell? p=some v :=
 (World.cell?_of_block (w:=w) (h.block p.block (Xo hc) hn)).trans hc
theorem Zn.frozen {B:Nat} {w w':World} (h:Zn B w w') {p:Addr} (hp:p.block<w.heap.size) (hn:p.block≠B):w'.frozen? p=w.frozen? p :=
 World.frozen?_of_block (w:=w) (h.block p.block hp hn)
theorem Zn.lays {B:Nat} {w w':World} (h:Zn B w w') {b:Nat} {o:Obj} (hn:b≠B) (hb:w.heap[b]?=some o):w'.heap[b]?=some o :=
 (h.block b (Array.getElem?_eq_some_iff.1 hb).1 hn).trans hb
def Xn (w:World) (v:Value) (l:List Int):Prop :=
 ∃ oa cap,v=.slice oa l.length cap∧l.length≤17592186043904∧∀ i z,l[i]?=some z→∃ b o,oa=some ⟨b,o,none⟩∧w.cell? ⟨b,o+i,none⟩=some (.int .i64 z)
theorem Xn.kept {w w':World} (h:Zb w w') {v:Value} {l:List Int} (hl:Xn w v l):Xn w' v l:=by
 obtain ⟨oa,cap,e,hn,hi⟩:=hl
 refine ⟨oa,cap,e,hn,fun i z hz=>?_⟩
 obtain ⟨b,o,e1,h1⟩:=hi i z hz
 exact ⟨b,o,e1,h.cell h1⟩
theorem Xn.nil (w:World):Xn w (.slice none 0 0) []:=⟨none,0,rfl,by simp,fun i z h=>by simp at h⟩
def Wf (w:World) (v:Value) (c:List (Int × Int)):Prop :=
 ∃ oa cap,v=.slice oa c.length cap∧c.length≤8796093022208∧∀ i x,c[i]?=some x→∃ b o,oa=some ⟨b,o,none⟩ ∧
  w.cell? ⟨b,o+i*2,none⟩=some (.int .i64 x.1)∧w.cell? ⟨b,o+i*2+1,none⟩=some (.int .i64 x.2)
def Zw (w:World) (v:Value) (p:List Fn):Prop :=
 ∃ oa cap,v=.slice oa p.length cap∧p.length≤8796093022208∧∀ i f,p[i]?=some f→∃ b o cv,oa=some ⟨b,o,none⟩ ∧
  w.cell? ⟨b,o+i*3,none⟩=some (.int .i64 f.args)∧w.cell? ⟨b,o+i*3+1,none⟩=some (.int .i64 f.locals) ∧
  w.cell? ⟨b,o+i*3+2,none⟩=some cv∧Wf w cv f.code
def Je (w:World):Prop:=∀ k,k<51→w.cell? ⟨0,k,none⟩=some (.int .i64 (ktab.getD k 0))
theorem Wf.kept {w w':World} (h:Zb w w') {v:Value} {c:List (Int × Int)} (hc:Wf w v c):Wf w' v c:=by
 obtain ⟨oa,cap,e,hl,hi⟩:=hc
 refine ⟨oa,cap,e,hl,fun i x hx=>?_⟩
 obtain ⟨b,o,e1,h1,h2⟩:=hi i x hx
 exact ⟨b,o,e1,h.cell h1,h.cell h2⟩
theorem Zw.kept {w w':World} (h:Zb w w') {v:Value} {p:List Fn} (hp:Zw w v p):Zw w' v p:=by
 obtain ⟨oa,cap,e,hl,hi⟩:=hp
 refine ⟨oa,cap,e,hl,fun i f hf=>?_⟩
 obtain ⟨b,o,cv,e1,h1,h2,h3,h4⟩:=hi i f hf
 exact ⟨b,o,cv,e1,h.cell h1,h.cell h2,h.cell h3,h4.kept h⟩
theorem Je.kept {w w':World} (h:Zb w w') (hk:Je w):Je w':=fun k hk'=>h.cell (hk k hk')
theorem Zw.lt {w:World} {v:Value} {p:List Fn} (hp:Zw w v p):p.length≤8796093022208:=by
 obtain ⟨_,_,_,h,_⟩:=hp;exact h
theorem Zqe {w:World} {b i B j:Nat} {v:Value} (h:w.cell? ⟨b,i,none⟩=some v) (hne:b≠B) (u:Value):(w.setCell ⟨B,j,none⟩ u).cell? ⟨b,i,none⟩=some v:=by
 rw [World.cell?_of_block (w:=w)]
 ·exact h
 ·exact Below.heap_setCell w _ _ _ hne
end Go.Proofs.YtblihfpigjiahaaDoor
namespace Go.Proofs.YtblihfpigjiahaaDoor
open Go.RowKit Go.ChangeShapes Go.WideShapes Go.ChangeAt
theorem own:ownKnob Tryd.prog.godebug=none:=by kernel_rfl
theorem Zwg:laidOutB Tryd.prog=true:=by kernel_rfl
theorem Uy:Tryd.prog.cellsOf 3=1:=by kernel_rfl
theorem Zdj:reachBytes=140737488351232:=rfl
section
variable {H:Type} {enc:TypeId × Value→H} {w:World} {base:Nat} {spare:Nat→Bool} {held:Bool}
theorem Zdy {a:Addr} {v:Value} (h:w.cell? a=some v):a.spot=none:=by
 unfold World.cell? at h
 split at h
 ·split at h
  ·cases h
  ·rename_i hs;simpa using hs
 ·cases h
theorem Us {a:Addr} (h:a.spot=none) (n:Nat):a.add n=⟨a.block,a.off+n,none⟩:=by
 unfold Addr.add
 split
 ·rename_i e;subst e;cases a;simp_all
 ·rfl
theorem Zen {P:Program} {e:TypeId}:∀ {l:List (DataW H)} {d:DataW H},d∈l→∀ n∈d.weights P e,n∈DataW.weightsAll P e l
 | d' :: r,d,hd,n,hn=>by
  simp only [DataW.weightsAll,List.mem_append]
  rcases List.mem_cons.1 hd with rfl | h
  ·exact Or.inl hn
  ·exact Or.inr (Zen h n hn)
end
theorem Zll {H:Type} {enc:TypeId × Value→H} {W W':World} (hb:Zb W W'):∀ {ts:List TypeId} {vs:List Value} {ds:List (DataW H)} {ps:List MemPlace},(∀ t,t∈ts→Tryd.prog.readableRec t=true∧t<Tryd.prog.types.size) →
  DataW.TrodAll enc Tryd.prog W 0 (fun _=>true) true ts vs ds ps→(∀ x,x∈ps→x.block<W.heap.size)→DataW.TrodAll enc Tryd.prog W' 0 (fun b=>decide (b<W.heap.size)) true ts vs ds ps
 | [],vs,ds,ps,_,h,_=>by
  obtain ⟨rfl,rfl,rfl⟩:=trodAll_nil h
  exact trodAll_mk0
 | t :: ts,vs,ds,ps,hr,h,hl=>by
  obtain ⟨v,vs',d,ds',p,q,rfl,rfl,rfl,h0,h1⟩:=trodAll_cons h
  obtain ⟨r1,r2⟩:=hr t (by simp)
  exact trodAll_cons_mk (Below.trod Zwg r1 r2 h0 hb (fun x hx=>hl x (by simp [hx]))) (Zll hb (fun t ht=>hr t (by simp [ht])) h1 (fun x hx=>hl x (by simp [hx])))
end Go.Proofs.YtblihfpigjiahaaDoor
namespace Go.Proofs.YtblihfpigjiahaaDoor
open Go.RowKit Go.ChangeShapes Go.WideShapes Go.ChangeAt
theorem Zmz:Tryd.prog.cellsOf 86=2:=by kernel_rfl
theorem Zwv:Tryd.prog.cellsOf 56=1:=by kernel_rfl
theorem Zoi:Tryd.prog.cellsOf 58=3:=by kernel_rfl
theorem Zre:Tryd.prog.cellsOf 118=3:=by kernel_rfl
theorem Zos:Tryd.prog.bytesOf 86=16:=by kernel_rfl
theorem Zvi:Tryd.prog.bytesOf 58=40:=by kernel_rfl
theorem typeOp:∃ f0 f1:Field,Tryd.prog.underlying 86=some (.struct #[f0,f1])∧f0.type=3∧f0.offset=0∧f1.type=3∧f1.offset=1:=⟨_,_,Tryd.underlying86,rfl,rfl,rfl,rfl⟩
theorem Xbo:∃ f0 f1 f2:Field,Tryd.prog.underlying 58=some (.struct #[f0,f1,f2])∧f0.type=3∧f0.offset=0∧f1.type=3∧f1.offset=1∧f2.type=56∧f2.offset=2:=⟨_,_,_,Tryd.underlying58,rfl,rfl,rfl,rfl,rfl,rfl⟩
theorem Zqq:∃ f0 f1 f2:Field,Tryd.prog.underlying 118=some (.struct #[f0,f1,f2])∧f0.type=3∧f0.offset=0∧f1.type=3∧f1.offset=1∧f2.type=3∧f2.offset=2:=⟨_,_,_,Tryd.underlying118,rfl,rfl,rfl,rfl,rfl,rfl⟩
section
variable {H:Type} {enc:TypeId × Value→H} {w:World} {base:Nat} {spare:Nat→Bool} {held:Bool}
theorem Zte {fuel:Nat} {cs:List Value} {x:DataW H × List MemPlace} (h:DataW.trod enc Tryd.prog w base spare held fuel 86 cs=some x) :
  ∃ k a:Int,cs=[.int .i64 k,.int .i64 a]∧x=(.agg [.lit (.int .i64 k),.lit (.int .i64 a)],[])∧(Lit.int .i64 k).wf=true∧(Lit.int .i64 a).wf=true:=by
 obtain ⟨f0,f1,hu,t0,o0,t1,o1⟩:=typeOp
 obtain ⟨y0,y1,n,hx,hl,h0,h1⟩:=trod_struct2 hu h
 rw [t0,o0,Uy] at h0
 rw [t1,o1,Uy] at h1
 obtain ⟨k,e0,r0,w0⟩:=DataW.trod_int Tryd.underlying3 h0
 obtain ⟨a,e1,r1,w1⟩:=DataW.trod_int Tryd.underlying3 h1
 rw [Zmz] at hl
 match cs,hl with
 | [c0,c1],_ =>
  simp at e0 e1
  subst e0 e1
  subst r0 r1
  exact ⟨k,a,rfl,by simpa using hx,w0,w1⟩
theorem Zog {fuel:Nat} {v:Value} {x:DataW H × List MemPlace} (h:DataW.trod enc Tryd.prog w base spare held fuel 56 [v]=some x) (hw:∀ n,n∈x.1.weights Tryd.prog 56→n≤reachBytes):∃ c,Wf w v c:=by
 rcases Deep.open_slice Tryd.underlying56 h with ⟨e,_⟩ | ⟨a,len,cap,m,n,D,Pl,e,_,hlc,_,hm,hx,hi⟩
 ·simp at e
  subst e
  exact ⟨[],none,0,rfl,by simp,fun i x h=>by simp at h⟩
 ·simp at e
  subst e
  have hlm:len≤m:=by rw [hm];split <;> omega
  have hlen:len*16≤140737488351232:=by
   have:=hw ((((List.range len).map D).length+((List.range (m - len)).map fun j=>D (len+j)).length)*Tryd.prog.bytesOf 86) (by rw [hx];simp [DataW.weights,Tryd.underlying56])
   rw [Zos,Zdj] at this
   simp at this
   omega
  have hall:∀ i,i<len→∃ y:Int × Int,w.cell? (a.add (i*2))=some (.int .i64 y.1)∧w.cell? (a.add (i*2+1))=some (.int .i64 y.2):=by
   intro i hil
   obtain ⟨cs',hc,ht⟩:=hi i (by omega)
   rw [Zmz] at hc
   obtain ⟨_,_,hcell⟩:=World.cells?_some hc
   obtain ⟨k,av,rfl,_⟩:=Zte ht
   refine ⟨(k,av),?_,?_⟩
   ·have:=hcell 0 (by omega);rw [Deep.add_add] at this;simpa using this
   ·have:=hcell 1 (by omega);rw [Deep.add_add] at this;simpa using this
  obtain ⟨g,hg⟩:=Deep.choose_lt hall
  refine ⟨(List.range len).map g,some a,cap,by simp,by simp;omega,fun i y hy=>?_⟩
  rw [List.getElem?_map,Option.map_eq_some_iff] at hy
  obtain ⟨j,hj,rfl⟩:=hy
  have hjl:i<len:=by simpa using (List.getElem?_eq_some_iff.1 hj).1
  obtain rfl:i=j:=by simpa [hjl] using hj
  have hs:a.spot=none:=by
   have:=(hg 0 (by omega)).1
   simp only [Nat.zero_mul] at this
   exact Zdy (by simpa [Addr.add] using this)
  refine ⟨a.block,a.off,by cases a;simp_all,?_,?_⟩
  ·have:=(hg i hjl).1;rwa [Us hs] at this
  ·have:=(hg i hjl).2;rwa [Us hs,← Nat.add_assoc] at this
theorem Zol {fuel:Nat} {v:Value} {x:DataW H × List MemPlace} (h:DataW.trod enc Tryd.prog w base spare held fuel 22 [v]=some x) (hw:∀ n,n∈x.1.weights Tryd.prog 22→n≤reachBytes):∃ p,Zw w v p:=by
 rcases Deep.open_slice Tryd.underlying22 h with ⟨e,_⟩ | ⟨a,len,cap,m,n,D,Pl,e,_,hlc,_,hm,hx,hi⟩
 ·simp at e
  subst e
  exact ⟨[],none,0,rfl,by simp,fun i x h=>by simp at h⟩
 ·simp at e
  subst e
  have hlm:len≤m:=by rw [hm];split <;> omega
  have hlen:len*40≤140737488351232:=by
   have:=hw ((((List.range len).map D).length+((List.range (m - len)).map fun j=>D (len+j)).length)*Tryd.prog.bytesOf 58) (by rw [hx];simp [DataW.weights,Tryd.underlying22])
   rw [Zvi,Zdj] at this
   simp at this
   omega
  have hall:∀ i,i<len→∃ y:Fn × Value,w.cell? (a.add (i*3))=some (.int .i64 y.1.args)∧w.cell? (a.add (i*3+1))=some (.int .i64 y.1.locals)∧w.cell? (a.add (i*3+2))=some y.2∧Wf w y.2 y.1.code:=by
   intro i hil
   obtain ⟨cs',hc,ht⟩:=hi i (by omega)
   rw [Zoi] at hc
   obtain ⟨_,hcl,hcell⟩:=World.cells?_some hc
   obtain ⟨f0,f1,f2,hu,t0,o0,t1,o1,t2,o2⟩:=Xbo
   obtain ⟨y0,y1,y2,n',hy,_,g0,g1,g2⟩:=Deep.trod_struct3 hu ht
   rw [t0,o0,Uy] at g0
   rw [t1,o1,Uy] at g1
   rw [t2,o2,Zwv] at g2
   obtain ⟨ar,e0,r0,_⟩:=DataW.trod_int Tryd.underlying3 g0
   obtain ⟨lo,e1,r1,_⟩:=DataW.trod_int Tryd.underlying3 g1
   match cs',hcl with
   | [c0,c1,c2],_ =>
    simp at e0 e1
    subst e0 e1
    simp only [List.drop,List.take] at g2
    have hD:D i=.agg [y0.1,y1.1,y2.1]:=congrArg Prod.fst hy
    obtain ⟨c,hcode⟩:=Zog g2 (fun q hq=>hw q (by
     rw [hx]
     simp only [DataW.weights,Tryd.underlying22,List.mem_cons,List.mem_append]
     refine Or.inr (Or.inl (Zen (d:=D i) (List.mem_map.2 ⟨i,by simpa using hil,rfl⟩) q ?_))
     rw [hD]
     simp only [DataW.weights,hu,DataW.weightsEach,List.map_cons,List.map_nil,t0,t1,t2,List.mem_append]
     exact Or.inr (Or.inr (Or.inl hq))))
    refine ⟨(⟨ar,lo,c⟩,c2),?_,?_,?_,hcode⟩
    ·have:=hcell 0 (by omega);rw [Deep.add_add] at this;simpa using this
    ·have:=hcell 1 (by omega);rw [Deep.add_add] at this;simpa using this
    ·have:=hcell 2 (by omega);rw [Deep.add_add] at this;simpa using this
  have:Inhabited (Fn × Value):=⟨(Fn.zero,.nilIface)⟩
  obtain ⟨g,hg⟩:=Deep.choose_lt hall
  refine ⟨(List.range len).map fun i=>(g i).1,some a,cap,by simp,by simp;omega,fun i y hy=>?_⟩
  rw [List.getElem?_map,Option.map_eq_some_iff] at hy
  obtain ⟨j,hj,rfl⟩:=hy
  have hjl:i<len:=by simpa using (List.getElem?_eq_some_iff.1 hj).1
  obtain rfl:i=j:=by simpa [hjl] using hj
  have hs:a.spot=none:=by
   have:=(hg 0 (by omega)).1
   simp only [Nat.zero_mul] at this
   exact Zdy (by simpa [Addr.add] using this)
  obtain ⟨k0,k1,k2,k3⟩:=hg i hjl
  refine ⟨a.block,a.off,(g i).2,by cases a;simp_all,?_,?_,?_,k3⟩
  ·rwa [Us hs] at k0
  ·rwa [Us hs,← Nat.add_assoc] at k1
  ·rwa [Us hs,← Nat.add_assoc] at k2
end
theorem Zlf : Tryd.prog.globalNamed "glebe/op.kinds" = some 0 := by kernel_rfl
theorem Zow:(Tryd.prog.globals[0]?).map (·.type)=some 119:=by kernel_rfl
theorem Zrt {H:Type} (i:Nat) (h:i<17):([.agg [.lit (.int .i64 0),.lit (.int .i64 1),.lit (.int .i64 1)],.agg [.lit (.int .i64 1),.lit (.int .i64 0),.lit (.int .i64 0)],.agg [.lit (.int .i64 0),.lit (.int .i64 1),.lit (.int .i64 2)],.agg [.lit (.int .i64 1),.lit (.int .i64 0),.lit (.int .i64 2)],.agg [.lit (.int .i64 2),.lit (.int .i64 1),.lit (.int .i64 0)],.agg [.lit (.int .i64 2),.lit (.int .i64 1),.lit (.int .i64 0)],.agg [.lit (.int .i64 2),.lit (.int .i64 1),.lit (.int .i64 0)],.agg [.lit (.int .i64 2),.lit (.int .i64 1),.lit (.int .i64 0)],.agg [.lit (.int .i64 2),.lit (.int .i64 1),.lit (.int .i64 0)],.agg [.lit (.int .i64 0),.lit (.int .i64 0),.lit (.int .i64 3)],.agg [.lit (.int .i64 1),.lit (.int .i64 0),.lit (.int .i64 3)],.agg [.lit (.int .i64 0),.lit (.int .i64 1),.lit (.int .i64 4)],.agg [.lit (.int .i64 1),.lit (.int .i64 0),.lit (.int .i64 0)],.agg [.lit (.int .i64 0),.lit (.int .i64 1),.lit (.int .i64 4)],.agg [.lit (.int .i64 2),.lit (.int .i64 1),.lit (.int .i64 0)],.agg [.lit (.int .i64 1),.lit (.int .i64 1),.lit (.int .i64 0)],.agg [.lit (.int .i64 1),.lit (.int .i64 0),.lit (.int .i64 0)]]:List (DataW H))[i]?=some (.agg [.lit (.int .i64 (tk i)),.lit (.int .i64 (lv i)),.lit (.int .i64 (opd i))]):=by
 have:i=0∨i=1∨i=2∨i=3∨i=4∨i=5∨i=6∨i=7∨i=8∨i=9∨i=10∨i=11∨i=12∨i=13∨i=14∨i=15∨i=16:=by omega
 rcases this with rfl | rfl | rfl | rfl | rfl | rfl | rfl | rfl | rfl | rfl | rfl | rfl | rfl | rfl | rfl | rfl | rfl <;> rfl
theorem Zwb {W : World} (h : laidMetH Tryd.prog [("glebe/op.kinds", Rows.laid_glebe_op_kinds)] W) : Je W := by
 obtain ⟨ps, ⟨g', t', cs, fuel, p, q, hg', ht', hvar, hd, _, _⟩, _⟩ := (h : laidMet Tryd.prog [("glebe/op.kinds", Rows.laid_glebe_op_kinds)] W)
 obtain rfl:=Option.some.inj (Zlf.symm.trans hg')
 obtain rfl:=Option.some.inj (Zow.symm.trans ht')
 obtain ⟨xs,m,_,hx,_,hxl,hi⟩:=DataW.trod_array Tryd.underlying119 hd
 have hagg:(Rows.laid_glebe_op_kinds:DataW Unit)=.agg (xs.map (·.1)):=congrArg Prod.fst hx
 have hl:∀ i,i<17→(xs[i]?).map (·.1)=some (.agg [.lit (.int .i64 (tk i)),.lit (.int .i64 (lv i)),.lit (.int .i64 (opd i))]):=by
  intro i hi17
  rw [← List.getElem?_map,← Zrt i hi17]
  unfold Rows.laid_glebe_op_kinds at hagg
  rw [← DataW.agg.inj hagg]
 have hc:∀ i,i<17→cs[i*3]?=some (.int .i64 (tk i))∧cs[i*3+1]?=some (.int .i64 (lv i))∧cs[i*3+2]?=some (.int .i64 (opd i)):=by
  intro i hi17
  have h1:=hi i hi17
  obtain ⟨x,hxi,hx1⟩:=Option.map_eq_some_iff.1 (hl i hi17)
  rw [hxi,Zre] at h1
  obtain ⟨f0,f1,f2,hu,t0,o0,t1,o1,t2,o2⟩:=Zqq
  obtain ⟨y0,y1,y2,n',hy,_,g0,g1,g2⟩:=Deep.trod_struct3 hu h1
  rw [t0,o0,Uy] at g0
  rw [t1,o1,Uy] at g1
  rw [t2,o2,Uy] at g2
  obtain ⟨z0,e0,r0,_⟩:=DataW.trod_int Tryd.underlying3 g0
  obtain ⟨z1,e1,r1,_⟩:=DataW.trod_int Tryd.underlying3 g1
  obtain ⟨z2,e2,r2,_⟩:=DataW.trod_int Tryd.underlying3 g2
  rw [hy,r0,r1,r2] at hx1
  simp at hx1
  obtain ⟨rfl,rfl,rfl⟩:=hx1
  refine ⟨?_,?_,?_⟩
  ·have:=congrArg (·[0]?) e0
   simpa [List.getElem?_take,List.getElem?_drop] using this
  ·have:=congrArg (·[0]?) e1
   simpa [List.getElem?_take,List.getElem?_drop,Nat.add_comm,Nat.add_left_comm] using this
  ·have:=congrArg (·[0]?) e2
   simpa [List.getElem?_take,List.getElem?_drop,Nat.add_comm,Nat.add_left_comm] using this
 intro k hk
 rw [World.var?_cell Zlf hvar k]
 obtain ⟨h0,h1,h2⟩:=hc (k / 3) (by omega)
 have:k=k / 3*3∨k=k / 3*3+1∨k=k / 3*3+2:=by omega
 rcases this with e | e | e
 ·rw [e,h0];unfold tk;rw [← e]
 ·rw [e,h1];unfold lv;rw [← e]
 ·rw [e,h2];unfold opd;rw [← e]
end Go.Proofs.YtblihfpigjiahaaDoor
namespace Go.Proofs.YtblihfpigjiahaaDoor
open Go.RowKit
theorem Jn (i n:Int) (w:World) :
  Calls Tryd.prog 59 #[.int .i64 i,.int .i64 n] w fun e w'=>e=.returned (.bool (ixB i n))∧w=w':=by
 by_cases h1:0≤i
 ·by_cases h2:i<n
  ·rw [Jr h1 h2]
   go_enter Tryd.func59,Tryd.ntmps59
   go_wp2
   go_ret
   exact ⟨rfl,rfl⟩
  ·rw [Wy (by omega)]
   go_enter Tryd.func59,Tryd.ntmps59
   go_wp2
   go_ret
   exact ⟨rfl,rfl⟩
 ·rw [Wy (by omega)]
  go_enter Tryd.func59,Tryd.ntmps59
  go_wp2
  go_ret
  exact ⟨rfl,rfl⟩
theorem Ziq (a l:Int) (c:Value) (w:World) :
  Calls Tryd.prog 60 #[.agg #[.int .i64 a,.int .i64 l,c]] w fun e w'=>e=.returned (.bool (Qn a l))∧w'=w.alloc (.cells #[.int .i64 a,.int .i64 l,c] 58):=by
 by_cases h1:0≤a
 ·by_cases h2:a≤l
  ·by_cases h3:l≤4
   ·rw [show Qn a l=true from by rw [Ws];exact ⟨h1,h2,h3⟩]
    go_enter Tryd.func60,Tryd.ntmps60
    go_wp2
    go_ret
    exact ⟨rfl,rfl⟩
   ·rw [show Qn a l=false from by rw [← Bool.not_eq_true,Ws];omega]
    go_enter Tryd.func60,Tryd.ntmps60
    go_wp2
    go_ret
    exact ⟨rfl,rfl⟩
  ·rw [show Qn a l=false from by rw [← Bool.not_eq_true,Ws];omega]
   go_enter Tryd.func60,Tryd.ntmps60
   go_wp2
   go_ret
   exact ⟨rfl,rfl⟩
 ·rw [show Qn a l=false from by rw [← Bool.not_eq_true,Ws];omega]
  go_enter Tryd.func60,Tryd.ntmps60
  go_wp2
  go_ret
  exact ⟨rfl,rfl⟩
def Pi (c:List (Int × Int)):List Value:=c.flatMap fun x=>[.int .i64 x.1,.int .i64 x.2]
theorem Zfw:∀ (c:List (Int × Int)) (i:Nat) (x:Int × Int),c[i]?=some x→(Pi c)[i*2]?=some (.int .i64 x.1)∧(Pi c)[i*2+1]?=some (.int .i64 x.2)
 | [],i,x,h=>by simp at h
 | y :: c,0,x,h=>by simp at h;subst h;simp [Pi]
 | y :: c,i+1,x,h=>by
  have:=Zfw c i x (by simpa using h)
  have e:Pi (y :: c)=.int .i64 y.1 :: .int .i64 y.2 :: Pi c:=by simp [Pi]
  rw [e,show (i+1)*2=i*2+1+1 by omega]
  simpa using this
theorem Zhn {w:World} {b:Nat} {A:Array Value} {t:TypeId} {fr:Nat × Nat} (h:w.heap[b]?=some (.cells A t fr)) (c:List (Int × Int)) (hA:A=(Pi c).toArray) (hl:c.length≤8796093022208) (n cap:Nat) (hn:n=c.length) :
  Wf w (.slice (some ⟨b,0,none⟩) n cap) c:=by
 subst hn hA
 refine ⟨_,_,rfl,hl,fun i x hx=>⟨b,0,rfl,?_,?_⟩⟩
 ·rw [Zd h];simpa using (Zfw c i x hx).1
 ·rw [Zd h];simpa using (Zfw c i x hx).2
def Uo (l:List (Fn × Value)):List Value:=l.flatMap fun x=>[.int .i64 x.1.args,.int .i64 x.1.locals,x.2]
theorem Zhu:∀ (l:List (Fn × Value)) (i:Nat) (x:Fn × Value),l[i]?=some x→(Uo l)[i*3]?=some (.int .i64 x.1.args)∧(Uo l)[i*3+1]?=some (.int .i64 x.1.locals)∧(Uo l)[i*3+2]?=some x.2
 | [],i,x,h=>by simp at h
 | y :: c,0,x,h=>by simp at h;subst h;simp [Uo]
 | y :: c,i+1,x,h=>by
  have:=Zhu c i x (by simpa using h)
  have e:Uo (y :: c)=.int .i64 y.1.args :: .int .i64 y.1.locals :: y.2 :: Uo c:=by simp [Uo]
  rw [e,show (i+1)*3=i*3+1+1+1 by omega]
  simpa using this
theorem Zvn {w:World} {b:Nat} {A:Array Value} {t:TypeId} {fr:Nat × Nat} (h:w.heap[b]?=some (.cells A t fr)) (l:List (Fn × Value)) (hA:A=(Uo l).toArray) (hl:l.length≤8796093022208)
  (hc:∀ x,x∈l→Wf w x.2 x.1.code) (n cap:Nat) (hn:n=l.length) (p:List Fn) (hp:p=l.map (·.1)):Zw w (.slice (some ⟨b,0,none⟩) n cap) p:=by
 subst hn hA hp
 refine ⟨_,cap,by rw [List.length_map],by simpa using hl,fun i f hf=>?_⟩
 rw [List.getElem?_map,Option.map_eq_some_iff] at hf
 obtain ⟨x,hx,rfl⟩:=hf
 obtain ⟨h1,h2,h3⟩:=Zhu l i x hx
 refine ⟨b,0,x.2,rfl,?_,?_,?_,hc x (List.mem_of_getElem? hx)⟩
 ·rw [Zd h];simpa using h1
 ·rw [Zd h];simpa using h2
 ·rw [Zd h];simpa using h3
def cnt0:List (Int × Int):=[(13,1),(3,0),(2,0),(0,7),(14,0),(16,0),(2,0),(0,0),(14,0),(16,0),(2,0),(0,0),(14,0),(12,0)]
def cnt1:List (Int × Int):=[(2,0),(15,0),(1,0),(2,0),(0,1),(11,2),(15,0),(1,0),(0,99),(12,0),(0,5),(9,9)]
def cnt2:List (Int × Int):=[(2,0),(2,1),(4,0),(12,0)]
def Jw:List Fn:=[⟨0,1,cnt0⟩,⟨1,1,cnt1⟩,⟨2,2,cnt2⟩]
def Zcv (n0:Nat) (w:World) (v:Value):Prop :=
 ∃ b0 b1 b2 b,n0≤b0∧b0<b1∧b1<b2∧b2<b∧v=.slice (some ⟨b,0,none⟩) 3 3∧w.heap[b0]?=some (.cells (Pi cnt0).toArray 86)∧w.heap[b1]?=some (.cells (Pi cnt1).toArray 86) ∧
  w.heap[b2]?=some (.cells (Pi cnt2).toArray 86) ∧
  w.heap[b]?=some (.cells #[.int .i64 0,.int .i64 1,.slice (some ⟨b0,0,none⟩) 14 14,.int .i64 1,.int .i64 1,.slice (some ⟨b1,0,none⟩) 12 12,.int .i64 2,.int .i64 2,.slice (some ⟨b2,0,none⟩) 4 4] 58)
theorem Zcv.prog {n0:Nat} {w:World} {v:Value} (h:Zcv n0 w v):Zw w v Jw:=by
 obtain ⟨b0,b1,b2,b,_,_,_,_,rfl,h0,h1,h2,h3⟩:=h
 refine Zvn h3 [(⟨0,1,cnt0⟩,.slice (some ⟨b0,0,none⟩) 14 14),(⟨1,1,cnt1⟩,.slice (some ⟨b1,0,none⟩) 12 12),(⟨2,2,cnt2⟩,.slice (some ⟨b2,0,none⟩) 4 4)] rfl (by simp) ?_ 3 3 rfl Jw rfl
 intro x hx
 simp only [List.mem_cons,List.not_mem_nil,or_false] at hx
 rcases hx with rfl | rfl | rfl
 ·exact Zhn h0 cnt0 rfl (by decide) 14 14 rfl
 ·exact Zhn h1 cnt1 rfl (by decide) 12 12 rfl
 ·exact Zhn h2 cnt2 rfl (by decide) 4 4 rfl
theorem Xaz (a:Int) (w:World) :
  Calls Tryd.prog 76 #[.int .i64 a] w fun e w'=>e=.returned (.bool (a == 0))∧w'=w:=by
 go_enter Tryd.func76,Tryd.ntmps76
 go_wp2
 go_ret
 exact ⟨rfl,rfl⟩
theorem Xbr (a:Int) (w:World) :
  Calls Tryd.prog 77 #[.int .i64 a] w fun e w'=>e=.returned (.bool (inB a 0 999))∧w'=w:=by
 by_cases h1:0≤a
 ·by_cases h2:a≤999
  ·rw [Wl h1 h2]
   go_enter Tryd.func77,Tryd.ntmps77
   go_wp2
   go_ret
   exact ⟨rfl,rfl⟩
  ·rw [Pr (by omega)]
   go_enter Tryd.func77,Tryd.ntmps77
   go_wp2
   go_ret
   exact ⟨rfl,rfl⟩
 ·rw [Pr (by omega)]
  go_enter Tryd.func77,Tryd.ntmps77
  go_wp2
  go_ret
  exact ⟨rfl,rfl⟩
theorem Zox (a l:Int) (B:Nat) (w:World) (h:w.cell? ⟨B,1,none⟩=some (.int .i64 l)) :
  Calls Tryd.prog 78 #[.int .i64 a,.pointer (some ⟨B,0,none⟩)] w fun e w'=>e=.returned (.bool (ixB a l))∧w'=w:=by
 go_enter Tryd.func78,Tryd.ntmps78
 go_wp2_with (go_at_call 59;refine (Jn _ _ _).mono ?_;rintro e w' ⟨rfl,rfl⟩)
 go_ret
 exact ⟨rfl,rfl⟩
theorem Zzz (a:Int) (B:Nat) (oa:Option Addr) (n cap:Nat) (w:World) (h:w.cell? ⟨B,2,none⟩=some (.slice oa n cap)) :
  Calls Tryd.prog 79 #[.int .i64 a,.pointer (some ⟨B,0,none⟩)] w fun e w'=>e=.returned (.bool (ixB a n))∧w'=w:=by
 go_enter Tryd.func79,Tryd.ntmps79
 go_wp2_with (go_at_call 59;refine (Jn _ _ _).mono ?_;rintro e w' ⟨rfl,rfl⟩)
 go_ret
 exact ⟨rfl,rfl⟩
theorem Xag (a:Int) (B:Nat) (oa:Option Addr) (n cap:Nat) (w:World) (h:w.cell? ⟨B,0,none⟩=some (.slice oa n cap)) (ha:ixB a n=false) :
  Calls Tryd.prog 80 #[.int .i64 a,.pointer (some ⟨B,0,none⟩)] w fun e w'=>e=.returned (.bool false)∧w'=w:=by
 go_enter Tryd.func80,Tryd.ntmps80
 go_wp2_with (go_at_call 59;refine (Jn _ _ _).mono ?_;rintro e w' ⟨rfl,rfl⟩)
 go_ret
 exact ⟨rfl,rfl⟩
theorem Ztz (i B b o n cap:Nat) (ar lo:Int) (cv:Value) (w:World) (h:w.cell? ⟨B,0,none⟩=some (.slice (some ⟨b,o,none⟩) n cap)) (hi:i<n)
  (c0:w.cell? ⟨b,o+i*3,none⟩=some (.int .i64 ar)) (c1:w.cell? ⟨b,o+i*3+1,none⟩=some (.int .i64 lo)) (c2:w.cell? ⟨b,o+i*3+2,none⟩=some cv) :
  Calls Tryd.prog 80 #[.int .i64 i,.pointer (some ⟨B,0,none⟩)] w fun e w'=>e=.returned (.bool (Qn ar lo))∧Zb w w':=by
 have ha:ixB i n=true:=Jr (by omega) (by omega)
 go_enter Tryd.func80,Tryd.ntmps80
 go_wp2_with (first | (go_at_call 59;refine (Jn _ _ _).mono ?_;rintro e w' ⟨rfl,rfl⟩) | (go_at_call 60;refine (Ziq _ _ _ _).mono ?_;rintro e w' ⟨rfl,rfl⟩))
 go_ret
 exact ⟨rfl,(Zb.refl _).alloc _⟩
theorem Zkr (p:List Fn) (v:Value) (a:Int) (B:Nat) (w:World) (h:w.cell? ⟨B,0,none⟩=some v) (hp:Zw w v p) :
  Calls Tryd.prog 80 #[.int .i64 a,.pointer (some ⟨B,0,none⟩)] w fun e w'=>e=.returned (.bool (ixB a p.length && Qn (p.getD a.toNat Fn.zero).args (p.getD a.toNat Fn.zero).locals))∧Zb w w':=by
 obtain ⟨oa,cap,rfl,hl,hi⟩:=hp
 by_cases ha:0≤a∧a<p.length
 ·obtain ⟨i,rfl⟩:=Int.eq_ofNat_of_zero_le ha.1
  obtain ⟨b,o,cv,rfl,c0,c1,c2,_⟩:=hi i _ (Zq p i Fn.zero (by omega))
  rw [Int.toNat_natCast,Jr ha.1 ha.2,Bool.true_and]
  exact Ztz i B b o p.length cap _ _ cv w h (by omega) c0 c1 c2
 ·rw [Wy ha,Bool.false_and]
  exact (Xag a B oa p.length cap w h (Wy ha)).mono fun e w' ⟨h1,h2⟩=>⟨h1,h2 ▸ Zb.refl _⟩
def Qy (Bp Bf:Nat):Value:=.agg #[.func (.func 76) #[] #[],.func (.func 77) #[] #[],.func (.func 78) #[] #[.pointer (some ⟨Bf,0,none⟩)],.func (.func 79) #[] #[.pointer (some ⟨Bf,0,none⟩)],.func (.func 80) #[] #[.pointer (some ⟨Bp,0,none⟩)]]
theorem Zpd (oa:Option Addr) (n cap:Nat) (ar lo:Int) (oc:Option Addr) (m cc:Nat) (w:World) :
  Calls Tryd.prog 61 #[.slice oa n cap,.agg #[.int .i64 ar,.int .i64 lo,.slice oc m cc]] w fun e w'=>∃ Bp Bf,e=.returned (Qy Bp Bf)∧w'.cell? ⟨Bp,0,none⟩=some (.slice oa n cap)∧w'.cell? ⟨Bf,1,none⟩=some (.int .i64 lo)∧w'.cell? ⟨Bf,2,none⟩=some (.slice oc m cc)∧Zb w w':=by
 go_enter Tryd.func61,Tryd.ntmps61
 go_wp2
 refine bodyPost_ret (v:=Qy w.heap.size (w.heap.size+1)) (by simp [results,Tryd.results61,go_sem,Qy]) rfl ⟨w.heap.size,w.heap.size+1,rfl,?_,?_,?_,?_⟩
 ·exact Zd (Zr (Zr (Zg rfl) _) _) 0
 ·exact Zd (Zr (Zg (by simp)) _) 1
 ·exact Zd (Zr (Zg (by simp)) _) 2
 ·exact (((Zb.refl _).alloc _).alloc _).alloc _
end Go.Proofs.YtblihfpigjiahaaDoor
