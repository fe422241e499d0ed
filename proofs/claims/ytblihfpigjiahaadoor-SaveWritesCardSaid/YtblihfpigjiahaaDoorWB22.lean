/- StateO, StX, StXr, StepBgW, StepW, OwnD, OwnE, StepS, OkP, DoAt, StateTq -/
import Derived.Test.YtblihfpigjiahaaDoorWB21
import Derived.Test.YtblihfpigjiahaaDoorWB11
import Derived.Test.YtblihfpigjiahaaDoorWB12
import Derived.Test.YtblihfpigjiahaaDoorWB08
import Derived.Test.YtblihfpigjiahaaDoorWB18
import Derived.Test.YtblihfpigjiahaaDoorWB13
import Derived.Test.YtblihfpigjiahaaDoorWB16
set_option maxRecDepth 100000
set_option maxHeartbeats 8000000
namespace Go.Proofs.YtblihfpigjiahaaDoor
open Go.RowKit
theorem Xas {p:List Fn} {vp:Value} {w:World} (hp:Zw w vp p) (hz:Xh p=0):Zah w vp p:=by
 intro k u hk hu
 obtain ⟨_,_,hck⟩:=Zaa hz
 refine (Znc p vp k u (hp.kept hu) (hck k hk)).mono ?_
 intro e u' h
 have hs:=Zio hz hk
 unfold Zjd at h
 rw [hs] at h
 exact h
theorem Zhz (p:List Fn) (vp v:Value) (s:St) (w:World) (hp:Zw w vp p) (hs:Zy w v s) :
  Calls Tryd.prog 6 #[vp,v] w fun e w'=>e=.returned (.int .i64 (Xa p s))∧Zb w w':=by
 obtain ⟨vf,vo,rfl,hf,ho⟩:=hs
 by_cases hz:Xh p=0
 ·obtain ⟨oa,cap,rfl,_,hc⟩:=id hf
  by_cases h0:s.fibers.length=0
  ·obtain ⟨oo,co,rfl,_,_⟩:=id ho
   rw [h0]
   refine Zpl p vp oa oo cap _ co s.now w hp hz _ ?_
   by_cases h30:s.out.length≤30
   ·rw [if_pos h30,Zdl hz (Znb ⟨by omega,h30⟩ (fun k hk=>by omega)) (by rw [if_neg (by omega)];decide),if_neg (by omega)]
   ·rw [if_neg h30,Zdl hz (Zma (by omega)) (by decide)]
  ·obtain ⟨b,o,_,rfl,-⟩:=hc 0 _ (Zq s.fibers 0 Fb.zero (by omega))
   exact Zzu p vp s b o cap vo w hp (Xas hp hz) hz (by omega) hf ho
 ·have:Xa p s=Xh p:=by unfold Xa;rw [if_neg hz]
  rw [this]
  exact Zvy p vp _ _ _ w hp hz
theorem Xaj {w:World} {oa oo:Option Addr} {n cap m co:Nat} {c:Int} {s:St} (h:Zy w (.agg #[.slice oa n cap,.int .i64 c,.slice oo m co]) s):c=s.now∧n=s.fibers.length∧m=s.out.length:=by
 obtain ⟨vf,vo,e,⟨oa',cap',e1,_,_⟩,⟨oo',co',e2,_,_⟩⟩:=h
 subst e1 e2
 simp only [Value.agg.injEq,Array.mk.injEq,List.cons.injEq,Value.slice.injEq,Value.int.injEq,and_true,true_and] at e
 obtain ⟨⟨_,e1,_⟩,e2,_,e3,_⟩:=e
 exact ⟨e2,e1,e3⟩
theorem Zet {w:World} {v:Value} {s:St} (h:Zy w v s):∃ oa n cap c oo m co,v=.agg #[.slice oa n cap,.int .i64 c,.slice oo m co]:=by
 obtain ⟨vf,vo,rfl,⟨oa,cap,rfl,_,_⟩,⟨oo,co,rfl,_,_⟩⟩:=h
 exact ⟨_,_,_,_,_,_,_,rfl⟩
def Jc (f:FuncId) (args:Array Value) (u:World) (s:St) (more:List Value):Prop :=
 Calls Tryd.prog f args u fun e w'=>∃ oa n cap c oo m co,e=.returned (.tuple (#[.agg #[.slice oa n cap,.int .i64 c,.slice oo m co]]++more.toArray))∧Zy w' (.agg #[.slice oa n cap,.int .i64 c,.slice oo m co]) s∧Zb u w'
theorem Jm {w u:World} (hk:Zb w u) (c:Array Value) (t:TypeId):Zb w (u.alloc (.cells c t))∧(u.alloc (.cells c t)).heap[u.heap.size]?=some (.cells c t):=⟨hk.alloc _,Zg rfl⟩
theorem Zir {w:World} {b:Nat} {c:Array Value} {t:TypeId} {fr:Nat × Nat} (h:w.heap[b]?=some (.cells c t fr)) (i:Nat):∀ o,(w.alloc o).cell? ⟨b,i,none⟩=c[i]?:=fun o=>Zd (Zr h o) i
theorem Zy.zero (w:World):Zy w (.agg #[.slice none 0 0,.int .i64 0,.slice none 0 0]) St.zero:=⟨_,_,rfl,Wu.nil w,Xn.nil w⟩
theorem Zbx {w:World} {base:Nat} {e:TypeId} {size:Nat} {v:Value} {n:Nat} {xs:List Value} (h:w.ownsRow base e size v n xs) (hn:0<n) :
  ∃ g cap,v=.slice (some ⟨g,0,none⟩) n cap∧n≤cap∧(∀ j u,xs[j]?=some u→w.cell? ⟨g,j,none⟩=some u)∧(∀ j,w.frozen? ⟨g,j,none⟩=false)∧base≤g:=by
 rcases h.2 with ⟨_,h0⟩ | ⟨g,cap,cur,rfl,hb,hg,hnc,hcm,hcs,htake⟩
 ·omega
 ·refine ⟨g,cap,rfl,hnc,fun j u hu=>?_,fun j=>h.frozenAt j,hb⟩
  have hjl:j<n*size:=by rw [← h.1];exact (List.getElem?_eq_some_iff.1 hu).1
  rw [h.cellAt j hjl];exact hu
theorem Own.fib {base:Nat} {w:World} {V:Key→Value} {s:St} (h:Own base w V s) {i:Nat} (hi:i<s.fibers.length) :
  ∃ gF capF,V .fibers=.slice (some ⟨gF,0,none⟩) s.fibers.length capF∧s.fibers.length≤capF∧w.cell? ⟨gF,i*2,none⟩=some (V (.frames i))∧w.cell? ⟨gF,i*2+1,none⟩=some (.int .i64 (Zc s i).caller)∧(∀ j,w.frozen? ⟨gF,j,none⟩=false)∧base≤gF:=by
 obtain ⟨xs,h1,h2⟩:=h.piece .fibers trivial
 obtain ⟨g,cap,e,hc,hx,hf,hb⟩:=Zbx h1 (by omega)
 obtain ⟨q0,q1⟩:=h2 i hi
 exact ⟨g,cap,e,hc,hx _ _ q0,hx _ _ q1,hf,hb⟩
theorem Own.fr {base:Nat} {w:World} {V:Key→Value} {s:St} (h:Own base w V s) {i j:Nat} (hi:i<s.fibers.length) (hj:j<(Zc s i).frames.length) :
  ∃ g cap,V (.frames i)=.slice (some ⟨g,0,none⟩) (Zc s i).frames.length cap∧(Zc s i).frames.length≤cap∧w.cell? ⟨g,j*4,none⟩=some (.int .i64 (Ze s i j).fn)∧w.cell? ⟨g,j*4+1,none⟩=some (.int .i64 (Ze s i j).at_)∧w.cell? ⟨g,j*4+2,none⟩=some (V (.locals i j))∧w.cell? ⟨g,j*4+3,none⟩=some (V (.stack i j))∧(∀ t,w.frozen? ⟨g,t,none⟩=false)∧base≤g:=by
 obtain ⟨xs,h1,h2⟩:=h.piece (.frames i) hi
 obtain ⟨g,cap,e,hc,hx,hf,hb⟩:=Zbx h1 (by omega)
 obtain ⟨q0,q1,q2,q3⟩:=h2 j hj
 exact ⟨g,cap,e,hc,hx _ _ q0,hx _ _ q1,hx _ _ q2,hx _ _ q3,hf,hb⟩
theorem Own.stk {base:Nat} {w:World} {V:Key→Value} {s:St} (h:Own base w V s) {i j:Nat} (hi:i<s.fibers.length) (hj:j<(Zc s i).frames.length):w.ownsRow base 3 1 (V (.stack i j)) (Ze s i j).stack.length (ints (Ze s i j).stack):=h.piece (.stack i j) ⟨hi,hj⟩
theorem Own.loc {base:Nat} {w:World} {V:Key→Value} {s:St} (h:Own base w V s) {i j:Nat} (hi:i<s.fibers.length) (hj:j<(Zc s i).frames.length):w.ownsRow base 3 1 (V (.locals i j)) (Ze s i j).locals.length (ints (Ze s i j).locals):=h.piece (.locals i j) ⟨hi,hj⟩
theorem Zi.same {base bs:Nat} {w w':World} {V:Key→Value} {s:St} (h:Zi base w bs V s) (hh:w'.heap=w.heap):Zi base w' bs V s :=
 ⟨by rw [hh];exact h.var,h.own.same (fun k g _ _=>by rw [hh]),h.off,h.low⟩
theorem Zi.alloc {base bs:Nat} {w:World} {V:Key→Value} {s:St} (h:Zi base w bs V s) (o:Obj):Zi base (w.alloc o) bs V s :=
 ⟨by rw [Below.heap_alloc w o bs (lt_of_block h.var)];exact h.var,h.own.alloc o,h.off,h.low⟩
theorem Zi.cells {base bs:Nat} {w:World} {V:Key→Value} {s:St} (h:Zi base w bs V s):w.cell? ⟨bs,0,none⟩=some (V .fibers)∧w.cell? ⟨bs,1,none⟩=some (.int .i64 s.now)∧w.cell? ⟨bs,2,none⟩=some (V .out)∧∀ j,w.frozen? ⟨bs,j,none⟩=false:=by
 have hv:=h.var
 refine ⟨?_,?_,?_,fun j=>?_⟩ <;> simp [World.cell?,World.frozen?,hv]
theorem Zi.setNow {base bs:Nat} {w:World} {V:Key→Value} {s:St} (h:Zi base w bs V s) (n:Int):Zi base (w.setCell ⟨bs,1,none⟩ (.int .i64 n)) bs V { s with now:=n }:=by
 refine ⟨?_,(h.own.setOff (a:=⟨bs,1,none⟩) h.off _).now n,?_,h.low⟩
 ·have:=h.var
  simp [World.setCell,Array.getElem?_modify,this]
 ·intro k hk
  exact h.off k (by cases k using Key.by <;> exact hk)
theorem Zi.turn {base bs:Nat} {w w':World} {V V':Key→Value} {s s':St} (h:Zi base w bs V s) (ho:Own base w' V' s') (hb:w'.heap[bs]?=w.heap[bs]?) (hf:V' .fibers=V .fibers) (hout:V' .out=V .out) (hn:s'.now=s.now) (hoff:Own.off V' s' bs):Zi base w' bs V' s' :=
 ⟨by rw [hb,h.var,hf,hout,hn],ho,hoff,h.low⟩
theorem Zi.setCaller {base bs:Nat} {w:World} {V:Key→Value} {s:St} (h:Zi base w bs V s) {i g cap:Nat} (hi:i<s.fibers.length) (hV:V .fibers=.slice (some ⟨g,0,none⟩) s.fibers.length cap) (c:Int) :
  Zi base (w.setCell ⟨g,i*2+1,none⟩ (.int .i64 c)) bs V (Zh s i { Zc s i with caller:=c })∧Below base w (w.setCell ⟨g,i*2+1,none⟩ (.int .i64 c)):=by
 have hgb:(V .fibers).ownBlock=some g:=by rw [hV];rfl
 have hlv:∀ k,live (Zh s i { Zc s i with caller:=c }) k→live s k:=by
  have hfr:∀ j,(Zc (Zh s i { Zc s i with caller:=c }) j).frames=(Zc s j).frames:=fun j=>by
   by_cases e:i=j
   ·subst e;rw [Qg _ hi]
   ·rw [Jb _ e]
  intro k hk
  cases k using Key.by <;> simp only [live,Xf,hfr] at hk ⊢ <;> exact hk
 refine ⟨h.turn (h.own.setCaller hi hV c) (Below.heap_setCell _ _ _ _ (fun e=>h.off .fibers trivial (by rw [hgb];exact congrArg some e.symm))) rfl rfl rfl (fun k hk=>h.off k (hlv k hk)),Below.setCell (Below.refl _ w) ((h.own.piece .fibers trivial).block g hgb).1 _⟩
theorem Zi.setAt {base bs:Nat} {w:World} {V:Key→Value} {s:St} (h:Zi base w bs V s) {i j g cap:Nat} (hi:i<s.fibers.length) (hj:j<(Zc s i).frames.length) (hV:V (.frames i)=.slice (some ⟨g,0,none⟩) (Zc s i).frames.length cap) (a:Int) :
  Zi base (w.setCell ⟨g,j*4+1,none⟩ (.int .i64 a)) bs V (Qu s i j { Ze s i j with at_:=a })∧Below base w (w.setCell ⟨g,j*4+1,none⟩ (.int .i64 a)):=by
 have hgb:(V (.frames i)).ownBlock=some g:=by rw [hV];rfl
 have hown:=h.own.turnFrame (w1:=w) hi hj hV (V (.stack i j)) { Ze s i j with at_:=a } 1 (.int .i64 a) (by omega) (fun _ _ _=>rfl) (h.own.stk hi hj) (.inl rfl) rfl rfl rfl rfl rfl
 have hu:upd V (.stack i j) (V (.stack i j))=V:=by
  funext k
  by_cases e:k=.stack i j
  ·subst e;rw [Qk]
  ·rw [Zp V _ e]
 rw [hu] at hown
 exact ⟨h.turn hown (Below.heap_setCell _ _ _ _ (fun e=>h.off (.frames i) hi (by rw [hgb];exact congrArg some e.symm))) rfl rfl rfl (fun k hk=>h.off k ((We _ hi k).1 hk)),Below.setCell (Below.refl _ w) ((h.own.piece (.frames i) hi).block g hgb).1 _⟩
theorem Zi.setLocal {base bs:Nat} {w:World} {V:Key→Value} {s:St} (h:Zi base w bs V s) {i j g cap q:Nat} (hi:i<s.fibers.length) (hj:j<(Zc s i).frames.length) (hV:V (.locals i j)=.slice (some ⟨g,0,none⟩) (Ze s i j).locals.length cap) (z:Int) :
  Zi base (w.setCell ⟨g,q,none⟩ (.int .i64 z)) bs V (Qu s i j { Ze s i j with locals:=(Ze s i j).locals.set q z })∧Below base w (w.setCell ⟨g,q,none⟩ (.int .i64 z)):=by
 have hgb:(V (.locals i j)).ownBlock=some g:=by rw [hV];rfl
 exact ⟨h.turn (h.own.setLocal hi hj hV z) (Below.heap_setCell _ _ _ _ (fun e=>h.off (.locals i j) ⟨hi,hj⟩ (by rw [hgb];exact congrArg some e.symm))) rfl rfl rfl (fun k hk=>h.off k ((We _ hi k).1 hk)),Below.setCell (Below.refl _ w) ((h.own.piece (.locals i j) ⟨hi,hj⟩).block g hgb).1 _⟩
theorem Zi.dropFrame {base bs:Nat} {w:World} {V:Key→Value} {s:St} (h:Zi base w bs V s) {i gF capF g cap:Nat} (hi:i<s.fibers.length)
  (hF:V .fibers=.slice (some ⟨gF,0,none⟩) s.fibers.length capF) (hV:V (.frames i)=.slice (some ⟨g,0,none⟩) (Zc s i).frames.length cap) :
  Zi base (w.setCell ⟨gF,i*2,none⟩ (.slice (some ⟨g,0,none⟩) ((Zc s i).frames.length - 1) cap)) bs (upd V (.frames i) (.slice (some ⟨g,0,none⟩) ((Zc s i).frames.length - 1) cap)) (Zh s i { Zc s i with frames:=(Zc s i).frames.dropLast })∧Below base w (w.setCell ⟨gF,i*2,none⟩ (.slice (some ⟨g,0,none⟩) ((Zc s i).frames.length - 1) cap)):=by
 have hFb:(V .fibers).ownBlock=some gF:=by rw [hF];rfl
 have hgb:(V (.frames i)).ownBlock=some g:=by rw [hV];rfl
 refine ⟨h.turn (h.own.dropFrame hi hF hV) (Below.heap_setCell _ _ _ _ (fun e=>h.off .fibers trivial (by rw [hFb];exact congrArg some e.symm))) (Zp V _ (by simp)) (Zp V _ (by simp)) rfl (fun k hk e=>?_),Below.setCell (Below.refl _ w) ((h.own.piece .fibers trivial).block gF hFb).1 _⟩
 have hlv:live s k:=by
  have hfl:∀ t,(Zc (Zh s i { Zc s i with frames:=(Zc s i).frames.dropLast }) t).frames.length≤(Zc s t).frames.length:=fun t=>by
   by_cases e:i=t
   ·subst e;rw [Qg _ hi];simp
   ·rw [Jb _ e];exact Nat.le_refl _
  cases k using Key.by with
  | fibers=>trivial
  | out=>trivial
  | frames t=>simpa only [live,Xf] using hk
  | locals t q=>simp only [live,Xf] at hk ⊢;exact ⟨hk.1,Nat.lt_of_lt_of_le hk.2 (hfl t)⟩
  | stack t q=>simp only [live,Xf] at hk ⊢;exact ⟨hk.1,Nat.lt_of_lt_of_le hk.2 (hfl t)⟩
 by_cases hkf:k=.frames i
 ·subst hkf
  rw [Qk] at e
  exact h.off _ hlv (by rw [hgb];exact e)
 ·rw [Zp V _ hkf] at e
  exact h.off k hlv e
def Fb.top (b:Fb):Fr:=b.frames.getLast?.getD Fr.zero
def St.fib (s:St) (n:Int):Fb:=s.fibers.getD n.toNat Fb.zero
def St.turn (s:St) (n:Int) (g:Fb→Fb):St:={ s with fibers:=s.fibers.set n.toNat (g (s.fib n)) }
def Fb.turnTop (b:Fb) (g:Fr→Fr):Fb:={ b with frames:=b.frames.set (b.frames.length - 1) (g b.top) }
def St.top (s:St):Fr:=(s.fib s.now).top
def St.turnTop (s:St) (n:Int) (g:Fr→Fr):St:=s.turn n fun b=>b.turnTop g
def Qb (s:St) (n v:Int):St:=s.turnTop n fun f=>{ f with stack:=f.stack++[v] }
def Zv (s:St):Int:=s.top.stack.getLast?.getD 0
def Zj (s:St):St:=s.turnTop s.now fun f=>{ f with stack:=f.stack.dropLast }
def Yj (s:St) (a:Int):St:=s.turnTop s.now fun f=>{ f with at_:=a }
def Jv (s:St) (v:Int):St × Int:=if s.out.length=30 then (St.zero,2) else ({ s with out:=s.out++[v] },0)
def Yn (p:List Fn) (f:Int) (vals:List Int):Fr:=⟨f,0,vals++List.replicate ((p.getD f.toNat Fn.zero).locals.toNat - vals.length) 0,[]⟩
def Ub (s:St):St × Int :=
 let v:=Zv s
 let s1:St:=(Zj s).turn s.now fun b=>{ b with frames:=b.frames.dropLast }
 if (s1.fib s.now).frames=[] then
  if (s1.fib s.now).caller<0 then Jv { s1 with now:=-1 } v
  else (Qb { (s1.turn s.now fun b=>{ b with caller:=-1 }) with now:=(s1.fib s.now).caller } (s1.fib s.now).caller v,0)
 else (Qb s1 s.now v,0)
def Ux (s:St):St × Int :=
 let v:=Zv s
 let n:=Zv (Zj s)
 let s1:=Zj (Zj s)
 if ixB n s1.fibers.length=true then
  if n∈(Xz s1.fibers (s1.fibers.length+1) s1.now []).getD []∨(s1.fib n).frames=[] then (St.zero,6)
  else
   let s2:St:={ (s1.turn n fun b=>{ b with caller:=s1.now }) with now:=n }
   if s2.top.at_=0 then (s2.turnTop n fun f=>{ f with locals:=f.locals.set 0 v },0) else (Qb s2 n v,0)
 else (St.zero,5)
def Pd (p:List Fn) (s:St) (f:Int):St × Int :=
 let k:=(p.getD f.toNat Fn.zero).args.toNat
 let vals:=s.top.stack.drop (s.top.stack.length - k)
 let s1:=s.turnTop s.now fun x=>{ x with stack:=x.stack.take (x.stack.length - k) }
 if (s1.fib s.now).frames.length=6 then (St.zero,2)
 else (s1.turn s.now fun b=>{ b with frames:=b.frames++[Yn p f vals] },0)
def Uk (s:St):St × Int :=
 let v:=Zv s
 let s1:=Zj s
 if (s1.fib s.now).caller<0 then (St.zero,7)
 else (Qb { (s1.turn s.now fun b=>{ b with caller:=-1 }) with now:=(s1.fib s.now).caller } (s1.fib s.now).caller v,0)
def Zdo (z:Int):Int:=Int.bmod z (2 ^ 64)
def Zih (b:Bool):Int:=if b=true then 1 else 0
def Zaz (kd a b:Int):Int :=
 if kd=4 then Zdo (a+b) else if kd=5 then Zdo (a - b) else if kd=6 then Zdo (a*b) else if kd=7 then Zih (decide (a<b)) else Zih (decide (a=b))
def Ui (p:List Fn) (s:St) (f:Int):St × Int :=
 if s.fibers.length=5 then (St.zero,2)
 else ({ Qb s s.now s.fibers.length with fibers:=(Qb s s.now s.fibers.length).fibers++[⟨[Yn p f []],-1⟩] },0)
def Xj (p:List Fn) (s0:St):St × Int :=
 let x:=(Zx p s0.top.fn.toNat).getD s0.top.at_.toNat (0,0)
 let s:=Yj s0 (s0.top.at_+1)
 if x.1=0 then (Qb s s.now x.2,0)
 else if x.1=1 then (Zj s,0)
 else if x.1=2 then (Qb s s.now (s.top.locals.getD x.2.toNat 0),0)
 else if x.1=3 then ((Zj s).turnTop s.now fun f=>{ f with locals:=f.locals.set x.2.toNat (Zv s) },0)
 else if x.1=9 then (Yj s x.2,0)
 else if x.1=10 then (if Zv s=0 then Yj (Zj s) x.2 else Zj s,0)
 else if x.1=11 then Pd p s x.2
 else if x.1=12 then Ub s
 else if x.1=13 then Ui p s x.2
 else if x.1=14 then Ux s
 else if x.1=15 then Uk s
 else if x.1=16 then Jv (Zj s) (Zv s)
 else (Qb (Zj (Zj s)) s.now (Zaz x.1 (Zv (Zj s)) (Zv s)),0)
def Zae (p:List Fn) (s:St):St × Int:=if s.now<0 then (St.zero,8) else Xj p s
def Jg (p:List Fn):Nat→St→St × Nat × Int
 | 0,s=>(s,0,0)
 | k+1,s=>if s.now<0 then (s,0,0) else if (Zae p s).2=0 then ((Jg p k (Zae p s).1).1,(Jg p k (Zae p s).1).2.1+1,(Jg p k (Zae p s).1).2.2) else (s,0,(Zae p s).2)
def Ur (p:List Fn):St:=⟨[⟨[⟨0,0,List.replicate (p.getD 0 Fn.zero).locals.toNat 0,[]⟩],-1⟩],0,[]⟩
theorem Zdq (s:St) (i:Nat):(Zc s i).top=Ze s i ((Zc s i).frames.length - 1):=by
 unfold Fb.top Ze
 rw [List.getLast?_eq_getElem?]
 simp [List.getD]
theorem Py (s:St) (i:Nat) (g:Fr→Fr):s.turnTop (i:Int) g=Qu s i ((Zc s i).frames.length - 1) (g (Ze s i ((Zc s i).frames.length - 1))):=by
 unfold St.turnTop St.turn Fb.turnTop Qu Zh St.fib
 rw [Int.toNat_natCast]
 show _={ s with fibers:=_ }
 rw [← Zdq s i]
 rfl
structure Qa (s:St) (i:Nat):Prop where
 lt:i<s.fibers.length
 fr:0<(Zc s i).frames.length
 frs:(Zc s i).frames.length≤1000
 st:(Ze s i ((Zc s i).frames.length - 1)).stack.length≤1000
theorem Wg (s:St) (i:Nat):s.fib (i:Int)=Zc s i:=by unfold St.fib Zc;rw [Int.toNat_natCast]
theorem Uu (s:St) (i:Nat) (g:Fb→Fb):s.turn (i:Int) g=Zh s i (g (Zc s i)):=by
 unfold St.turn;rw [Wg,Int.toNat_natCast];rfl
theorem Zbl {s:St} {i:Nat} (hn:s.now=i):Zj s=Qu s i ((Zc s i).frames.length - 1) { Ze s i ((Zc s i).frames.length - 1) with stack:=(Ze s i ((Zc s i).frames.length - 1)).stack.dropLast }:=by
 unfold Zj
 rw [hn,Py]
theorem Zda {s:St} {i j k:Nat} (f:Fr) (h:i≠k):Zc (Qu s i j f) k=Zc s k:=Jb _ h
theorem Qa.other {s s':St} {k:Nat} (h:Qa s k) (hl:s'.fibers.length=s.fibers.length) (hf:Zc s' k=Zc s k):Qa s' k:=by
 have hfr:∀ j,Ze s' k j=Ze s k j:=fun j=>by unfold Ze;rw [hf]
 exact ⟨by rw [hl];exact h.lt,by rw [hf];exact h.fr,by rw [hf];exact h.frs,by rw [hfr,hf];exact h.st⟩
def Zf (s:St) (i ai:Nat):St:=Qu s i ((Zc s i).frames.length - 1) { Ze s i ((Zc s i).frames.length - 1) with at_:=(ai:Int)+1 }
theorem Zgn {s:St} {i:Nat} (hn:s.now=i) (a:Int):Yj s a=Qu s i ((Zc s i).frames.length - 1) { Ze s i ((Zc s i).frames.length - 1) with at_:=a }:=by
 unfold Yj
 rw [hn,Py]
theorem Zfn {s:St} {i:Nat} (hn:s.now=i):s.top=Ze s i ((Zc s i).frames.length - 1):=by
 unfold St.top St.fib
 rw [hn,Int.toNat_natCast,show s.fibers.getD i Fb.zero=Zc s i from rfl,Zdq]
theorem Wb {s:St} {i:Nat} (hn:s.now=i) (hr:Qa s i) (ai:Nat) :
  (Zf s i ai).now=i∧(Zf s i ai).fibers.length=s.fibers.length∧(Zf s i ai).out=s.out∧(∀ k,(Zc (Zf s i ai) k).caller=(Zc s k).caller)∧(∀ k,(Zc (Zf s i ai) k).frames.length=(Zc s k).frames.length) ∧
  Ze (Zf s i ai) i ((Zc s i).frames.length - 1)={ Ze s i ((Zc s i).frames.length - 1) with at_:=(ai:Int)+1 }∧(∀ k,k≠i→Zc (Zf s i ai) k=Zc s k)∧Qa (Zf s i ai) i:=by
 have hj:(Zc s i).frames.length - 1<(Zc s i).frames.length:=by have:=hr.fr;omega
 have h6:Ze (Zf s i ai) i ((Zc s i).frames.length - 1)={ Ze s i ((Zc s i).frames.length - 1) with at_:=(ai:Int)+1 }:=Uh _ hr.lt hj
 have h5:∀ k,(Zc (Zf s i ai) k).frames.length=(Zc s k).frames.length:=fun k=>Pc _ hr.lt k
 have h2:(Zf s i ai).fibers.length=s.fibers.length:=Xf _ _ _
 refine ⟨hn,h2,rfl,fun k=>Zbe _ hr.lt k,h5,h6,fun k hk=>Zda _ (fun e=>hk e.symm),⟨by rw [h2];exact hr.lt,by rw [h5];exact hr.fr,by rw [h5];exact hr.frs,?_⟩⟩
 rw [h5,h6]
 exact hr.st
theorem Zkn {s:St} {i:Nat} (ai k:Nat) (hk:k≠i) (h:Qa s k):Qa (Zf s i ai) k :=
 h.other (Xf _ _ _) (Zda _ (fun e=>hk e.symm))
theorem Zhs {s:St} {i:Nat} (hr:Qa s i) (ai t q:Nat):(Ze (Zf s i ai) t q).stack=(Ze s t q).stack∧(Ze (Zf s i ai) t q).locals=(Ze s t q).locals∧(Ze (Zf s i ai) t q).fn=(Ze s t q).fn:=by
 have hj:(Zc s i).frames.length - 1<(Zc s i).frames.length:=by have:=hr.fr;omega
 unfold Zf
 by_cases e:i=t∧(Zc s i).frames.length - 1=q
 ·obtain ⟨rfl,rfl⟩:=e
  rw [Uh _ hr.lt hj]
  exact ⟨rfl,rfl,rfl⟩
 ·rw [Pm _ hr.lt e]
  exact ⟨rfl,rfl,rfl⟩
theorem Zok {p:List Fn} {s:St} {i fi ai:Nat} {kd a:Int} (hn:s.now=i) (hf:(Ze s i ((Zc s i).frames.length - 1)).fn=fi) (ha:(Ze s i ((Zc s i).frames.length - 1)).at_=ai) (hx:(Zx p fi).getD ai (0,0)=(kd,a)) :
  Xj p s=(if kd=0 then (Qb (Zf s i ai) i a,0)
   else if kd=1 then (Zj (Zf s i ai),0)
   else if kd=2 then (Qb (Zf s i ai) i ((Zf s i ai).top.locals.getD a.toNat 0),0)
   else if kd=3 then ((Zj (Zf s i ai)).turnTop i fun f=>{ f with locals:=f.locals.set a.toNat (Zv (Zf s i ai)) },0)
   else if kd=9 then (Yj (Zf s i ai) a,0)
   else if kd=10 then (if Zv (Zf s i ai)=0 then Yj (Zj (Zf s i ai)) a else Zj (Zf s i ai),0)
   else if kd=11 then Pd p (Zf s i ai) a
   else if kd=12 then Ub (Zf s i ai)
   else if kd=13 then Ui p (Zf s i ai) a
   else if kd=14 then Ux (Zf s i ai)
   else if kd=15 then Uk (Zf s i ai)
   else if kd=16 then Jv (Zj (Zf s i ai)) (Zv (Zf s i ai))
   else (Qb (Zj (Zj (Zf s i ai))) i (Zaz kd (Zv (Zj (Zf s i ai))) (Zv (Zf s i ai))),0)):=by
 unfold Xj
 have ht:=Zfn hn
 have hs:Yj s (s.top.at_+1)=Zf s i ai:=by rw [Zgn hn,ht,ha];rfl
 have hnow:(Zf s i ai).now=i:=hn
 simp only []
 rw [hs,ht,hf,ha,Int.toNat_natCast,Int.toNat_natCast,hx,hnow]
def Zgb (kd:Int):Nat:=if kd=0∨kd=2∨kd=9∨kd=11∨kd=13 then 0 else if kd=1∨kd=3∨kd=10∨kd=12∨kd=15∨kd=16 then 1 else 2
def Jz (p:List Fn) (f:Fr):Int × Int:=(Zx p f.fn.toNat).getD f.at_.toNat (0,0)
def Zhy (p:List Fn) (f:Fr):Prop :=
 Zgb (Jz p f).1≤f.stack.length ∧
 ((Jz p f).1=2∨(Jz p f).1=3→0≤(Jz p f).2∧(Jz p f).2.toNat<f.locals.length) ∧
 ((Jz p f).1=11→0≤(Jz p f).2∧(Jz p f).2.toNat<p.length∧0≤(p.getD (Jz p f).2.toNat Fn.zero).args∧(p.getD (Jz p f).2.toNat Fn.zero).args≤(p.getD (Jz p f).2.toNat Fn.zero).locals∧(p.getD (Jz p f).2.toNat Fn.zero).locals≤1000∧(p.getD (Jz p f).2.toNat Fn.zero).args.toNat≤f.stack.length) ∧
 ((Jz p f).1=13→0≤(Jz p f).2∧(Jz p f).2.toNat<p.length∧0≤(p.getD (Jz p f).2.toNat Fn.zero).locals∧(p.getD (Jz p f).2.toNat Fn.zero).locals≤1000)
def OkS (p:List Fn) (s:St):Prop :=
 (0≤s.now∧s.now.toNat<s.fibers.length∧s.fibers.length≤5∧s.out.length≤30) ∧
 (∀ b∈s.fibers,(b.frames.length≤6∧-1≤b.caller∧b.caller<s.fibers.length)∧∀ f∈b.frames,f.locals.length≤1000∧f.stack.length≤1000) ∧
 0<(Zc s s.now.toNat).frames.length ∧
 (0≤(Zc s s.now.toNat).caller→(Zc s s.now.toNat).caller≠s.now∧0<(Zc s (Zc s s.now.toNat).caller.toNat).frames.length) ∧
 ((Qj s).isSome=true∧s.now∈(Qj s).getD []) ∧
 (∀ k,k<s.fibers.length→(k:Int) ∉ (Qj s).getD []→0<(Zc s k).frames.length→(Ze s k ((Zc s k).frames.length - 1)).at_=0→0<(Ze s k ((Zc s k).frames.length - 1)).locals.length) ∧
 (0≤s.top.fn∧s.top.fn.toNat<p.length∧0≤s.top.at_∧s.top.at_.toNat<(Zx p s.top.fn.toNat).length∧(Zx p s.top.fn.toNat).length≤1000)∧Zhy p s.top
theorem Zfe {s:St} (i:Nat) (hi:i<s.fibers.length):Zc s i∈s.fibers:=by
 have:Zc s i=s.fibers[i]:=by simp [Zc,List.getD,hi]
 rw [this];exact List.getElem_mem hi
theorem fr_mem {s:St} (i j:Nat) (hj:j<(Zc s i).frames.length):Ze s i j∈(Zc s i).frames:=by
 have:Ze s i j=(Zc s i).frames[j]:=by simp [Ze,List.getD,hj]
 rw [this];exact List.getElem_mem hj
theorem Zmn (s:St) (v:Int) (h:(Jv s v).2≠0):(Jv s v).1=St.zero:=by
 unfold Jv at h ⊢
 split
 ·rfl
 ·rename_i hh;rw [if_neg hh] at h;exact absurd rfl h
theorem Xby (s:St) (h:(Ub s).2≠0):(Ub s).1=St.zero:=by
 unfold Ub at h ⊢
 simp only at h ⊢
 split
 ·rename_i h1
  rw [if_pos h1] at h
  split
  ·rename_i h2
   rw [if_pos h2] at h
   exact Zmn _ _ h
  ·rename_i h2
   rw [if_neg h2] at h
   exact absurd rfl h
 ·rename_i h1
  rw [if_neg h1] at h
  exact absurd rfl h
theorem Xca (s:St) (h:(Ux s).2≠0):(Ux s).1=St.zero:=by
 unfold Ux at h ⊢
 simp only at h ⊢
 split
 ·rename_i h1
  rw [if_pos h1] at h
  split
  ·rfl
  ·rename_i h2
   rw [if_neg h2] at h
   split
   ·rename_i h3;rw [if_pos h3] at h;exact absurd rfl h
   ·rename_i h3;rw [if_neg h3] at h;exact absurd rfl h
 ·rfl
theorem Zpf (p:List Fn) (s:St) (f:Int) (h:(Pd p s f).2≠0):(Pd p s f).1=St.zero:=by
 unfold Pd at h ⊢
 simp only at h ⊢
 split
 ·rfl
 ·rename_i hh;rw [if_neg hh] at h;exact absurd rfl h
theorem Zul (s:St) (h:(Uk s).2≠0):(Uk s).1=St.zero:=by
 unfold Uk at h ⊢
 simp only at h ⊢
 split
 ·rfl
 ·rename_i hh;rw [if_neg hh] at h;exact absurd rfl h
theorem Zuq (p:List Fn) (s:St) (f:Int) (h:(Ui p s f).2≠0):(Ui p s f).1=St.zero:=by
 unfold Ui at h ⊢
 split
 ·rfl
 ·rename_i hh;rw [if_neg hh] at h;exact absurd rfl h
theorem Zrc {p:List Fn} {s:St} (h:(Xj p s).2≠0):(Xj p s).1=St.zero:=by
 unfold Xj at h ⊢
 simp only at h ⊢
 generalize (Zx p s.top.fn.toNat).getD s.top.at_.toNat (0,0)=x at h ⊢
 generalize Yj s (s.top.at_+1)=t at h ⊢
 by_cases k0:x.1=0
 ·rw [if_pos k0] at h;exact absurd rfl h
 rw [if_neg k0] at h ⊢
 by_cases k1:x.1=1
 ·rw [if_pos k1] at h;exact absurd rfl h
 rw [if_neg k1] at h ⊢
 by_cases k2:x.1=2
 ·rw [if_pos k2] at h;exact absurd rfl h
 rw [if_neg k2] at h ⊢
 by_cases k3:x.1=3
 ·rw [if_pos k3] at h;exact absurd rfl h
 rw [if_neg k3] at h ⊢
 by_cases k9:x.1=9
 ·rw [if_pos k9] at h;exact absurd rfl h
 rw [if_neg k9] at h ⊢
 by_cases k10:x.1=10
 ·rw [if_pos k10] at h;exact absurd rfl h
 rw [if_neg k10] at h ⊢
 by_cases k11:x.1=11
 ·rw [if_pos k11] at h ⊢;exact Zpf _ _ _ h
 rw [if_neg k11] at h ⊢
 by_cases k12:x.1=12
 ·rw [if_pos k12] at h ⊢;exact Xby _ h
 rw [if_neg k12] at h ⊢
 by_cases k13:x.1=13
 ·rw [if_pos k13] at h ⊢;exact Zuq _ _ _ h
 rw [if_neg k13] at h ⊢
 by_cases k14:x.1=14
 ·rw [if_pos k14] at h ⊢;exact Xca _ h
 rw [if_neg k14] at h ⊢
 by_cases k15:x.1=15
 ·rw [if_pos k15] at h ⊢;exact Zul _ h
 rw [if_neg k15] at h ⊢
 by_cases k16:x.1=16
 ·rw [if_pos k16] at h ⊢;exact Zmn _ _ h
 rw [if_neg k16] at h
 exact absurd rfl h
def Zbp (p:List Fn):Nat→St→Prop
 | 0,_=>True
 | k+1,s=>s.now<0∨(OkS p s∧Yi (Xj p s).1∧((Xj p s).2=0→Zbp p k (Xj p s).1))
theorem Zdu (p:List Fn) (k:Nat) (s:St) (h:k=0∨s.now<0):Jg p k s=(s,0,0):=by
 cases k with
 | zero=>rfl
 | succ k =>
  rcases h with h | h
  ·cases h
  ·unfold Jg;rw [if_pos h]
theorem Zmm (p:List Fn) (k:Nat) (s:St) (h:¬ s.now<0) (he:(Xj p s).2≠0):Jg p (k+1) s=(s,0,(Xj p s).2):=by
 unfold Jg
 have:Zae p s=Xj p s:=by unfold Zae;rw [if_neg h]
 rw [if_neg h,this,if_neg he]
theorem Zjn (p:List Fn) (k:Nat) (s:St) (h:¬ s.now<0) (he:(Xj p s).2=0):Jg p (k+1) s=((Jg p k (Xj p s).1).1,(Jg p k (Xj p s).1).2.1+1,(Jg p k (Xj p s).1).2.2):=by
 conv=>lhs;unfold Jg
 have:Zae p s=Xj p s:=by unfold Zae;rw [if_neg h]
 rw [if_neg h,this,if_pos he]
theorem Zfo {fs fs':List Fb} (h:∀ n,Xt fs n=Xt fs' n):∀ (k:Nat) (n:Int) (acc:List Int),Xz fs k n acc=Xz fs' k n acc
 | 0,_,_=>rfl
 | k+1,n,acc=>by
  unfold Xz
  rw [h n,Zfo h k]
def Qs (s:St) (i t:Nat):St:=Qu s i ((Zc s i).frames.length - 1) { Ze s i ((Zc s i).frames.length - 1) with stack:=(Ze s i ((Zc s i).frames.length - 1)).stack.take ((Ze s i ((Zc s i).frames.length - 1)).stack.length - t) }
theorem Zlx {α:Type} (l:List α) (i:Nat) (d:α) (h:i<l.length):l.set i (l.getD i d)=l:=by
 apply List.ext_getElem
 ·simp
 ·intro k h1 h2
  rw [List.getElem_set]
  split
  ·rename_i e;subst e;simp [List.getD,h]
  ·rfl
theorem Zzo {s:St} {i:Nat} (hr:Qa s i):Qs s i 0=s:=by
 unfold Qs Qu Zh
 rw [Nat.sub_zero,List.take_length]
 have h1:(Zc s i).frames.set ((Zc s i).frames.length - 1) (Ze s i ((Zc s i).frames.length - 1))=(Zc s i).frames:=Zlx _ _ _ (by have:=hr.fr;omega)
 have h2:({ Zc s i with frames:=(Zc s i).frames.set ((Zc s i).frames.length - 1) { Ze s i ((Zc s i).frames.length - 1) with stack:=(Ze s i ((Zc s i).frames.length - 1)).stack } }:Fb)=Zc s i:=by
  show ({ Zc s i with frames:=(Zc s i).frames.set ((Zc s i).frames.length - 1) (Ze s i ((Zc s i).frames.length - 1)) }:Fb)=Zc s i
  rw [h1]
 rw [h2]
 have h3:s.fibers.set i (Zc s i)=s.fibers:=Zlx _ _ _ hr.lt
 rw [h3]
theorem Zgq {s:St} {i:Nat} (hr:Qa s i) (t:Nat):(Qs s i t).fibers.length=s.fibers.length∧(Qs s i t).now=s.now∧(Qs s i t).out=s.out∧(Zc (Qs s i t) i).frames.length=(Zc s i).frames.length ∧
  (Ze (Qs s i t) i ((Zc s i).frames.length - 1)).stack=(Ze s i ((Zc s i).frames.length - 1)).stack.take ((Ze s i ((Zc s i).frames.length - 1)).stack.length - t)∧Qa (Qs s i t) i:=by
 have hj:(Zc s i).frames.length - 1<(Zc s i).frames.length:=by have:=hr.fr;omega
 have h5:(Ze (Qs s i t) i ((Zc s i).frames.length - 1)).stack=(Ze s i ((Zc s i).frames.length - 1)).stack.take ((Ze s i ((Zc s i).frames.length - 1)).stack.length - t):=by
  unfold Qs;rw [Uh _ hr.lt hj]
 have h1:(Qs s i t).fibers.length=s.fibers.length:=Xf _ _ _
 have h4:(Zc (Qs s i t) i).frames.length=(Zc s i).frames.length:=Pc _ hr.lt i
 refine ⟨h1,rfl,rfl,h4,h5,⟨by rw [h1];exact hr.lt,by rw [h4];exact hr.fr,by rw [h4];exact hr.frs,?_⟩⟩
 rw [h4,h5,List.length_take]
 have:=hr.st
 omega
theorem Zpn {s:St} {i:Nat} (hn:s.now=i) (hr:Qa s i) {t:Nat} (ht:t<(Ze s i ((Zc s i).frames.length - 1)).stack.length) :
  Zj (Qs s i t)=Qs s i (t+1)∧Zv (Qs s i t)=(Ze s i ((Zc s i).frames.length - 1)).stack.getD ((Ze s i ((Zc s i).frames.length - 1)).stack.length - t - 1) 0:=by
 obtain ⟨f1,f2,f3,f4,f5,f6⟩:=Zgq hr t
 have hj:(Zc s i).frames.length - 1<(Zc s i).frames.length:=by have:=hr.fr;omega
 have hn':(Qs s i t).now=i:=by rw [f2];exact hn
 constructor
 ·rw [Zbl hn',f4]
  have hfr:Ze (Qs s i t) i ((Zc s i).frames.length - 1)={ Ze s i ((Zc s i).frames.length - 1) with stack:=(Ze s i ((Zc s i).frames.length - 1)).stack.take ((Ze s i ((Zc s i).frames.length - 1)).stack.length - t) }:=by
   unfold Qs;rw [Uh _ hr.lt hj]
  rw [hfr]
  generalize hl:(Ze s i ((Zc s i).frames.length - 1)).stack=l at *
  have hdl:(l.take (l.length - t)).dropLast=l.take (l.length - (t+1)):=by
   rw [List.dropLast_eq_take,List.length_take,List.take_take]
   congr 1
   omega
  simp only [hdl]
  unfold Qs
  rw [hl]
  unfold Qu Zh
  simp only
  have hset:Zc { s with fibers:=s.fibers.set i { Zc s i with frames:=(Zc s i).frames.set ((Zc s i).frames.length - 1) { Ze s i ((Zc s i).frames.length - 1) with stack:=l.take (l.length - t) } } } i={ Zc s i with frames:=(Zc s i).frames.set ((Zc s i).frames.length - 1) { Ze s i ((Zc s i).frames.length - 1) with stack:=l.take (l.length - t) } }:=Qg (s:=s) _ hr.lt
  rw [hset]
  simp only [List.set_set]
 ·unfold Zv St.top
  rw [hn',Wg,Zdq,f4,f5,List.getLast?_eq_getElem?,List.length_take]
  generalize (Ze s i ((Zc s i).frames.length - 1)).stack=l at *
  rw [Nat.min_eq_left (by omega),List.getElem?_take,if_pos (by omega)]
  rfl
theorem Xau {p:List Fn} {s:St} {i f2 a2 lo2:Nat} (hn:s.now=i) (hr:Qa s i) (ha:(p.getD f2 Fn.zero).args=a2) (hl:(p.getD f2 Fn.zero).locals=lo2) :
  Pd p s f2=if (Zc s i).frames.length=6 then (St.zero,(2:Int)) else (Zh (Qs s i a2) i { Zc (Qs s i a2) i with frames:=(Zc (Qs s i a2) i).frames++[⟨f2,0,(Ze s i ((Zc s i).frames.length - 1)).stack.drop ((Ze s i ((Zc s i).frames.length - 1)).stack.length - a2)++List.replicate (lo2 - ((Ze s i ((Zc s i).frames.length - 1)).stack.drop ((Ze s i ((Zc s i).frames.length - 1)).stack.length - a2)).length) 0,[]⟩] },0):=by
 have ht:=Zfn hn
 have hs1:(s.turnTop s.now fun x=>{ x with stack:=x.stack.take (x.stack.length - a2) })=Qs s i a2:=by rw [hn,Py];rfl
 obtain ⟨f1,f2',f3,f4,f5,f6⟩:=Zgq hr a2
 unfold Pd
 simp only [Int.toNat_natCast,ha]
 rw [hs1,hn,Wg,Uu,f4,ht]
 unfold Yn
 rw [Int.toNat_natCast,hl,Int.toNat_natCast]
theorem Zi.kept {base bs:Nat} {w w':World} {V:Key→Value} {s:St} (h:Zi base w bs V s) (hk:Zb w w'):Zi base w' bs V s :=
 ⟨(hk.block bs (lt_of_block h.var)).trans h.var,h.own.same (fun k g hlk hg=>hk.block g ((h.own.piece k hlk).block g hg).2),h.off,h.low⟩
theorem Zi.below {base bs:Nat} {w w':World} {V:Key→Value} {s:St} (h:Zi base w bs V s) (hk:Zb w w'):Below base w w' :=
 Below.mono hk (by have:=h.low;have:=lt_of_block h.var;omega)
structure DoAt (base:Nat) (w:World) (s:St) (i bp op n fi ai cb co cl cc:Nat) (kd a:Int):Prop where
 now:s.now=i
 runs:Qa s i
 fn:(Ze s i ((Zc s i).frames.length - 1)).fn=fi
 at_:(Ze s i ((Zc s i).frames.length - 1)).at_=ai
 fin:fi<n
 ain:ai<cl
 most:cl≤1000
 cells:∀ u,Below base w u→u.cell? ⟨bp,op+fi*3+2,none⟩=some (.slice (some ⟨cb,co,none⟩) cl cc)∧u.cell? ⟨cb,co+ai*2,none⟩=some (.int .i64 kd)∧u.cell? ⟨cb,co+ai*2+1,none⟩=some (.int .i64 a)
theorem Zgp (z:Int):wrap64 z=Zdo z:=by
 unfold wrap64 Zdo
 rw [Int.bmod_def]
 omega
theorem Zbq {p:List Fn} {s:St} (h:Xa p s=0):Xh p=0∧Qt s=0∧Yo p s=true:=by
 unfold Xa at h
 split at h
 ·rename_i h1
  split at h
  ·rename_i h2
   split at h
   ·rename_i h3;exact ⟨h1,h2,h3⟩
   ·cases h
  ·rename_i h2;exact absurd h h2
 ·rename_i h1;exact absurd h h1
theorem Zjo {p:List Fn} {s:St} (h:Xa p s=0):∃ l,Qj s=some l∧∀ k,k<s.fibers.length→Jd p (Zc s k) (decide ((k:Int)∈l)) (decide ((k:Int)=s.now))=true:=by
 obtain ⟨_,_,h3⟩:=Zbq h
 unfold Yo at h3
 cases hl:Qj s with
 | none=>rw [hl] at h3;cases h3
 | some l =>
  rw [hl] at h3
  simp only [Bool.and_eq_true] at h3
  refine ⟨l,rfl,fun k hk=>?_⟩
  have:=Uc.1 h3.2 k hk
  simp only [Bool.and_eq_true] at this
  exact this.1
theorem Znu {p:List Fn}:∀ (l:List Fr) (j:Nat),Qz p l=true→j+1<l.length→((l.getD j Fr.zero).stack.length:Int)=hAt p (l.getD j Fr.zero) - 1
 | [],j,_,hj=>by simp at hj
 | [x],j,_,hj=>by simp at hj
 | x :: y :: r,0,h,_=>by
  simp only [Qz,Bool.and_eq_true] at h
  obtain ⟨h1,_⟩:=h
  unfold Qp at h1
  simp only [Bool.and_eq_true,decide_eq_true_eq] at h1
  exact h1.1.2
 | x :: y :: r,j+1,h,hj=>by
  simp only [Qz,Bool.and_eq_true] at h
  exact Znu (y :: r) j h.2 (by simpa using hj)
theorem Pp {p:List Fn} {x:Fr} (h:Xb p x=true):(0≤x.fn∧x.fn<p.length)∧(x.locals.length:Int)=(p.getD x.fn.toNat Fn.zero).locals∧(0≤x.at_∧x.at_<(Zx p x.fn.toNat).length)∧0≤hAt p x:=by
 unfold Xb at h
 simp only [Bool.and_eq_true,decide_eq_true_eq] at h
 obtain ⟨h1,h2,h3,h4⟩:=h
 exact ⟨Jq.1 h1,h2,Jq.1 h3,h4⟩
theorem Zmp {p:List Fn} {s:St} (h:Xa p s=0) {k j:Nat} (hk:k<s.fibers.length) (hj:j<(Zc s k).frames.length) :
  Xb p (Ze s k j)=true∧(Ze s k j).stack.length≤8:=by
 obtain ⟨hp,_,_⟩:=Zbq h
 obtain ⟨l,_,hf⟩:=Zjo h
 have hfk:=hf k hk
 unfold Jd at hfk
 cases hlast:(Zc s k).frames.getLast? with
 | none =>
  have:=List.getLast?_eq_none_iff.1 hlast
  rw [this] at hj
  simp at hj
 | some t =>
  rw [hlast] at hfk
  simp only [Bool.and_eq_true] at hfk
  obtain ⟨hfr,hcond⟩:=hfk
  obtain ⟨hall,hjw⟩:=(Zea p _).1 hfr
  have hfj:Xb p (Ze s k j)=true:=Zad hall hj
  refine ⟨hfj,?_⟩
  obtain ⟨⟨q1,q2⟩,_,_,q3⟩:=Pp hfj
  have hle:=(Zlr hp (k:=(Ze s k j).fn.toNat) (by omega) (Ze s k j).at_.toNat).2
  have hle':hAt p (Ze s k j)≤8:=hle
  by_cases hjl:j+1<(Zc s k).frames.length
  ·have:=Znu _ j hjw hjl
   have h2:((Ze s k j).stack.length:Int)=hAt p (Ze s k j) - 1:=this
   omega
  ·have ht:t=Ze s k j:=by
    rw [List.getLast?_eq_getElem?] at hlast
    have hj2:j=(Zc s k).frames.length - 1:=by omega
    unfold Ze
    rw [hj2]
    simp [List.getD,hlast]
   subst ht
   split at hcond
   ·have:=of_decide_eq_true hcond;omega
   ·split at hcond
    ·unfold Jk at hcond
     simp only [Bool.and_eq_true,decide_eq_true_eq] at hcond
     have:=hcond.1.2
     omega
    ·simp only [Bool.and_eq_true,Bool.or_eq_true] at hcond
     rcases hcond.2 with h1 | h1
     ·unfold Jy at h1
      split at h1
      ·rename_i x hx
       simp only [Bool.and_eq_true,decide_eq_true_eq] at h1
       have:Ze s k j=x:=by unfold Ze;rw [hx] at hj ⊢;simp at hj;rw [hj];rfl
       rw [this,h1.1.2.2]
       omega
      ·cases h1
     ·unfold Jk at h1
      simp only [Bool.and_eq_true,decide_eq_true_eq] at h1
      have:=h1.1.2
      omega
end Go.Proofs.YtblihfpigjiahaaDoor
