import Derived.WalkSmall
import Derived.BigQuiet
import Derived.Test.YtokhibfenccijaaGreatDoorRows
import Derived.ProofKit
import Derived.OpenShut
import Derived.Deep.Strs
import Derived.Test.YtokhibfenccijaaGreatDoorShelf
import Derived.Maps.AppendAt
set_option maxRecDepth 100000
set_option maxHeartbeats 8000000
namespace Go.Proofs.YtokhibfenccijaaGreatDoor
open Go.Proofs.Tryz
structure Fn where
 args:Int
 locals:Int
 code:List (Int×Int)
def Fn.zero:Fn:=⟨0,0,[]⟩
def aX(i n:Int):Bool:=decide (0≤i)&&decide (i<n)
theorem dV{i n:Int}(a:0≤i)(b:i<n):aX i n=true:=by simp[aX,a,b]
theorem gQ{i n:Int}(a:¬(0≤i∧i<n)):aX i n=false:=by unfold aX;rw[Bool.and_eq_false_iff];simp only[decide_eq_false_iff_not];omega
theorem cZ{i n:Int}:aX i n=true↔0≤i∧i<n:=by simp[aX]
def ax(n b a:Int):Bool:=decide (b≤n)&&decide (n≤a)
theorem fM{n l a:Int}(b:l≤n)(h2:n≤a):ax n l a=true:=by simp[ax,b,h2]
theorem ig{n l a:Int}(b:¬(l≤n∧n≤a)):ax n l a=false:=by unfold ax;rw[Bool.and_eq_false_iff];simp only[decide_eq_false_iff_not];omega
theorem iX{n l a:Int}:ax n l a=true↔l≤n∧n≤a:=by simp[ax]
theorem qI(i n:Int):ax i 0 (n-1)=aX i n:=by rw[Bool.eq_iff_iff,iX,cZ];omega
def cI(a l:Int):Bool:=decide (0≤a)&&decide (a≤l)&&decide (l≤4)
theorem fg{a l:Int}:cI a l=true↔0≤a∧a≤l∧l≤4:=by simp[cI,and_assoc]
def nU:List Int:=[0,1,1,1,0,0,0,1,2,1,0,2,2,1,0,2,1,0,2,1,0,2,1,0,2,1,0,0,0,3,1,0,3,0,1,4,1,0,0,0,1,4,2,1,0,1,1,0,1,0,0]
def tk(k:Nat):Int:=nU.getD (k*3) 0
def lv(k:Nat):Int:=nU.getD (k*3+1) 0
def bA(k:Nat):Int:=nU.getD (k*3+2) 0
def ct(p:List Fn)(b a:Int):Int×Int×Int:=if 0≤b∧b<17 then if b=11 then(if 0≤a∧a<p.length then((p.getD a.toNat Fn.zero).args,1,0)else(0,0,5))else(tk b.toNat,lv b.toNat,0)else(0,0,4)
def bZ(p:List Fn)(f:Fn)(o a:Int):Bool:=if o=0 then decide (a=0)else if o=1 then ax a 0 999 else if o=2 then aX a f.locals else if o=3 then aX a f.code.length else aX a p.length&&cI (p.getD a.toNat Fn.zero).args (p.getD a.toNat Fn.zero).locals
def bu(p:List Fn)(f:Fn)(x:Int×Int):Int:=if 0≤x.1∧x.1<17 then if bZ p f (bA x.1.toNat) x.2=true then(if x.1=13∧(p.getD x.2.toNat Fn.zero).args≠1 then 1 else 0)else 3 else 4
def dY(p:List Fn)(f:Fn):List (Int×Int)→Int
 |[]=>0
 |a::b=>if bu p f a=0 then dY p f b else bu p f a
def bo(p:List Fn)(f:Int):Int:=if 0≤f∧f<p.length then let a:=p.getD f.toNat Fn.zero;if 24<a.code.length then 2 else if cI a.args a.locals=true then dY p a a.code else 3 else 5
theorem aD{α:Type}(l:List α)(i:Nat)(d:α)(a:i<l.length):l[i]?=some (l.getD i d):=by simp[List.getD,a]
open Go.RowKit
abbrev J(w w':World):Prop:=Below w.heap.size w w'
theorem J.refl(w:World):J w w:=Below.refl _ w
theorem J.trans{a b c:World}(d:J a b)(k:J b c):J a c:=Below.trans d (Below.mono k d.size)
theorem J.drew{a b:World}(c:J a b):J a b.drew:=Below.drew c
theorem J.alloc{a b:World}(c:J a b)(o:Obj):J a (b.alloc o):=Below.alloc c c.size o
theorem J.setCell{a b:World}(c:J a b){p:Addr}(d:a.heap.size≤p.block)(u:Value):J a (b.setCell p u):=Below.setCell c d u
theorem J.drewN{a b:World}(c:J a b)(n:Nat):J a (b.drewN n):=below_drewN c n
theorem bJ{w:World}{p:Addr}{v:Value}(a:w.cell? p=some v):p.block<w.heap.size:=by
 unfold World.cell? at a;split at a;·rename_i b;exact(Array.getElem?_eq_some_iff.1 b).1
 ·cases a
theorem J.cell{w w':World}(b:J w w'){p:Addr}{v:Value}(a:w.cell? p=some v):w'.cell? p=some v:=(Below.cell b (bJ a)).trans a
theorem R{p:Prop}(a:p):Hid p:=a
theorem U{p:Prop}(a:Hid p):p:=a
theorem ah{w:World}{o:Obj}{b:Nat}(a:w.heap.size=b):(w.alloc o).heap[b]?=some o:=by subst a;show(w.heap.push o)[w.heap.size]?=_;simp
theorem au{w:World}{o:Obj}{b:Nat}(a:w.heap[b]?=some o)(c:Obj):(w.alloc c).heap[b]?=some o:=(Below.heap_alloc w c b (Array.getElem?_eq_some_iff.1 a).1).trans a
theorem aw{w w':World}(k:J w w'){o:Obj}{b:Nat}(a:w.heap[b]?=some o):w'.heap[b]?=some o:=(k.block b (Array.getElem?_eq_some_iff.1 a).1).trans a
theorem aW{w:World}{o:Obj}{b:Nat}(a:w.heap[b]?=some o):w.drew.heap[b]?=some o:=a
theorem bD{w:World}{o:Obj}{b:Nat}(c:w.heap[b]?=some o){a:Addr}(d:b≠a.block)(u:Value):(w.setCell a u).heap[b]?=some o:=(Below.heap_setCell w a u b d).trans c
theorem ab{w:World}{b:Nat}{c:Array Value}{t:TypeId}{fr:Nat×Nat}(a:w.heap[b]?=some (.cells c t fr))(i:Nat):w.cell? ⟨b,i,none⟩=c[i]?:=by simp[World.cell?,a]
theorem ay{w:World}{b:Nat}{c:Array Value}{t:TypeId}{fr:Nat×Nat}(a:w.heap[b]?=some (.cells c t fr))(i:Nat)(u:Value):(w.setCell ⟨b,i,none⟩ u).heap[b]?=some (.cells (c.setIfInBounds i u) t fr):=by simp[World.setCell,Array.getElem?_modify,a]
theorem an{w:World}{b:Nat}{c:Array Value}{t:TypeId}(a:w.heap[b]?=some (.cells c t (0,0)))(i:Nat):w.frozen? ⟨b,i,none⟩=false:=by simp[World.frozen?,a]
structure aA(B:Nat)(w w':World):Prop where
 os:w'.os=w.os
 tape:w'.tape=w.tape
 output:w'.output=w.output
 size:w.heap.size≤w'.heap.size
 block:∀a,a<w.heap.size→a≠B→w'.heap[a]?=w.heap[a]?
theorem aA.of{B:Nat}{w w':World}(a:J w w'):aA B w w':=⟨a.os,a.tape,a.output,a.size,fun c b _=>a.block c b⟩
theorem aA.refl(B:Nat)(w:World):aA B w w:=.of (J.refl w)
theorem aA.trans{B:Nat}{a b c:World}(d:aA B a b)(k:aA B b c):aA B a c:=⟨k.os.trans d.os,k.tape.trans d.tape,k.output.trans d.output,Nat.le_trans d.size k.size,fun g e f=>(k.block g (Nat.lt_of_lt_of_le e d.size) f).trans (d.block g e f)⟩
theorem aA.alloc{B:Nat}{a b:World}(c:aA B a b)(o:Obj):aA B a (b.alloc o):=c.trans (.of ((J.refl _).alloc _))
theorem aA.drew{B:Nat}{a b:World}(c:aA B a b):aA B a b.drew:=c.trans (.of (J.refl _).drew)
theorem aA.setCell{B:Nat}{a b:World}(c:aA B a b){p:Addr}(g:p.block=B∨a.heap.size≤p.block)(u:Value):aA B a (b.setCell p u):=⟨c.os,c.tape,c.output,by simpa[World.setCell]using c.size,fun f d e=>(Below.heap_setCell _ _ _ _ (by omega)).trans (c.block f d e)⟩
theorem aA.kept{B:Nat}{c w w':World}(a:J c w)(f:c.heap.size≤B)(b:aA B w w'):J c w':=⟨b.os.trans a.os,b.tape.trans a.tape,b.output.trans a.output,Nat.le_trans a.size b.size,fun e d=>(b.block e (Nat.lt_of_lt_of_le d a.size) (by omega)).trans (a.block e d)⟩
theorem aA.cell{B:Nat}{w w':World}(b:aA B w w'){p:Addr}{v:Value}(c:p.block≠B)(a:w.cell? p=some v):w'.cell? p=some v:=(World.cell?_of_block (w:=w) (b.block p.block (bJ a) c)).trans a
theorem aA.frozen{B:Nat}{w w':World}(a:aA B w w'){p:Addr}(c:p.block<w.heap.size)(b:p.block≠B):w'.frozen? p=w.frozen? p:=World.frozen?_of_block (w:=w) (a.block p.block c b)
theorem aA.JP{B:Nat}{w w':World}(c:aA B w w'){b:Nat}{o:Obj}(d:b≠B)(a:w.heap[b]?=some o):w'.heap[b]?=some o:=(c.block b (Array.getElem?_eq_some_iff.1 a).1 d).trans a
def bC(w:World)(v:Value)(l:List Int):Prop:=∃d f,v=.slice d l.length f∧l.length≤17592186043904∧∀b e,l[b]?=some e→∃a c,d=some ⟨a,c,none⟩∧w.cell? ⟨a,c+b,none⟩=some (.int .i64 e)
theorem bC.kept{w w':World}(e:J w w'){v:Value}{l:List Int}(h:bC w v l):bC w' v l:=by obtain⟨n,b,c,i,g⟩:=h;refine⟨n,b,c,i,fun k o j=>?_⟩;obtain⟨a,m,d,f⟩:=g k o j;exact⟨a,m,d,e.cell f⟩
theorem bC.nil(w:World):bC w (.slice none 0 0) []:=⟨none,0,rfl,by simp,fun b c a=>by simp at a⟩
def ev(w:World)(v:Value)(c:List (Int×Int)):Prop:=∃f g,v=.slice f c.length g∧c.length≤8796093022208∧∀b e,c[b]?=some e→∃a d,f=some ⟨a,d,none⟩∧w.cell? ⟨a,d+b*2,none⟩=some (.int .i64 e.1)∧w.cell? ⟨a,d+b*2+1,none⟩=some (.int .i64 e.2)
def aK(w:World)(v:Value)(p:List Fn):Prop:=∃f g,v=.slice f p.length g∧p.length≤8796093022208∧∀c b,p[c]?=some b→∃a d e,f=some ⟨a,d,none⟩∧w.cell? ⟨a,d+c*3,none⟩=some (.int .i64 b.args)∧w.cell? ⟨a,d+c*3+1,none⟩=some (.int .i64 b.locals)∧w.cell? ⟨a,d+c*3+2,none⟩=some e∧ev w e b.code
def bm(w:World):Prop:=∀a,a<51→w.cell? ⟨2,a,none⟩=some (.int .i64 (nU.getD a 0))
theorem ev.kept{w w':World}(a:J w w'){v:Value}{c:List (Int×Int)}(h:ev w v c):ev w' v c:=by obtain⟨n,d,e,j,i⟩:=h;refine⟨n,d,e,j,fun l o k=>?_⟩;obtain⟨b,m,f,g,h2⟩:=i l o k;exact⟨b,m,f,a.cell g,a.cell h2⟩
theorem aK.kept{w w':World}(a:J w w'){v:Value}{p:List Fn}(m:aK w v p):aK w' v p:=by obtain⟨q,c,e,l,k⟩:=m;refine⟨q,c,e,l,fun n g j=>?_⟩;obtain⟨b,o,d,f,h,h2,h3,i⟩:=k n g j;exact⟨b,o,d,f,a.cell h,a.cell h2,a.cell h3,i.kept a⟩
theorem bm.kept{w w':World}(a:J w w')(b:bm w):bm w':=fun d c=>a.cell (b d c)
theorem aK.lt{w:World}{v:Value}{p:List Fn}(b:aK w v p):p.length≤8796093022208:=by obtain⟨_,_,_,a,_⟩:=b;exact a
theorem jq{w:World}{b i B j:Nat}{v:Value}(a:w.cell? ⟨b,i,none⟩=some v)(c:b≠B)(u:Value):(w.setCell ⟨B,j,none⟩ u).cell? ⟨b,i,none⟩=some v:=by
 rw[World.cell?_of_block (w:=w)];·exact a
 ·exact Below.heap_setCell w _ _ _ c
end Go.Proofs.YtokhibfenccijaaGreatDoor
namespace Go.Proofs.YtokhibfenccijaaGreatDoor
open Go.Proofs.Tryz
open Go.RowKit Go.ChangeShapes Go.WideShapes Go.ChangeAt
theorem own:ownKnob prog.godebug=none:=by kernel_rfl
theorem laidOut:laidOutB prog=true:=by kernel_rfl
theorem pV:prog.cellsOf 3=1:=by kernel_rfl
section
variable {H:Type}{enc:TypeId×Value→H}{w:World}{base:Nat}{spare:Nat→Bool}{held:Bool}
end
theorem xn{H:Type}{enc:TypeId×Value→H}{c i:World}(j:J c i):∀{e:List TypeId}{f:List Value}{d:List (DataW H)}{ps:List MemPlace},(∀a,a∈e→prog.readableRec a=true∧a<prog.types.size)→DataW.TrodAll enc prog c 0 (fun _=>true) true e f d ps→(∀b,b∈ps→b.block<c.heap.size)→DataW.TrodAll enc prog i 0 (fun m=>decide (m<c.heap.size)) true e f d ps
 |[],f,d,ps,_,g,_=>by obtain⟨rfl,rfl,rfl⟩:=trodAll_nil g;exact trodAll_mk0
 |a::e,f,d,ps,l,g,k=>by obtain⟨w,x,s,t,u,v,rfl,rfl,rfl,n,o⟩:=trodAll_cons g;obtain⟨q,r⟩:=l a (by simp);exact trodAll_cons_mk (Below.trod laidOut q r n j (fun b h=>k b (by simp[h]))) (xn j (fun a p=>l a (by simp[p])) o (fun b h=>k b (by simp[h])))
end Go.Proofs.YtokhibfenccijaaGreatDoor
namespace Go.Proofs.YtokhibfenccijaaGreatDoor
open Go.Proofs.Tryz
open Go.RowKit Go.ChangeShapes Go.WideShapes Go.ChangeAt
theorem yG:prog.cellsOf 154=3:=by kernel_rfl
theorem Jq:∃a b c:Field,prog.underlying 154=some (.struct #[a,b,c])∧a.type=3∧a.offset=0∧b.type=3∧b.offset=1∧c.type=3∧c.offset=2:=⟨_,_,_,underlying154,rfl,rfl,rfl,rfl,rfl,rfl⟩
section
variable {H:Type}{enc:TypeId×Value→H}{w:World}{base:Nat}{spare:Nat→Bool}{held:Bool}
end
theorem uu:prog.globalNamed "glebe/op.kinds"=some 2:=by kernel_rfl
theorem Cg:(prog.globals[2]?).map (·.type)=some 155:=by kernel_rfl
theorem Dq{H:Type}(i:Nat)(a:i<17):([.agg [.lit (.int .i64 0),.lit (.int .i64 1),.lit (.int .i64 1)],.agg [.lit (.int .i64 1),.lit (.int .i64 0),.lit (.int .i64 0)],.agg [.lit (.int .i64 0),.lit (.int .i64 1),.lit (.int .i64 2)],.agg [.lit (.int .i64 1),.lit (.int .i64 0),.lit (.int .i64 2)],.agg [.lit (.int .i64 2),.lit (.int .i64 1),.lit (.int .i64 0)],.agg [.lit (.int .i64 2),.lit (.int .i64 1),.lit (.int .i64 0)],.agg [.lit (.int .i64 2),.lit (.int .i64 1),.lit (.int .i64 0)],.agg [.lit (.int .i64 2),.lit (.int .i64 1),.lit (.int .i64 0)],.agg [.lit (.int .i64 2),.lit (.int .i64 1),.lit (.int .i64 0)],.agg [.lit (.int .i64 0),.lit (.int .i64 0),.lit (.int .i64 3)],.agg [.lit (.int .i64 1),.lit (.int .i64 0),.lit (.int .i64 3)],.agg [.lit (.int .i64 0),.lit (.int .i64 1),.lit (.int .i64 4)],.agg [.lit (.int .i64 1),.lit (.int .i64 0),.lit (.int .i64 0)],.agg [.lit (.int .i64 0),.lit (.int .i64 1),.lit (.int .i64 4)],.agg [.lit (.int .i64 2),.lit (.int .i64 1),.lit (.int .i64 0)],.agg [.lit (.int .i64 1),.lit (.int .i64 1),.lit (.int .i64 0)],.agg [.lit (.int .i64 1),.lit (.int .i64 0),.lit (.int .i64 0)]]:List (DataW H))[i]?=some (.agg [.lit (.int .i64 (tk i)),.lit (.int .i64 (lv i)),.lit (.int .i64 (bA i))]):=by
 have:i=0∨i=1∨i=2∨i=3∨i=4∨i=5∨i=6∨i=7∨i=8∨i=9∨i=10∨i=11∨i=12∨i=13∨i=14∨i=15∨i=16:=by omega
 rcases this with rfl|rfl|rfl|rfl|rfl|rfl|rfl|rfl|rfl|rfl|rfl|rfl|rfl|rfl|rfl|rfl|rfl<;>rfl
theorem Dk{f:World}(q:laidMetH prog [("glebe/op.kinds",Rows.laid_glebe_op_kinds)] f):bm f:=by
 obtain⟨Z,⟨S,a1,g,Q,Y,a0,u,x,z,t,_,_⟩,_⟩:=(q:laidMet prog [("glebe/op.kinds",Rows.laid_glebe_op_kinds)] f);obtain rfl:=Option.some.inj (uu.symm.trans u);obtain rfl:=Option.some.inj (Cg.symm.trans x);obtain⟨m,W,_,A,_,V,v⟩:=DataW.trod_array underlying155 t;have l:(Rows.laid_glebe_op_kinds:DataW Unit)=.agg (m.map (·.1)):=congrArg Prod.fst A;have w:∀a,a<17→(m[a]?).map (·.1)=some (.agg [.lit (.int .i64 (tk a)),.lit (.int .i64 (lv a)),.lit (.int .i64 (bA a))]):=by intro a e;rw[←List.getElem?_map,←Dq a e];unfold Rows.laid_glebe_op_kinds at l;rw[←DataW.agg.inj l]
 have s:∀a,a<17→g[a*3]?=some (.int .i64 (tk a))∧g[a*3+1]?=some (.int .i64 (lv a))∧g[a*3+2]?=some (.int .i64 (bA a)):=by
  intro a e;have d:=v a e;obtain⟨a2,B,h⟩:=Option.map_eq_some_iff.1 (w a e);rw[B,yG]at d;obtain⟨N,O,P,y,K,D,L,E,M,F⟩:=Jq;obtain⟨a3,a4,a5,X,C,_,i,j,k⟩:=Deep.trod_struct3 y d;rw[K,D,pV]at i;rw[L,E,pV]at j;rw[M,F,pV]at k;obtain⟨a6,n,G,_⟩:=DataW.trod_int underlying3 i;obtain⟨a7,o,H,_⟩:=DataW.trod_int underlying3 j;obtain⟨a8,p,I,_⟩:=DataW.trod_int underlying3 k;rw[C,G,H,I]at h;simp at h;obtain⟨rfl,rfl,rfl⟩:=h;refine⟨?_,?_,?_⟩;·have:=congrArg (·[0]?) n;simpa[List.getElem?_take,List.getElem?_drop]using this
  ·have:=congrArg (·[0]?) o;simpa[List.getElem?_take,List.getElem?_drop,Nat.add_comm,Nat.add_left_comm]using this
  ·have:=congrArg (·[0]?) p;simpa[List.getElem?_take,List.getElem?_drop,Nat.add_comm,Nat.add_left_comm]using this
 intro c T;rw[World.var?_cell uu z c];obtain⟨r,d,h2⟩:=s (c/3) (by omega);have:c=c/3*3∨c=c/3*3+1∨c=c/3*3+2:=by omega
 rcases this with b|b|b;·rw[b,r];unfold tk;rw[←b]
 ·rw[b,d];unfold lv;rw[←b]
 ·rw[b,h2];unfold bA;rw[←b]
end Go.Proofs.YtokhibfenccijaaGreatDoor
namespace Go.Proofs.YtokhibfenccijaaGreatDoor
open Go.Proofs.Tryz
def aJ:List (List UInt8×Nat):=[([112,117,115,104],1),([112,111,112],0),([108,111,97,100],1),([115,116,111,114,101],1),([97,100,100],0),([115,117,98],0),([109,117,108],0),([108,101,115,115],0),([115,97,109,101],0),([106,117,109,112],1),([122,101,114,111],1),([99,97,108,108],1),([114,101,116,117,114,110],0),([109,97,107,101],1),([114,101,115,117,109,101],0),([121,105,101,108,100],0),([112,117,116],0)]
def cJ(a:List UInt8)(l:List Int):List UInt8:=Lib.join (a::l.map Lib.itoa) [32]++[10]
def cM(x:Int×Int):List UInt8:=if(aJ.getD x.1.toNat ([],0)).2=0 then cJ (aJ.getD x.1.toNat ([],0)).1 []else cJ (aJ.getD x.1.toNat ([],0)).1 [x.2]
def bL(f:Fn):List UInt8:=cJ [102,117,110,99] [f.args,f.locals]++f.code.flatMap cM
def bI(p:List Fn):List UInt8:=p.flatMap bL
open Go.RowKit
theorem eb{o:Oper}{a:Act}{K:Act→World→Prop}{c:Exit→Act→World→Prop}(w:World)(s x:Operand)(t:TypeId)(e:o.op=.call {callee:=.builtin .append,args:=#[s,x],argTypes:=#[t,t]}){v u b:Value}{w':World}(g:a.eval s=v)(h:a.eval x=u)(f:(Builtin.append_ #[t,t] o.type #[v,u]).run prog w=.ok b w')(d:K (a.put o.dst b) w'):o.wp prog a w K c:=by unfold Oper.wp execOp;simp only[e,resolve,invoke,builtin,Sem.run_bind,Sem.run_pure,Result.andThen_ok,List.map_toArray,List.map_cons,List.map_nil,g,h,f];exact d
theorem ir{c:Array Oper}{rest:List Oper}{o:Oper}{a:Act}{b:Exit→Act→World→Prop}(w:World)(g:o.guard=none)(s x:Operand)(t:TypeId)(h:o.op=.call {callee:=.builtin .append,args:=#[s,x],argTypes:=#[t,t]}){v u d:Value}{w':World}(j:a.eval s=v)(k:a.eval x=u)(i:(Builtin.append_ #[t,t] o.type #[v,u]).run prog w=.ok d w')(e:wpList prog c b rest (a.put o.dst d) w'):wpList prog c b (o::rest) a w:=wpList_plain g fun _ f=>eb w s x t h j k i (f _ _ e)
theorem IA{k:Array Oper}{o:Oper}{a:Act}{K:Act→World→Prop}{d:Exit→Act→World→Prop}{c:Prop}(w:World)(f:o.guard=none)(s x:Operand)(t:TypeId)(g:o.op=.call {callee:=.builtin .append,args:=#[s,x],argTypes:=#[t,t]}){v u b:Value}{w':World}(i:a.eval s=v)(j:a.eval x=u)(h:(Builtin.append_ #[t,t] o.type #[v,u]).run prog w=.ok b w')(e:K (a.put o.dst b) w'):if Region.wanted o (yielded k a.tmps)=true then Oper.wp prog o a w K d else c:=by rw[if_pos (by simp[Region.wanted,f])];exact eb w s x t g i j h e
theorem rO{w:World}{base i:Nat}{e:TypeId}{g:Nat}{v:Value}{n:Nat}{xs h:List Value}(l:w.ownsRow base e g v n xs)(b:w.ownsRow i e g v n h):xs=h:=by
 rcases l with⟨d,⟨rfl,rfl⟩|⟨t,r,j,rfl,_,o,_,_,_,p⟩⟩;·have f:=b.1;simp at d f;rw[d,f]
 ·rcases b with⟨_,⟨m,_⟩|⟨u,s,k,a,_,c,_,_,_,q⟩⟩;·cases m
  ·simp only[Value.slice.injEq,Option.some.injEq,Addr.mk.injEq]at a;obtain⟨⟨rfl,_⟩,_⟩:=a;rw[o]at c;obtain rfl:j=k:=by simpa using c
   rw[←p,q]
def di(c:List (Int×Int)):List Value:=c.flatMap fun a=>[.int .i64 a.1,.int .i64 a.2]
theorem mz:∀(c:List (Int×Int))(i:Nat)(x:Int×Int),c[i]?=some x→(di c)[i*2]?=some (.int .i64 x.1)∧(di c)[i*2+1]?=some (.int .i64 x.2)
 |[],i,x,a=>by simp at a
 |b::c,0,x,a=>by simp at a;subst a;simp[di]
 |b::c,i+1,x,a=>by
  have:=mz c i x (by simpa using a);have d:di (b::c)=.int .i64 b.1::.int .i64 b.2::di c:=by simp[di]
  rw[d,show(i+1)*2=i*2+1+1 by omega];simpa using this
theorem kS{w:World}{b:Nat}{A:Array Value}{t:TypeId}{fr:Nat×Nat}(a:w.heap[b]?=some (.cells A t fr))(c:List (Int×Int))(g:A=(di c).toArray)(h:c.length≤8796093022208)(n cap:Nat)(i:n=c.length):ev w (.slice (some ⟨b,0,none⟩) n cap) c:=by
 subst i g;refine⟨_,_,rfl,h,fun e f d=>⟨b,0,rfl,?_,?_⟩⟩;·rw[ab a];simpa using(mz c e f d).1
 ·rw[ab a];simpa using(mz c e f d).2
def jv(l:List (Fn×Value)):List Value:=l.flatMap fun a=>[.int .i64 a.1.args,.int .i64 a.1.locals,a.2]
theorem tY:∀(l:List (Fn×Value))(i:Nat)(x:Fn×Value),l[i]?=some x→(jv l)[i*3]?=some (.int .i64 x.1.args)∧(jv l)[i*3+1]?=some (.int .i64 x.1.locals)∧(jv l)[i*3+2]?=some x.2
 |[],i,x,a=>by simp at a
 |b::c,0,x,a=>by simp at a;subst a;simp[jv]
 |b::c,i+1,x,a=>by
  have:=tY c i x (by simpa using a);have d:jv (b::c)=.int .i64 b.1.args::.int .i64 b.1.locals::b.2::jv c:=by simp[jv]
  rw[d,show(i+1)*3=i*3+1+1+1 by omega];simpa using this
theorem vW{w:World}{b:Nat}{A:Array Value}{t:TypeId}{fr:Nat×Nat}(c:w.heap[b]?=some (.cells A t fr))(l:List (Fn×Value))(g:A=(jv l).toArray)(i:l.length≤8796093022208)(h:∀a,a∈l→ev w a.2 a.1.code)(n cap:Nat)(j:n=l.length)(p:List Fn)(k:p=l.map (·.1)):aK w (.slice (some ⟨b,0,none⟩) n cap) p:=by
 subst j g k;refine⟨_,cap,by rw[List.length_map],by simpa using i,fun m o d=>?_⟩;rw[List.getElem?_map,Option.map_eq_some_iff]at d;obtain⟨a,e,rfl⟩:=d;obtain⟨f,h2,h3⟩:=tY l m a e;refine⟨b,0,a.2,rfl,?_,?_,?_,h a (List.mem_of_getElem? e)⟩;·rw[ab c];simpa using f
 ·rw[ab c];simpa using h2
 ·rw[ab c];simpa using h3
def jU:List (Int×Int):=[(13,1),(3,0),(2,0),(0,7),(14,0),(16,0),(2,0),(0,0),(14,0),(16,0),(2,0),(0,0),(14,0),(12,0)]
def jV:List (Int×Int):=[(2,0),(15,0),(1,0),(2,0),(0,1),(11,2),(15,0),(1,0),(0,99),(12,0),(0,5),(9,9)]
def jW:List (Int×Int):=[(2,0),(2,1),(4,0),(12,0)]
def aM:List Fn:=[⟨0,1,jU⟩,⟨1,1,jV⟩,⟨2,2,jW⟩]
def jg(c:Nat)(w:World)(v:Value):Prop:=∃b0 b1 a b,c≤b0∧b0<b1∧b1<a∧a<b∧v=.slice (some ⟨b,0,none⟩) 3 3∧w.heap[b0]?=some (.cells (di jU).toArray 72)∧w.heap[b1]?=some (.cells (di jV).toArray 72)∧w.heap[a]?=some (.cells (di jW).toArray 72)∧w.heap[b]?=some (.cells #[.int .i64 0,.int .i64 1,.slice (some ⟨b0,0,none⟩) 14 14,.int .i64 1,.int .i64 1,.slice (some ⟨b1,0,none⟩) 12 12,.int .i64 2,.int .i64 2,.slice (some ⟨a,0,none⟩) 4 4] 69)
theorem jg.prog{f:Nat}{w:World}{v:Value}(c:jg f w v):aK w v aM:=by
 obtain⟨b0,b1,b,g,_,_,_,_,rfl,d,e,h2,h3⟩:=c;refine vW h3 [(⟨0,1,jU⟩,.slice (some ⟨b0,0,none⟩) 14 14),(⟨1,1,jV⟩,.slice (some ⟨b1,0,none⟩) 12 12),(⟨2,2,jW⟩,.slice (some ⟨b,0,none⟩) 4 4)] rfl (by simp) ?_ 3 3 rfl aM rfl;intro h a;simp only[List.mem_cons,List.not_mem_nil,or_false]at a;rcases a with rfl|rfl|rfl;·exact kS d jU rfl (by decide) 14 14 rfl
 ·exact kS e jV rfl (by decide) 12 12 rfl
 ·exact kS h2 jW rfl (by decide) 4 4 rfl
open Go.RowKit Go.Maps
def dv(w:World):Prop:=Lib.TabIs prog w "internal/strconv.uint64pow10" .u64 Lib.pow10Tab
theorem dv.kept{w w':World}(a:dv w)(k:J w w'):dv w':=by
 have c:prog.globalNamed "internal/strconv.uint64pow10"=some 7:=by kernel_rfl
 unfold dv Lib.TabIs World.var? at a⊢;rw[c]at a⊢;simp only[Option.bind_some]at a⊢;have d:7<w.heap.size:=by
  cases b:w.heap[7]? with
  |none=>rw[b]at a;cases a
  |some e=>exact(Array.getElem?_eq_some_iff.1 b).1
 rw[k.block _ d];exact a
theorem Ct(w:World)(k:Nat)(b:Array Obj):J w (Sort.grow (w.drewN k) b):=⟨rfl,rfl,rfl,by simp[Sort.grow],fun c a=>by simp[Sort.grow,Array.getElem?_append,a]⟩
def aI(z:Int):Prop:=-9223372036854775808≤z∧z≤9223372036854775807
theorem qS(w:World)(z:Int)(a:aI z)(d:dv w):Calls prog 87 #[.int .i64 z] w fun b g=>b=.returned (.string ⟨(Lib.itoa z).toArray⟩)∧J w g:=(strconv_Itoa z a.1 a.2 w d).mono fun _ _⟨c,e,f,h2⟩=>⟨c,h2▸Ct w e f⟩
theorem mW:(prog.info? 9).map (fun a=>(a.zero,a.size,a.bytes))=some (some (.string ⟨#[]⟩),1,16):=by kernel_rfl
theorem DI(m:Nat):madeCells #[Value.string ⟨#[]⟩] (m*1)=Array.replicate m (Value.string ⟨#[]⟩):=by
 apply Array.ext;·simp[madeCells]
 ·intro b a h2;simp[madeCells,Nat.mod_one]
theorem DQ(m:Nat)(g:m≤1000000)(u:World):(Instr.makeSlice 38 (.int .i64 m) (.int .i64 m)).run prog u=.ok (.slice (some ⟨u.heap.size,0,none⟩) m m) (u.alloc (.cells (Array.replicate m (Value.string ⟨#[]⟩)) 9)):=by obtain⟨f,b,c,d,e⟩:=info_parts mW;have a:=run_make (P:=prog) u 38 9 f (.string ⟨#[]⟩) underlying38 b c .i64 .i64 (m:Int) (m:Int) (by omega) (Int.le_refl _) (by rw[e];omega) (by omega);rw[Int.toNat_natCast]at a;rw[←DI];simpa[d,Value.cells]using a
def aG(l:List UInt8):Value:=.string ⟨l.toArray⟩
def xP(w:World)(g:Nat)(l:List (List UInt8)):Prop:=∃a,w.heap[g]?=some (.cells a 9)∧a.size=l.length∧∀(b:Nat)c,l[b]?=some c→a[b]?=some (aG c)
theorem vA(w:World)(F:Value)(l:List Int)(O:bC w F l)(b0:l.length≤1000)(i:∀d∈l,aI d)(E:dv w):Calls prog 58 #[F] w fun r G=>∃s,r=.returned (.slice (some ⟨s,0,none⟩) l.length l.length)∧xP G s (l.map Lib.itoa)∧w.heap.size≤s∧J w G:=by
 obtain⟨b2,Z,rfl,T,t⟩:=O;have S:=DQ l.length (by omega);generalize C:l.length=e at*;have n:=R C;have H:=R t;have K:=R E;have M:=R i;have j:Hid (∃b,(w.alloc (.cells (Array.replicate e (Value.string ⟨#[]⟩)) 9)).heap[w.heap.size]?=some (.cells b 9)∧b.size=e∧(∀(c:Nat)d,c<0→l[c]?=some d→b[c]?=some (aG (Lib.itoa d)))∧J w (w.alloc (.cells (Array.replicate e (Value.string ⟨#[]⟩)) 9))):=R ⟨_,ah rfl,by simp,fun c d a2=>by omega,(J.refl w).alloc _⟩;have m:Hid (w.heap.size≤w.heap.size):=R (Nat.le_refl _);clear t C T E i;go_enter func58,ntmps58;go_wp2_with fail;generalize w.alloc (.cells (Array.replicate e (Value.string ⟨#[]⟩)) 9)=b3 at j⊢;obtain⟨f,B⟩:∃f,f=w.heap.size:=⟨_,rfl⟩;rw[←B]at j⊢;replace m:Hid (w.heap.size≤f):=R (by omega);clear B S;go_loopw[11](fun x wr=>∃a:Nat,a≤e∧x=.int .i64 a∧Hid (∃b,wr.heap[f]?=some (.cells b 9)∧b.size=e∧(∀(c:Nat)d,c<a→l[c]?=some d→b[c]?=some (aG (Lib.itoa d)))∧J w wr))(fun x _=>e-(intOf x).toNat);case atStart=>obtain⟨b,P⟩:=U j;exact⟨0,Nat.zero_le _,rfl,R ⟨b,P⟩⟩
 case round=>
  obtain⟨a,a9,rfl,o⟩:=hrel;clear j;by_cases Q:a<e
  ·obtain⟨b,a3,a4,a5,a6⟩:=U o;obtain⟨g,h⟩:∃g,l[a]?=some g:=⟨_,List.getElem?_eq_getElem (by rw[U n];exact Q)⟩;obtain⟨X,b1,rfl,q⟩:=(U H) a g h;replace q:=a6.cell q;have a7:(0:Int)≤(a:Int):=by omega
   have a8:(a:Int)<(e:Int):=by omega
   have A:=R (qS wr g ((U M) g (List.mem_of_getElem? h)) ((U K).kept a6));have L:=R h;have z:=R (And.intro a3 (And.intro a4 (And.intro a5 a6)));clear h a3 a4 a5 a6 o;go_wp2_with fail;refine(U A).mono ?_;rintro _ y⟨rfl,v⟩;obtain⟨a3,a4,a5,a6⟩:=U z;have k:=aw v a3;obtain⟨a0,Y⟩:∃N,y.cell? ⟨f,a,none⟩=some N:=⟨_,(ab k a).trans (Array.getElem?_eq_getElem (by omega))⟩;have a1:=an k a;have I:Hid (∃b,(y.setCell ⟨f,a,none⟩ (.string ⟨(Lib.itoa g).toArray⟩)).heap[f]?=some (.cells b 9)∧b.size=e∧(∀(c:Nat)d,c<a+1→l[c]?=some d→b[c]?=some (aG (Lib.itoa d)))∧J w (y.setCell ⟨f,a,none⟩ (.string ⟨(Lib.itoa g).toArray⟩))):=R (by
    refine⟨b.setIfInBounds a (.string ⟨(Lib.itoa g).toArray⟩),ay k a _,by simp[a4],fun c V t u=>?_,(a6.trans v).setCell (p:=⟨f,a,none⟩) (U m) _⟩;rw[Array.getElem?_setIfInBounds];by_cases D:c=a;·subst D;rw[if_pos rfl,if_pos (by omega)];rw[U L]at u;cases u;rfl
    ·rw[if_neg (fun r=>D r.symm)];exact a5 c V (by omega) u);generalize(ByteArray.mk (Lib.itoa g).toArray)=W at*;clear a3 a4 a5 a6 k v z A q;go_wp2_with fail;go_roundw;case rel=>exact⟨a+1,by omega,by go_num,I⟩
   case measure=>simp[intOf];omega
  ·obtain rfl:a=e:=by omega
   go_wp2;go_ret;obtain⟨b,a3,a4,a5,a6⟩:=U o;refine⟨f,rfl,⟨b,a3,by simp[a4,U n],fun c g h=>?_⟩,U m,a6⟩;rw[List.getElem?_map,Option.map_eq_some_iff]at h;obtain⟨d,i,rfl⟩:=h;exact a5 c d (by have:=(List.getElem?_eq_some_iff.1 i).1;have:=U n;omega) i
theorem mX(a b:List UInt8):(ByteArray.mk a.toArray)++(ByteArray.mk b.toArray)=⟨(a++b).toArray⟩:=by apply ByteArray.ext;simp
theorem tZ(xs:List (List UInt8)):(xs.map (fun a=>ByteArray.mk a.toArray)).map (·.data.toList)=xs:=by simp[Function.comp_def]
theorem xt(w:World)(g c:Nat)(xs:List (List UInt8))(i:xs.length≤c)(h:∀(b:Nat)a,xs[b]?=some a→w.cell? ⟨g,b,none⟩=some (aG a))(n:g<w.heap.size)(k:(Lib.join xs [32]).length≤1000000)(o:xs.length≤1000):Calls prog 17 #[.slice (some ⟨g,0,none⟩) xs.length c] w fun d e=>d=.returned (aG (Lib.join xs [32]++[10]))∧J w e:=by
 have f:Hid (Calls prog 39 #[.slice (some ⟨g,0,none⟩) xs.length c,.string ⟨#[32]⟩] w fun d e=>d=.returned (.string ⟨(Lib.join xs [32]).toArray⟩)∧J w e):=R (by have:=strings_Join g 0 c (xs.map (fun a=>ByteArray.mk a.toArray)) ⟨#[32]⟩ w (fun b a j=>by rw[List.getElem?_map,Option.map_eq_some_iff]at j;obtain⟨q,p,rfl⟩:=j;rw[Nat.zero_add];exact h b q p) n (by simp;omega) (by simpa using i) (by rw[tZ];exact Nat.le_trans k (by omega));rw[tZ,List.length_map]at this;exact this);have t:=mX (Lib.join xs [32]) [10];have u:¬9223372036854775807<(ByteArray.mk (Lib.join xs [32]).toArray).size+1:=by rw[show(ByteArray.mk (Lib.join xs [32]).toArray).size=(Lib.join xs [32]).length by simp[ByteArray.size]];omega
 unfold aG;generalize(ByteArray.mk (Lib.join xs [32]).toArray)=r at*;generalize(ByteArray.mk (Lib.join xs [32]++[10]).toArray)=s at*;generalize xs.length=v at*;clear h k o i;go_enter func17,ntmps17;go_wp2_with fail;refine(U f).mono ?_;rintro _ x⟨rfl,l⟩;have m:=R l;clear l f;go_wp2_with fail;go_ret;exact⟨rfl,U m⟩
theorem kZ(xs:List (List UInt8))(k:Nat)(b:∀a∈xs,a.length≤k):(Lib.join xs [32]).length≤xs.length*(k+1):=by
 induction xs with
 |nil=>simp[Lib.join]
 |cons a xs e=>
  have f:=b a (by simp);have h2:=e (fun c d=>b c (by simp[d]));cases xs with
  |nil=>simp[Lib.join,List.intercalate]at*;omega
  |cons c g=>simp only[Lib.join,List.intercalate,List.intersperse,List.flatten_cons,List.length_append,List.length_cons,List.length_nil]at*;rw[Nat.add_mul];omega
theorem kV(n:Nat):∀a,n<10^a→0<a→(Lib.decDigits n).length≤a:=by
 intro a;induction a generalizing n with
 |zero=>intro _ b;omega
 |succ a d=>
  intro b _;unfold Lib.decDigits;split;·simp
  ·have c:n/10<10^a:=by rw[Nat.pow_succ]at b;omega
   have h2:0<a:=by
    cases a with
    |zero=>simp at b;omega
    |succ a=>omega
   have:=d (n/10) c h2;simp;omega
theorem gP{z:Int}(a:aI z):(Lib.itoa z).length≤20:=by
 unfold Lib.itoa;obtain⟨b,h2⟩:=a;split;·have:=kV z.natAbs 19 (by simp;omega) (by omega);simp;omega
 ·have:=kV z.toNat 19 (by simp;omega) (by omega);omega
theorem ks{w w':World}{base:Nat}{e:TypeId}{b:Nat}{v:Value}{n:Nat}{xs:List Value}(a:w.ownsRow base e b v n xs)(k:J w w'):w'.ownsRow base e b v n xs:=by
 refine⟨a.1,?_⟩;rcases a.2 with i|⟨f,c,d,rfl,g,h,j⟩;·exact .inl i
 ·exact .inr ⟨f,c,d,rfl,g,aw k h,j⟩
theorem sa(w:World)(b:List UInt8)(u:Value)(l:List Int)(D:bC w u l)(N:b.length≤1000)(b5:l.length≤10)(t:∀x∈l,aI x)(M:dv w):Calls prog 26 #[.string ⟨b.toArray⟩,u] w fun r v=>r=.returned (aG (cJ b l))∧J w v:=by
 obtain⟨a8,Z,a5,a6,a7⟩:=info_parts mW;have y:=R (vA (w.alloc (.cells #[.string ⟨b.toArray⟩] 9)) u l (D.kept ((J.refl w).alloc _)) (by omega) t (M.kept ((J.refl w).alloc _)));have q:Hid ((w.alloc (.cells #[.string ⟨b.toArray⟩] 9)).ownsRow w.heap.size 9 1 (.slice (some ⟨w.heap.size,0,none⟩) 1 1) 1 [aG b]):=R ⟨rfl,.inr ⟨w.heap.size,1,_,rfl,Nat.le_refl _,ah rfl,Nat.le_refl _,by unfold maxLen;omega,rfl,rfl⟩⟩;have A:Hid ((Lib.join (b::l.map Lib.itoa) [32]).length≤1000000):=R (by
  have:=kZ (b::l.map Lib.itoa) 1000 (fun o k=>by
   rcases List.mem_cons.1 k with rfl|k;·exact N
   ·obtain⟨x,a4,rfl⟩:=List.mem_map.1 k;have:=gP (t x a4);omega);simp only[List.length_cons,List.length_map]at this;have h2:(l.length+1)*(1000+1)≤11*1001:=Nat.mul_le_mul (by omega) (by omega);omega);unfold cJ;obtain⟨b7,b2,rfl,_⟩:=D;generalize F:l.length=h at*;have B:=R F;clear t M N F;generalize(ByteArray.mk b.toArray)=b1 at*;go_enter func26,ntmps26;go_wp2_with fail;refine(U y).mono ?_;rintro _ Q⟨j,rfl,⟨b3,h2,a1,G⟩,X,g⟩;obtain⟨a9,n,L,K,I,_,_⟩:=run_append_own_at (P:=prog) (w:=Q) w.heap.size 38 38 9 a8 _ 1 16 underlying38 Z a5 a6 a7 rfl (by decide) _ 1 [aG b] (ks (U q) g) ⟨j,0,none⟩ h h ((l.map Lib.itoa).map aG) (by simp[U B]) (fun d m c=>by
  have:((⟨j,0,none⟩:Addr).add d)=⟨j,d,none⟩:=by unfold Addr.add;split<;>simp_all
  rw[this,ab h2];rw[List.getElem?_map,Option.map_eq_some_iff]at c;obtain⟨o,k,rfl⟩:=c;exact G d o k) (fun m a3=>by obtain⟨o,_,rfl⟩:=List.mem_map.1 a3;rfl) (by unfold maxLen;omega) (by omega) (by have:=g.size;simp at this;omega);have E:J w n:=Below.grown (a:=w) (w:=Q) ((J.refl w).alloc _|>.trans g) I (by have:=g.size;simp at this;omega) (fun j W=>(World.ownsRow.lt (ks (U q) g) j W).1);obtain⟨f,e,i,rfl,s,V,H⟩:∃f e i,a9=.slice (some ⟨f,0,none⟩) (1+h) e∧n.heap[f]?=some (.cells i 9)∧1+h≤e∧∀(d:Nat)m,([aG b]++(l.map Lib.itoa).map aG)[d]?=some m→i[d]?=some m:=by
  obtain⟨b6,⟨_,b4⟩|⟨f,e,i,rfl,_,Y,S,_,_,a2⟩⟩:=K;·omega
  ·refine⟨f,e,i,rfl,Y,S,fun d m c=>?_⟩;rw[←a2,List.getElem?_take]at c;split at c;·simpa using c
   ·cases c
 have z:Hid (Calls prog 17 #[.slice (some ⟨f,0,none⟩) (1+h) e] n fun r v=>r=.returned (aG (Lib.join (b::l.map Lib.itoa) [32]++[10]))∧J n v):=R (by
  have a0:(b::l.map Lib.itoa).length=1+h:=by simp[U B];omega
  have:=xt n f e (b::l.map Lib.itoa) (by omega) (fun d o c=>by rw[ab s];exact H d _ (by rw[show[aG b]++(l.map Lib.itoa).map aG=(b::l.map Lib.itoa).map aG by simp,List.getElem?_map,c];rfl)) (Array.getElem?_eq_some_iff.1 s).1 (U A) (by omega);rwa[a0]at this);have C:=R L;have p:=R E;clear E L K I s V H h2 a1 G X g q A y;go_wp2_with(at_builtin;refine U ?_);refine R ?_;refine ir _ rfl (.tmp 6) (.tmp 8) 38 rfl rfl rfl (U C) ?_;clear C;go_wp2_with fail;refine(U z).mono ?_;rintro _ b8⟨rfl,O⟩;replace p:=R ((U p).trans O);clear O z;unfold aG;generalize T:(ByteArray.mk (Lib.join (b::l.map Lib.itoa) [32]++[10]).toArray)=b0 at*;go_wp2_with fail;go_ret;exact⟨by rw[aG,T];rfl,U p⟩
def iR(w:World):Prop:=∀a,a<17→w.cell? ⟨0,a*2,none⟩=some (aG (aJ.getD a ([],0)).1)∧w.cell? ⟨0,a*2+1,none⟩=some (.int .i64 ((aJ.getD a ([],0)).2:Nat))
theorem iR.kept{w w':World}(a:iR w)(k:J w w'):iR w':=fun c b=>⟨k.cell (a c b).1,k.cell (a c b).2⟩
theorem mY(k:Nat):(aJ.getD k ([],0)).1.length≤6:=by
 by_cases a:k<17;·revert a;revert k;decide
 ·rw[show aJ.getD k ([],0)=([],0)by simp[List.getD,List.getElem?_eq_none (show aJ.length≤k by simp[aJ];omega)]];simp
theorem Fs(w:World)(k:Nat)(a:Int)(s:k<17)(y:aI a)(m:dv w)(n:iR w):Calls prog 27 #[.agg #[.int .i64 k,.int .i64 a]] w fun d f=>d=.returned (aG (cM (k,a)))∧J w f:=by
 have h:Hid (∀b,J w b→Calls prog 26 #[.string ⟨(aJ.getD k ([],0)).1.toArray⟩,.slice none 0 0] b fun d f=>d=.returned (aG (cJ (aJ.getD k ([],0)).1 []))∧J b f):=R fun b o=>sa b _ _ [] (bC.nil b) (by have:=mY k;omega) (by simp) (by simp) (m.kept o);have i:Hid (∀b g,J w b→b.heap[g]?=some (.cells #[.int .i64 a] 3)→Calls prog 26 #[.string ⟨(aJ.getD k ([],0)).1.toArray⟩,.slice (some ⟨g,0,none⟩) 1 1] b fun d f=>d=.returned (aG (cJ (aJ.getD k ([],0)).1 [a]))∧J b f):=R fun b g o z=>sa b _ _ [a] ⟨_,_,rfl,by simp,fun v E u=>⟨g,0,rfl,by
  rw[ab z,Nat.zero_add];cases v with
  |zero=>simpa using u
  |succ v=>simp at u⟩⟩ (by have:=mY k;omega) (by simp) (by simpa using y) (m.kept o);have b0:∀c:Obj,(w.alloc c).cell? ⟨0,k*2,none⟩=some (aG (aJ.getD k ([],0)).1):=fun c=>((J.refl w).alloc c).cell (n k s).1;have b1:∀c:Obj,(w.alloc c).cell? ⟨0,k*2+1,none⟩=some (.int .i64 ((aJ.getD k ([],0)).2:Nat)):=fun c=>((J.refl w).alloc c).cell (n k s).2;unfold cM;simp only[Int.toNat_natCast];generalize(aJ.getD k ([],0)).1=q at*;generalize(aJ.getD k ([],0)).2=p at*;unfold aG at b0;generalize(ByteArray.mk q.toArray)=r at*;have B:(0:Int)≤(k:Int):=by omega
 have C:(k:Int)<17:=by omega
 clear m n;by_cases t:p=0;·subst t;rw[if_pos rfl];go_enter func27,ntmps27;go_wp2_with fail;refine((U h) _ (((J.refl w).alloc _).alloc _)).mono ?_;rintro _ A⟨rfl,e⟩;have j:=R ((((J.refl w).alloc (.cells #[.int .i64 (k:Int),.int .i64 a] 72)).alloc (.cells #[.string r,.int .i64 0] 107)).trans e);clear e h i b0 b1;unfold aG;generalize l:(ByteArray.mk (cJ q []).toArray)=x at*;go_wp2_with fail;go_ret;exact⟨by rw[aG,l];rfl,U j⟩
 ·rw[if_neg t];have D:((p:Int)==0)=false:=by simp;omega
  go_enter func27,ntmps27;go_wp2_with fail;refine((U i) _ _ ((((J.refl w).alloc _).alloc _).alloc _) (ah (by simp))).mono ?_;rintro _ A⟨rfl,e⟩;have j:=R (((((J.refl w).alloc (.cells #[.int .i64 (k:Int),.int .i64 a] 72)).alloc (.cells #[.string r,.int .i64 (p:Int)] 107)).alloc (.cells #[.int .i64 a] 3)).trans e);clear e h i b0 b1;unfold aG;generalize l:(ByteArray.mk (cJ q [a]).toArray)=x at*;go_wp2_with fail;go_ret;exact⟨by rw[aG,l];rfl,U j⟩
theorem zt(w:World)(b:Nat)(d:w.shape? b=some (51,2)):(convert 48 115 (.pointer (some ⟨b,0,none⟩))).run prog w=.ok (.pointer (some ⟨b,0,none⟩)) w:=by
 obtain⟨e,a,c⟩:=Option.map_eq_some_iff.1 (show(prog.info? 51).map (·.size)=some 2 by kernel_rfl);simp[convert,run_underlying underlying48,run_underlying underlying115];conv=>lhs;arg 2;whnf
 simp only[Sem.run,Sem.bind,underlying48];change Sem.run prog ((pure _:Sem _)>>=_) w=_;simp[run_underlying underlying115,Conv.seenAt,viewAt,cellsIn,d,sizeOf,typeInfo,a,c]
theorem zs(w:World)(b:Nat)(d:w.shape? b=some (51,2)):(convert 115 48 (.pointer (some ⟨b,0,none⟩))).run prog w=.ok (.pointer (some ⟨b,0,none⟩)) w:=by
 obtain⟨f,a,e⟩:=Option.map_eq_some_iff.1 (show(prog.info? 51).map (·.size)=some 2 by kernel_rfl);have c:liesAt prog prog.depth 51 (2/prog.cellsOf 51) 0 51 1=true:=by kernel_rfl
 simp[convert,run_underlying underlying48,run_underlying underlying115];conv=>lhs;arg 2;whnf
 simp only[Sem.run,Sem.bind,underlying115];change Sem.run prog ((pure _:Sem _)>>=_) w=_;simp[run_underlying underlying48,Conv.seenAt,viewAt,d,variablesAt,c,sizeOf,typeInfo,a]
abbrev lW(B b:Nat)(a:List Value)(w:World):Prop:=Lib.BuilderAt 51 5 B b (.pointer (some ⟨b,0,none⟩)) a w
abbrev dA(B b:Nat)(a:List Value)(w:World):Prop:=Lib.IsBuilder 51 5 B b a w
def eK(w w':World):Prop:=∀(c:Nat)(b:Array Value)(a:TypeId),a≠51→a≠5→w.heap[c]?=some (.cells b a)→w'.heap[c]?=some (.cells b a)
theorem eK.trans{a b c:World}(h:eK a b)(k:eK b c):eK a c:=fun e d g f h2 i=>k e d g f h2 (h e d g f h2 i)
theorem eK.kept{w w':World}(k:J w w'):eK w w':=fun _ _ _ _ _ a=>aw k a
theorem eK.set{w:World}{b i:Nat}{c:Array Value}(f:w.heap[b]?=some (.cells c 51))(u:Value):eK w (w.setCell ⟨b,i,none⟩ u):=fun h g j e _ a=>bD a (fun d=>by simp only at d;subst d;rw[f]at a;simp only[Option.some.injEq,Obj.cells.injEq]at a;exact e a.2.1.symm) u
theorem zv(w:World)(B b:Nat)(e:List Value)(a:dA B b e w):Calls prog 38 #[.pointer (some ⟨b,0,none⟩)] w fun d j=>d=.returned (.tuple #[])∧lW B b e j∧Below B w j∧eK w j:=by
 rcases a with⟨g,u,c,i,h⟩|a
 ·have l:=ab c 0;have v:=an c 0;have f:Hid (lW B b e (w.setCell ⟨b,0,none⟩ (.pointer (some ⟨b,0,none⟩)))∧Below B w (w.setCell ⟨b,0,none⟩ (.pointer (some ⟨b,0,none⟩)))∧eK w (w.setCell ⟨b,0,none⟩ (.pointer (some ⟨b,0,none⟩)))):=R (by
   refine⟨⟨g,u,by have:=ay c 0 (.pointer (some ⟨b,0,none⟩));simpa using this,?_,h⟩,(Below.refl B w).setCell g _,eK.set c _⟩;refine⟨i.1,?_⟩;rcases i.2 with s|⟨o,m,n,rfl,p,q,t⟩;·exact .inl s
   ·exact .inr ⟨o,m,n,rfl,p,bD q (fun d=>h (by simp only at d;rw[d];rfl)) _,t⟩);have k:w.shape? b=some (51,2):=by simp[World.shape?,c]
  clear c i h g;go_enter func38,ntmps38;go_wp2;rw[zt w b k];simp only[Result.andThen];rw[Oper.upon_value];go_wp2;rw[run_callFunc_extern func68 (by kernel_rfl) (by kernel_rfl) (by kernel_rfl) (e:=Extern.AbiNoEscape.same) (by kernel_rfl)];rw[Lib.run_noEscape];simp only[Result.andThen];rw[Oper.upon_value];go_wp2;rw[zs w b k];simp only[Result.andThen];rw[Oper.upon_value];go_wp2;go_end0;exact⟨rfl,U f⟩
 ·have l:=a.cell0;have f:Hid (lW B b e w∧Below B w w∧eK w w):=R ⟨a,Below.refl B w,fun _ _ _ _ _ a=>a⟩;obtain⟨y,r,x⟩:=Option.map_eq_some_iff.1 (show(prog.info? 51).map (·.size)=some 2 by kernel_rfl);clear a;go_enter func38,ntmps38;go_wp2;rw[Lib.run_neq_ptr_same w _ underlying48 r];go_wp2;go_end0;exact⟨rfl,U f⟩
theorem JD{c:Array Oper}{rest:List Oper}{o:Oper}{a:Act}{b:Exit→Act→World→Prop}(w:World)(h:o.guard=none)(s x:Operand)(t d:TypeId)(i:o.op=.call {callee:=.builtin .append,args:=#[s,x],argTypes:=#[t,d]}){v u e:Value}{w':World}(k:a.eval s=v)(l:a.eval x=u)(j:(Builtin.append_ #[t,d] o.type #[v,u]).run prog w=.ok e w')(f:wpList prog c b rest (a.put o.dst e) w'):wpList prog c b (o::rest) a w:=wpList_plain h fun _ g=>by unfold Oper.wp execOp;simp only[i,resolve,invoke,builtin,Sem.run_bind,Sem.run_pure,Result.andThen_ok,List.map_toArray,List.map_cons,List.map_nil,k,l,j];exact g _ _ f
theorem Js:(prog.info? 5).map (fun a=>(a.zero,a.size,a.bytes))=some (some (.int .u8 0),1,1):=by kernel_rfl
theorem xB(w:World)(B b:Nat)(h:List Value)(s:ByteArray)(D:dA B b h w)(S:B≤w.heap.size)(X:h.length+s.size≤100000000000):Calls prog 16 #[.pointer (some ⟨b,0,none⟩),.string s] w fun c z=>c=.returned (.tuple #[.int .i64 s.size,.nilIface])∧lW B b (h++Lib.strCells s) z∧Below B w z∧eK w z:=by
 obtain⟨Z,E,H,I,K⟩:=info_parts Js;have A:=R (zv w B b h D);go_enter func16,ntmps16;go_wp2_with fail;refine(U A).mono ?_;rintro _ O⟨rfl,⟨v,N,p,o,F⟩,r,L⟩;obtain⟨a1,t,G,n,q,T⟩:=Lib.run_append_own_string (P:=prog) O B 49 9 49 5 Z underlying49 underlying9 E H I K N h.length h o s (by unfold maxLen;omega) (by omega) (by have:=r.size;omega);have a3:=ab p 1;have j:=(q.block b (Array.getElem?_eq_some_iff.1 p).1 (fun c=>F c.symm)).trans p;have a5:=ab j 1;have a6:=an j 1;obtain⟨g,k,d,rfl⟩:∃g y d,a1=.slice g y d:=by
  obtain⟨_,⟨rfl,_⟩|⟨a,l,m,rfl,_⟩⟩:=n;·exact⟨_,_,_,rfl⟩
  ·exact⟨_,_,_,rfl⟩
 obtain⟨b0,a9,a4,rfl⟩:∃g y d,N=.slice g y d:=by
  obtain⟨_,⟨rfl,_⟩|⟨a,l,m,rfl,_⟩⟩:=o;·exact⟨_,_,_,rfl⟩
  ·exact⟨_,_,_,rfl⟩
 have x:∀a,(Value.slice g k d).ownBlock=some a→a≠b:=fun a f c=>by
  obtain⟨_,⟨e,_⟩|⟨u,l,m,e,_,i,_⟩⟩:=n;·rw[e]at f;cases f
  ·rw[e]at f;obtain rfl:u=a:=by simpa[Value.ownBlock]using f
   rw[c,j]at i;simp only[Option.some.injEq,Obj.cells.injEq]at i;exact absurd i.2.1 (by decide)
 have M:eK O t:=fun a a2 b1 a7 h2 f=>(q.block a (Array.getElem?_eq_some_iff.1 f).1 (fun c=>by
  obtain⟨_,⟨e,_⟩|⟨u,l,m,e,_,i,_⟩⟩:=o;·rw[e]at c;cases c
  ·rw[e]at c;obtain rfl:a=u:=by simpa[Value.ownBlock]using c
   rw[f]at i;simp only[Option.some.injEq,Obj.cells.injEq]at i;exact h2 i.2.1)).trans f;have Q:Hid (lW B b (h++Lib.strCells s) (t.setCell ⟨b,1,none⟩ (.slice g k d))∧Below B w (t.setCell ⟨b,1,none⟩ (.slice g k d))∧eK w (t.setCell ⟨b,1,none⟩ (.slice g k d))):=R (by
  refine⟨⟨v,.slice g k d,by have:=ay j 1 (.slice g k d);simpa using this,?_,fun c=>x _ c rfl⟩,(Below.grown r q (by have:=r.size;omega) (fun a f=>(World.ownsRow.lt o a f).1)).setCell v _,(L.trans M).trans (eK.set j _)⟩;rw[show(h++Lib.strCells s).length=h.length+s.size by rw[List.length_append,Lib.strCells_length]];refine⟨n.1,?_⟩;rcases n.2 with Y|⟨a,l,m,e,V,W,a0⟩;·exact .inl Y
  ·exact .inr ⟨a,l,m,e,V,bD W (x a (by rw[e];rfl)) _,a0⟩);have C:=R G;clear D S E H I K A r L M v p o F G n q T j x;have a8:s.size≤100000000000:=by omega
 clear X;go_wp2_with(at_builtin;refine U ?_);refine R ?_;refine JD _ rfl (.tmp 12) (.tmp 13) 49 9 rfl rfl rfl (U C) ?_;clear C;go_wp2_with fail;go_ret2;exact⟨rfl,U Q⟩
theorem dA.kept{w w':World}{B b:Nat}{g:List Value}(h:dA B b g w)(k:J w w'):dA B b g w':=by
 rcases h with⟨a,f,c,e,d⟩|⟨a,f,c,e,d⟩;·exact .inl ⟨a,f,aw k c,ks e k,d⟩
 ·exact .inr ⟨a,f,aw k c,ks e k,d⟩
theorem dA.new(w:World):dA w.heap.size w.heap.size [] (w.alloc (.cells #[.pointer none,.slice none 0 0] 51)):=.inl ⟨Nat.le_refl _,.slice none 0 0,ah rfl,World.ownsRow_nil _ _ _ _,by simp[Value.ownBlock]⟩
def Eg(x:Int×Int):Bool:=decide (x.1=11)||decide (x.1=13)
def targets(c:List (Int×Int)):List Nat:=(c.filter Eg).map fun a=>a.2.toNat
def codeOf(p:List Fn)(g:Nat):List (Int×Int):=(p.getD g Fn.zero).code
def jN(p:List Fn)(f k:Nat):Prop:=∀a:Nat→Prop,a f→(∀k b,k<p.length→a k→b∈targets (codeOf p k)→a b)→a k
theorem jN.step{p:List Fn}{f k j:Nat}(c:jN p f k)(g:k<p.length)(e:j∈targets (codeOf p k)):jN p f j:=fun b d a=>a k j g (c b d a) e
theorem jN.trans{p:List Fn}{f g k:Nat}(c:jN p f g)(d:jN p g k):jN p f k:=fun a e b=>d a (c a e b) b
def iP(B a:List Bool):Prop:=a.length=B.length∧∀b,B.getD b false=true→a.getD b false=true
theorem iP.refl(B:List Bool):iP B B:=⟨rfl,fun _ a=>a⟩
theorem iP.trans{A B C:List Bool}(a:iP A B)(k:iP B C):iP A C:=⟨k.1.trans a.1,fun b c=>k.2 b (a.2 b c)⟩
theorem Ci(B:List Bool)(k i:Nat):(B.set k true).getD i false=true↔(i=k∧k<B.length)∨B.getD i false=true:=by
 simp only[List.getD,List.getElem?_set];by_cases a:k=i
 ·subst a;by_cases b:k<B.length;·simp[b]
  ·simp[b]
 ·simp[a,Ne.symm a]
theorem iP.set(B:List Bool)(k:Nat):iP B (B.set k true):=⟨by simp,fun b a=>(Ci B k b).2 (.inr a)⟩
def gX(B:List Bool):Nat:=(B.filter fun a=>!a).length
theorem xq:∀(B:List Bool)(k:Nat),k<B.length→B.getD k false=false→gX (B.set k true)+1=gX B
 |[],k,a,_=>by simp at a
 |b::B,0,_,a=>by simp at a;subst a;simp[gX]
 |b::B,k+1,d,a=>by
  have c:=xq B k (by simpa using d) (by simpa using a);simp only[gX,List.set_cons_succ,List.filter_cons]at c⊢;cases b;·simp only[Bool.not_false,if_true,List.length_cons];omega
  ·simpa using c
def kO(p:List Fn)(B a:List Bool):Prop:=iP B a∧∀b c,a.getD b false=true→B.getD b false=false→c∈targets (codeOf p b)→a.getD c false=true
theorem kO.refl(p:List Fn)(B:List Bool):kO p B B:=⟨.refl B,fun d c b a=>by rw[b]at a;cases a⟩
theorem kO.trans{p:List Fn}{A B C:List Bool}(d:kO p A B)(a:kO p B C):kO p A C:=⟨d.1.trans a.1,fun c b h g f=>by
 cases e:B.getD c false with
 |true=>exact a.1.2 b (d.2 c b e g f)
 |false=>exact a.2 c b h e f⟩
def dd(p:List Fn)(x:Int×Int)(a:Int):Option Int:=if(ct p x.1 x.2).2.2=0∧(ct p x.1 x.2).1≤a∧¬(x.1=12∧1<a)∧a-(ct p x.1 x.2).1+(ct p x.1 x.2).2.1≤8 then some (a-(ct p x.1 x.2).1+(ct p x.1 x.2).2.1)else none
def bx(x:Int×Int)(k:Nat):List Nat:=if x.1=12 then[]else if x.1=9 then[x.2.toNat]else if x.1=10 then[x.2.toNat,k+1]else[k+1]
def fa(f:List Int→Nat→Int→Bool×List Int):List Nat→List Int→Int→Bool×List Int
 |[],H,_=>(true,H)
 |c::d,H,b=>match f H c b with|(true,a)=>fa f d a b|(false,a)=>(false,a)
def ey(p:List Fn)(c:List (Int×Int)):Nat→List Int→Nat→Int→Bool×List Int
 |0,H,_,_=>(false,H)
 |e+1,H,a,b=>if c.length≤a then(false,H)else if H.getD a 0=-1 then match dd p (c.getD a (0,0)) b with|none=>(false,H.set a b)|some d=>fa (ey p c e) (bx (c.getD a (0,0)) a) (H.set a b) d else(decide (H.getD a 0=b),H)
theorem tr(f:List Int→Nat→Int→Bool×List Int):∀(l:List Nat)(j:Nat)(H:List Int)(m:Int),fa f (l++[j]) H m=match fa f l H m with|(true,a)=>f a j m|(false,a)=>(false,a)
 |[],j,H,m=>by
  simp only[List.nil_append,fa];cases f H j m with
  |mk b a=>cases b<;>rfl
 |c::l,j,H,m=>by
  simp only[List.cons_append,fa];cases f H c m with
  |mk b a=>
   cases b with
   |false=>rfl
   |true=>exact tr f l j a m
theorem zq(f:List Int→Nat→Int→Bool×List Int)(l:List Nat)(H c:List Int)(m:Int)(a:fa f l H m=(false,c)):∀b,fa f (l++b) H m=(false,c):=by
 induction l generalizing H with
 |nil=>simp[fa]at a
 |cons h l i=>
  intro b;simp only[List.cons_append,fa]at a⊢;cases g:f H h m with
  |mk e d=>
   rw[g]at a;cases e with
   |false=>exact a
   |true=>exact i d a b
def dE(H:List Int):Nat:=(H.filter (fun a=>decide (a=-1))).length
theorem sk:∀(H:List Int)(k:Nat)(z:Int),H.getD k 0=-1→z≠-1→dE (H.set k z)+1=dE H
 |[],k,z,a,_=>by simp at a
 |d::H,0,z,a,b=>by simp at a;subst a;simp[dE,b]
 |d::H,k+1,z,a,b=>by
  have c:=sk H k z (by simpa using a) b;simp only[dE,List.set_cons_succ,List.filter_cons]at c⊢;split;·simp only[List.length_cons];omega
  ·exact c
theorem gh{p:List Fn}{g:Fn}:∀{c:List (Int×Int)},dY p g c=0→∀d,d∈c→bu p g d=0
 |[],_,d,b=>by cases b
 |f::c,a,d,b=>by
  unfold dY at a;by_cases e:bu p g f=0
  ·rw[if_pos e]at a;rcases List.mem_cons.1 b with rfl|b;·exact e
   ·exact gh a d b
  ·rw[if_neg e]at a;exact absurd a e
theorem ei{p:List Fn}{g:Fn}{x:Int×Int}(a:bu p g x=0):0≤x.1∧x.1<17∧bZ p g (bA x.1.toNat) x.2=true:=by
 unfold bu at a;by_cases b:0≤x.1∧x.1<17
 ·rw[if_pos b]at a;by_cases c:bZ p g (bA x.1.toNat) x.2=true;·exact⟨b.1,b.2,c⟩
  ·rw[if_neg c]at a;omega
 ·rw[if_neg b]at a;omega
theorem nZ{p:List Fn}{g:Fn}{a:Int}(b:bZ p g 4 a=true):0≤a∧a<p.length∧cI (p.getD a.toNat Fn.zero).args (p.getD a.toNat Fn.zero).locals=true:=by simp only[bZ]at b;rw[if_neg (by decide),if_neg (by decide),if_neg (by decide),if_neg (by decide),Bool.and_eq_true,cZ]at b;exact⟨b.1.1,b.1.2,b.2⟩
theorem IX(k:Nat)(a:k<17):0≤tk k∧tk k≤2∧0≤lv k∧lv k≤1:=by
 have:∀k:Fin 17,0≤tk k∧tk k≤2∧0≤lv k∧lv k≤1:=by decide
 exact this ⟨k,a⟩
theorem jr{p:List Fn}{g:Fn}{x:Int×Int}(d:bu p g x=0)(b:x.1=11):0≤x.2∧x.2<p.length∧0≤(p.getD x.2.toNat Fn.zero).args∧ct p x.1 x.2=((p.getD x.2.toNat Fn.zero).args,1,0):=by obtain⟨_,_,c⟩:=ei d;rw[b]at c;obtain⟨a,h2,h3⟩:=nZ (show bZ p g 4 x.2=true from c);rw[fg]at h3;refine⟨a,h2,h3.1,?_⟩;unfold ct;rw[if_pos ⟨by omega,by omega⟩,if_pos b,if_pos ⟨a,h2⟩]
theorem nG{p:List Fn}{g:Fn}{x:Int×Int}(h:bu p g x=0)(j:x.1≠11):∃b a,ct p x.1 x.2=(b,a,0)∧0≤b∧b≤2∧0≤a∧a≤1:=by obtain⟨i,h2,_⟩:=ei h;obtain⟨c,d,e,f⟩:=IX x.1.toNat (by omega);refine⟨_,_,?_,c,d,e,f⟩;unfold ct;rw[if_pos ⟨i,h2⟩,if_neg j]
theorem gN{p:List Fn}{f:Int}(b:bo p f=0):∃a:Nat,f=a∧a<p.length∧(p.getD a Fn.zero).code.length≤24∧cI (p.getD a Fn.zero).args (p.getD a Fn.zero).locals=true∧dY p (p.getD a Fn.zero) (p.getD a Fn.zero).code=0:=by
 unfold bo at b;by_cases d:0≤f∧f<p.length
 ·rw[if_pos d]at b;obtain⟨a,rfl⟩:=Int.eq_ofNat_of_zero_le d.1;rw[Int.toNat_natCast]at b;refine⟨a,rfl,by omega,?_⟩;generalize p.getD a Fn.zero=c at*;by_cases e:24<c.code.length;·simp only[if_pos e]at b;omega
  ·simp only[if_neg e]at b;cases g:cI c.args c.locals with
   |false=>rw[g,if_neg (by decide)]at b;omega
   |true=>rw[g,if_pos rfl]at b;exact⟨by omega,rfl,b⟩
 ·rw[if_neg d]at b;omega
