import Derived.Test.YtokhibfenccijaaGreatDoorQB02
import Derived.Deep.RegionHeld3
set_option maxRecDepth 100000
set_option maxHeartbeats 8000000
namespace Go.Proofs.YtokhibfenccijaaGreatDoor
open Go.Proofs.Tryz
open Go.RowKit Go.Maps
def gd(wd:List UInt8)(l:List Int):Option (Int×Int):=match dW wd with|none=>none|some a=>if l.length=(aJ.getD a ([],0)).2 then some ((a:Int),l.getLastD 0)else none
def kM(wd:List UInt8)(l:List Int)(w:World)(e:Ending)(w':World):Prop:=match gd wd l with|some a=>e=.returned (.agg #[.int .i64 a.1,.int .i64 a.2])∧J w w'|none=>e=eQ∧J w w'
theorem uS{wd:List UInt8}{k:Nat}(a:dW wd=some k):k<17:=by unfold dW at a;rw[List.findIdx?_eq_some_iff_getElem]at a;exact a.1
theorem Ft(w:World)(wd:List UInt8)(g n:Nat)(l:List Int)(Y:l.length=n)(W:∃B,w.heap[g]?=some (.cells B 3)∧∀(a:Nat)e,l[a]?=some e→B[a]?=some (.int .i64 e))(c5:n≤1000000)(E:iR w):Calls prog 94 #[.string ⟨wd.toArray⟩,.slice (some ⟨g,0,none⟩) n n] w (kM wd l w):=by
 have N:Hid (∀d,J w d→Calls prog 134 #[.string ⟨wd.toArray⟩] d (mb wd d)):=R fun d b5=>IL d wd (E.kept b5);have b2:Hid (∀d,Calls prog 63 #[.bool true] d fun y L=>y=.returned (.tuple #[])∧L=d):=R nC;have a8:Hid (∀d,Calls prog 63 #[.bool false] d fun y L=>y=eQ∧L=d):=R nB;have u:=R Y;have a5:=R W;have b0:=R E;have A:Hid (J w (w.alloc (.cells #[.int .i64 0,.int .i64 0] 72))∧(w.alloc (.cells #[.int .i64 0,.int .i64 0] 72)).heap[w.heap.size]?=some (.cells #[.int .i64 0,.int .i64 0] 72)∧w.heap.size≤w.heap.size):=R ⟨(J.refl w).alloc _,ah rfl,Nat.le_refl _⟩;generalize(ByteArray.mk wd.toArray)=S at*;clear W E Y;go_enter func94,ntmps94;go_wp2_with fail;generalize w.alloc (.cells #[.int .i64 0,.int .i64 0] 72)=M at*;obtain⟨f,C⟩:∃I,I=w.heap.size:=⟨_,rfl⟩;have Q:Hid (w.heap.size≤f):=R (by omega);rw[←C];have j:Hid (J w M∧M.heap[f]?=some (.cells #[.int .i64 0,.int .i64 0] 72)):=R (by rw[C];exact⟨(U A).1,(U A).2.1⟩);clear C A;refine((U N) M (U j).1).mono ?_;intro y o r;unfold mb at r;cases k:dW wd with
 |none=>rw[k]at r;obtain⟨rfl,c⟩:=r;have i:=R ((U j).1.trans c);have q:Hid (gd wd l=none):=R (by unfold gd;rw[k]);clear c j k;dsimp only[eQ];go_wp2_with fail;refine⟨rfl,?_⟩;unfold kM;rw[U q];exact⟨rfl,U i⟩
 |some b=>
  rw[k]at r;obtain⟨rfl,c⟩:=r;have b4:=uS k;have O:=R k;have c3:(0:Int)≤(b:Int):=by omega
  have c4:(b:Int)<17:=by omega
  have b1:∀H:Obj,(o.alloc H).cell? ⟨0,b*2+1,none⟩=some (.int .i64 ((aJ.getD b ([],0)).2:Nat)):=fun H=>(((U j).1.trans c).alloc H).cell ((U b0) b b4).2;have i:=R (And.intro ((U j).1.trans c) (aw c (U j).2));clear c j k N;generalize Z:(aJ.getD b ([],0)).2=a4 at*;have P:=R Z;clear Z;by_cases F:n=a4
  ·subst F;go_wp2_with fail;refine((U b2) _).mono ?_;rintro _ _⟨rfl,rfl⟩;obtain⟨h,D⟩:∃I,I=o.heap.size:=⟨_,rfl⟩;have q:Hid (gd wd l=some ((b:Int),l.getLastD 0)):=R (by unfold gd;rw[U O];simp only[U P,U u,if_true]);have m:Hid (J w (o.alloc (.cells #[.int .i64 (b:Int),.int .i64 0] 72))∧(o.alloc (.cells #[.int .i64 (b:Int),.int .i64 0] 72)).heap[h]?=some (.cells #[.int .i64 (b:Int),.int .i64 0] 72)∧(o.alloc (.cells #[.int .i64 (b:Int),.int .i64 0] 72)).heap[f]?=some (.cells #[.int .i64 0,.int .i64 0] 72)∧w.heap.size≤h∧f≠h):=R ⟨(U i).1.alloc _,by rw[D];exact ah rfl,au (U i).2 _,by have:=(U i).1.size;omega,by have:=(Array.getElem?_eq_some_iff.1 (U i).2).1;omega⟩;rw[←D];have z:=R (And.intro (U m).2.2.2.1 (U m).2.2.2.2);clear D i b1;generalize o.alloc (.cells #[.int .i64 (b:Int),.int .i64 0] 72)=wx at*;go_wp2_with fail;go_loopw[22](fun K wr=>∃a:Nat,a≤n∧K=.int .i64 a∧Hid (J w wr∧wr.heap[h]?=some (.cells #[.int .i64 (b:Int),.int .i64 ((l.take a).getLastD 0)] 72)∧wr.heap[f]?=some (.cells #[.int .i64 0,.int .i64 0] 72)))(fun K _=>n-(intOf K).toNat);case atStart=>exact⟨0,Nat.zero_le _,rfl,R ⟨(U m).1,by simpa using(U m).2.1,(U m).2.2.1⟩⟩
   case round=>
    obtain⟨a,c2,rfl,x⟩:=hrel;clear m;by_cases b3:a<n
    ·obtain⟨e,G⟩:∃e,l[a]?=some e:=⟨_,List.getElem?_eq_getElem (by rw[U u];exact b3)⟩;obtain⟨a1,a2,a3⟩:=U x;obtain⟨B,X,h2⟩:=U a5;have T:wr.cell? ⟨g,a,none⟩=some (.int .i64 e):=(ab (aw a1 X) a).trans (h2 a e G);have V:=ab a2 1;have b8:=an a2 1;have c0:(0:Int)≤(a:Int):=by omega
     have c1:(a:Int)<(n:Int):=by omega
     have a7:Hid (J w (wr.setCell ⟨h,1,none⟩ (.int .i64 e))∧(wr.setCell ⟨h,1,none⟩ (.int .i64 e)).heap[h]?=some (.cells #[.int .i64 (b:Int),.int .i64 ((l.take (a+1)).getLastD 0)] 72)∧(wr.setCell ⟨h,1,none⟩ (.int .i64 e)).heap[f]?=some (.cells #[.int .i64 0,.int .i64 0] 72)):=R ⟨a1.setCell (p:=⟨h,1,none⟩) (U z).1 _,by have:=ay a2 1 (.int .i64 e);rw[List.take_add_one,G];simpa using this,bD a3 (U z).2 _⟩;generalize(l.take a).getLastD 0=a0 at*;clear a1 a2 a3 X h2 G x;go_wp2_with fail;go_roundw;case rel=>exact⟨a+1,by omega,by go_num,a7⟩
     case measure=>simp[intOf];omega
    ·obtain rfl:a=n:=by omega
     obtain⟨a1,a2,a3⟩:=U x;rw[List.take_of_length_le (by rw[U u];omega)]at a2;have T:=ab a2 0;have V:=ab a2 1;have b6:=ab a3 0;have b7:=ab a3 1;have c7:=an a3 0;have c8:=an a3 1;have b9:=(U z).2;have c:=ay (ay a3 0 (.int .i64 (b:Int))) 1 (.int .i64 (l.getLastD 0));have a6:Hid (J w ((wr.setCell ⟨f,0,none⟩ (.int .i64 (b:Int))).setCell ⟨f,1,none⟩ (.int .i64 (l.getLastD 0)))):=R ((a1.setCell (p:=⟨f,0,none⟩) (U Q) _).setCell (p:=⟨f,1,none⟩) (U Q) _);simp only[List.getElem?_toArray,List.getElem?_cons_zero,List.getElem?_cons_succ]at T V b6 b7;have s:=ab c 0;have t:=ab c 1;simp only[Array.setIfInBounds,List.size_toArray,List.length_cons,List.length_nil]at s t;have a9:=R (And.intro s t);generalize l.getLastD 0=a0 at*;clear a1 a2 a3 c s t x;go_wp2_with fail;obtain⟨s,t⟩:=U a9;refine bodyPost_ret (v:=.agg #[.int .i64 (b:Int),.int .i64 a0]) (by simp[results,results94,go_sem,s,t]) rfl ?_;unfold kM;rw[U q];exact⟨rfl,U a6⟩
  ·have c6:((n:Int)==(a4:Int))=false:=by simp;omega
   have q:Hid (gd wd l=none):=R (by unfold gd;rw[U O];simp only[U P,U u,if_neg F]);clear F;go_wp2_with fail;refine((U a8) _).mono ?_;rintro _ _⟨rfl,rfl⟩;dsimp only[eQ];go_wp2_with fail;refine⟨rfl,?_⟩;unfold kM;rw[U q];exact⟨rfl,(U i).1.alloc _⟩
open Go.RowKit
theorem PS:(∀(a:Act)(t:Tmp)(v:Value),a.put (some t) v={a with tmps:=a.tmps.setIfInBounds t v})∧(∀(a:Act)(v:Value),a.put none v=a)∧(∀(l:List Value)(i:Nat)(a:Value),l.toArray.setIfInBounds i a=(l.set i a).toArray)∧(∀(l:List Bool)(i:Nat)(a:Bool),l.toArray.setIfInBounds i a=(l.set i a).toArray)∧(∀(l:List Value)(a b:Value),(b::l).set 0 a=a::l)∧(∀(l:List Bool)(a b:Bool),(b::l).set 0 a=a::l)∧(∀(l:List Value)(i:Nat)(a b:Value),(b::l).set (i+1) a=b::l.set i a)∧(∀(l:List Bool)(i:Nat)(a b:Bool),(b::l).set (i+1) a=b::l.set i a):=⟨fun _ _ _=>rfl,fun _ _=>rfl,fun _ _ _=>by simp,fun _ _ _=>by simp,fun _ _ _=>rfl,fun _ _ _=>rfl,fun _ _ _ _=>rfl,fun _ _ _ _=>rfl⟩
theorem ib{a e:List Oper}{i:Nat}{b:Oper}(d:a.drop i=b::e):a.toArray[i]?=some b:=by
 have c:(a.drop i)[0]?=some b:=by rw[d];rfl
 rw[List.getElem?_drop]at c;simpa using c
theorem IS{P:Program}{md:Region.Mode}{Q:Exit→Act→World→Prop}{S:World→Prop}{b q:List Oper}{i:Nat}{c:Oper}{v:Value}{g:Nat}{d:Array Bool}{a:Act}{w:World}(k:b.drop i=c::q)(n:Region.noSelect b.toArray=true)(l:Region.free md b.toArray d i=true)(m:(Region.ready md b.toArray d).contains i=true)(hQ:∀f a w,Q (.panic f) (a.put c.dst v) w→Q (.panic f) a w)(o:Region.wanted c (yielded b.toArray a.tmps)=true)(p:∀e,S e→(execOp a.eval c).run P e=.ok (.value v) e)(j:S w)(h:wpAnyH P md b.toArray Q S g (d.setIfInBounds i true) (a.put c.dst v) w):wpAnyH P md b.toArray Q S (g+1) d a w:=wpAnyH_take (ib k) n l m hQ (.inl ⟨o,p⟩) j h
theorem take_one{P:Program}{md:Region.Mode}{Q:Exit→Act→World→Prop}{S:World→Prop}{b k:List Oper}{i:Nat}{c:Oper}{f:Nat}{e:Array Bool}{a:Act}{w:World}(h:b.drop i=c::k)(j:Region.ready md b.toArray e=[i])(g:∀d:Act→World→Prop,Shut (∀a w,S w→(S w→wpAnyH P md b.toArray Q S f (e.setIfInBounds i true) a w)→d a w)→if Region.wanted c (yielded b.toArray a.tmps)=true then Oper.wp P c a w d Q else d (a.put c.dst undef) w):wpAnyH P md b.toArray Q S (f+1) e a w:=wpAnyH_ready j (by simp) (AllReadyH.cons (ib h) g AllReadyH.nil)
end Go.Proofs.YtokhibfenccijaaGreatDoor
namespace Go.Proofs.YtokhibfenccijaaGreatDoor
open Go.Proofs.Tryz
open Go.RowKit
variable {P:Program}{md:Region.Mode}{Q:Exit→Act→World→Prop}{S:World→Prop}
structure ng(plan:List Nat)(P:Program)(md:Region.Mode)(ops:Array Oper)(Q:Exit→Act→World→Prop)(S:World→Prop)(n:Nat)(b:Array Bool)(a:Act)(w:World):Prop where
 out:wpAnyH P md ops Q S n b a w
theorem bQ{ops:Array Oper}{n:Nat}{b:Array Bool}{a:Act}{w:World}(plan:List Nat)(c:ng plan P md ops Q S n b a w):wpAnyH P md ops Q S n b a w:=c.out
theorem bO{ops:Array Oper}{n:Nat}{b:Array Bool}{a:Act}{w:World}(c:wpAnyH P md ops Q S n b a w):ng [] P md ops Q S n b a w:=⟨c⟩
theorem bS{b q:List Oper}{i:Nat}{plan:List Nat}{c:Oper}{v:Value}{h:Nat}{d:Array Bool}{a:Act}{w:World}(j:S w)(p:∀f,S f→(execOp a.eval c).run P f=.ok (.value v) f)(e:ng plan P md b.toArray Q S h (d.setIfInBounds i true) (a.put c.dst v) w)(k:b.drop i=c::q:=by rfl)(n:Region.noSelect b.toArray=true:=by kernel_rfl)(l:Region.free md b.toArray d i=true:=by kernel_rfl)(m:(Region.ready md b.toArray d).contains i=true:=by kernel_rfl)(hQ:∀g a w,Q (.panic g) (a.put c.dst v) w→Q (.panic g) a w:=by exact fun _ _ _ e=>e)(o:Region.wanted c (yielded b.toArray a.tmps)=true:=by rfl):ng (i::plan) P md b.toArray Q S (h+1) d a w:=⟨IS k n l m hQ o p j e.out⟩
end Go.Proofs.YtokhibfenccijaaGreatDoor
namespace Go.Proofs.YtokhibfenccijaaGreatDoor
open Go.Proofs.Tryz
open Go.RowKit Go.Maps
def gx(b m:Nat)(w:World)(v:Value)(c:List (Int×Int)):Prop:=∃g h,v=.slice g c.length h∧c.length≤100000∧∀(e:Nat)f,c[e]?=some f→∃a d,g=some ⟨a,0,none⟩∧(b≤a∧a<m)∧w.heap[a]?=some (.cells d 72)∧d[e*2]?=some (.int .i64 f.1)∧d[e*2+1]?=some (.int .i64 f.2)
def cx(b m:Nat)(w:World)(v:Value)(p:List Fn):Prop:=b≤m∧m≤w.heap.size∧∃d,w.ownsRow b 69 3 v p.length d∧∀(c:Nat)a,p[c]?=some a→∃e,d[c*3]?=some (.int .i64 a.args)∧d[c*3+1]?=some (.int .i64 a.locals)∧d[c*3+2]?=some e∧(a.code.length≤100000∧(c+1=p.length→w.ownsRow m 72 2 e a.code.length (di a.code))∧(c+1<p.length→gx b m w e a.code))
def jl(t:TypeId)(w w':World):Prop:=∀(b:Nat)(a:Array Value),w.heap[b]?=some (.cells a t)→w'.heap[b]?=some (.cells a t)
theorem iG{w:World}{base:Nat}{e:TypeId}{o:Nat}{v:Value}{n:Nat}{xs:List Value}(i:w.ownsRow base e o v n xs):∃h d,v=.slice h n d∧n≤d∧∀(j:Nat)c,xs[j]?=some c→∃a f,h=some ⟨a,0,none⟩∧(base≤a∧a<w.heap.size)∧w.heap[a]?=some (.cells f e)∧∀(j:Nat)c,xs[j]?=some c→f[j]?=some c:=by
 obtain⟨p,⟨rfl,rfl⟩|⟨a,d,f,rfl,l,g,k,h2,q,m⟩⟩:=i;·refine⟨none,0,rfl,Nat.le_refl _,fun j c b=>?_⟩;have:=(List.getElem?_eq_some_iff.1 b).1;omega
 ·refine⟨_,d,rfl,k,fun _ _ _=>⟨a,f,rfl,⟨l,(Array.getElem?_eq_some_iff.1 g).1⟩,g,fun j c b=>?_⟩⟩;rw[←m,List.getElem?_take]at b;split at b;·simpa using b
  ·cases b
theorem gx.of{m:Nat}{w:World}{v:Value}{c:List (Int×Int)}(h:w.ownsRow m 72 2 v c.length (di c))(j:c.length≤100000):gx m w.heap.size w v c:=by obtain⟨n,d,f,_,i⟩:=iG h;refine⟨n,d,f,j,fun l s k=>?_⟩;obtain⟨a,o⟩:=mz c l s k;obtain⟨g,e,p,q,r,b⟩:=i _ _ a;exact⟨g,e,p,q,r,b _ _ a,b _ _ o⟩
theorem gx.stay{b d m e:Nat}{w w':World}{v:Value}{c:List (Int×Int)}(i:gx b m w v c)(x:d≤b)(y:m≤e)(k:∀a,a<m→w'.heap[a]?=w.heap[a]?):gx d e w' v c:=by obtain⟨p,f,h,l,j⟩:=i;refine⟨p,f,h,l,fun o u n=>?_⟩;obtain⟨a,g,q,r,s,t⟩:=j o u n;exact⟨a,g,q,by omega,(k a r.2).trans s,t⟩
theorem gx.Lf{b a m f:Nat}{w w':World}{v:Value}{c:List (Int×Int)}(i:gx b m w v c)(u:a≤b)(x:m≤f)(k:jl 72 w w'):gx a f w' v c:=by obtain⟨p,g,h,l,j⟩:=i;refine⟨p,g,h,l,fun o t n=>?_⟩;obtain⟨e,d,q,y,r,s⟩:=j o t n;exact⟨e,d,q,by omega,k e d r,s⟩
theorem gx.code{b m:Nat}{w:World}{v:Value}{c:List (Int×Int)}(g:gx b m w v c):ev w v c:=by obtain⟨k,d,e,r,h⟩:=g;refine⟨k,d,e,by omega,fun j p i=>?_⟩;obtain⟨f,q,l,s,a,n,o⟩:=h j p i;exact⟨f,0,l,by rw[Nat.zero_add,ab a];exact n,by rw[Nat.zero_add,ab a];exact o⟩
theorem cx.prog{b m:Nat}{w:World}{v:Value}{p:List Fn}(n:cx b m w v p)(e:p.length≤100000):aK w v p:=by
 obtain⟨_,D,B,r,o⟩:=n;obtain⟨s,h,j,_,q⟩:=iG r;refine⟨s,h,j,by omega,fun f k d=>?_⟩;obtain⟨i,g,t,u,x,y,z⟩:=o f k d;obtain⟨l,C,A,E,a,c⟩:=q _ _ g;refine⟨l,0,i,A,by rw[Nat.zero_add,ab a];exact c _ _ g,by rw[Nat.zero_add,ab a];exact c _ _ t,by rw[Nat.zero_add,ab a];exact c _ _ u,?_⟩;have:=(List.getElem?_eq_some_iff.1 d).1;by_cases e:f+1=p.length;·exact(gx.of (y e) x).code
 ·exact(z (by omega)).code
theorem cx.kept{b m:Nat}{w w':World}{v:Value}{p:List Fn}(g:cx b m w v p)(k:J w w'):cx b m w' v p:=by obtain⟨h,l,c,n,i⟩:=g;refine⟨h,Nat.le_trans l k.size,c,ks n k,fun o e j=>?_⟩;obtain⟨d,q,r,s,t,u,x⟩:=i o e j;exact⟨d,q,r,s,t,fun a=>ks (u a) k,fun a=>(x a).stay (Nat.le_refl _) (Nat.le_refl _) (fun f y=>k.block f (by omega))⟩
theorem cx.nil(b:Nat)(w:World)(a:b≤w.heap.size):cx b b w (.slice none 0 0) []:=⟨Nat.le_refl _,a,[],World.ownsRow_nil _ _ _ _,fun e d c=>by simp at c⟩
theorem lM(t d:TypeId)(k h:Nat)(z:Value)(r:prog.underlying d=some (.slice t))(E:(prog.info? t).map (fun s=>(s.zero,s.size,s.bytes))=some (some z,k,h))(L:z.cells.size=k)(H:0<k)(D:h≤1000)(b:Nat)(w:World)(m:Value)(n:Nat)(l e:List Value)(q:w.ownsRow b t k m n l)(C:b≤w.heap.size)(X:n≤1000000)(W:e.length=k)(A:∀f∈e,f.oneCell'=true):∃i j,(Builtin.append_ #[d,d] d #[m,.slice (some ⟨w.heap.size,0,none⟩) 1 1]).run prog (w.alloc (.cells e.toArray t))=.ok i j∧j.ownsRow b t k i (n+1) (l++e)∧Below b w j∧∀f,t≠f→jl f w j:=by
 obtain⟨Q,F,M,N,O⟩:=info_parts E;have B:(w.alloc (.cells e.toArray t)).heap[w.heap.size]?=some (.cells e.toArray t):=ah rfl;obtain⟨i,S,K,I,v,_,_⟩:=run_append_own_at (P:=prog) (w:=w.alloc (.cells e.toArray t)) b d d t Q z k h r F M N O L H m n l (q.alloc _) ⟨w.heap.size,0,none⟩ 1 1 e (by omega) (fun x f G=>by
  have:((⟨w.heap.size,0,none⟩:Addr).add x)=⟨w.heap.size,x,none⟩:=by unfold Addr.add;split<;>simp_all
  rw[this,ab B];simpa using G) A (by unfold maxLen;omega) (by have:(n+1)*h≤1000001*1000:=Nat.mul_le_mul (by omega) D;omega) (by simp;omega);refine⟨i,S,K,I,Below.grown (a:=w) (w:=w.alloc (.cells e.toArray t)) ⟨rfl,rfl,rfl,by simp,fun c g=>Below.heap_alloc w _ c (by omega)⟩ v (Nat.le_trans C (by simp)) (fun c g=>(World.ownsRow.lt q c g).1),fun f r c T g=>?_⟩;have u:=au g (.cells e.toArray t);refine(v.block c (Array.getElem?_eq_some_iff.1 u).1 (fun e=>?_)).trans u;obtain⟨_,⟨o,_⟩|⟨y,_,V,o,_,p,_⟩⟩:=q;·rw[o]at e;cases e
 ·rw[o]at e;obtain rfl:c=y:=by simpa[Value.ownBlock]using e
  rw[g]at p;simp only[Option.some.injEq,Obj.cells.injEq]at p;exact r p.2.1.symm
theorem ua:(prog.info? 69).map (fun a=>(a.zero,a.size,a.bytes))=some (some (.agg #[.int .i64 0,.int .i64 0,.slice none 0 0]),3,40):=by kernel_rfl
theorem vG:(prog.info? 72).map (fun a=>(a.zero,a.size,a.bytes))=some (some (.agg #[.int .i64 0,.int .i64 0]),2,16):=by kernel_rfl
theorem cx.addFn{b m:Nat}{w:World}{v:Value}{p:List Fn}(r:cx b m w v p)(I:p.length≤100000)(x y:Int):∃f a,(Builtin.append_ #[27,27] 27 #[v,.slice (some ⟨w.heap.size,0,none⟩) 1 1]).run Tryz.prog (w.alloc (.cells #[.int .i64 x,.int .i64 y,.slice none 0 0] 69))=.ok f a∧cx b a.heap.size a f (p++[⟨x,y,[]⟩])∧Below b w a∧jl 3 w a:=by
 obtain⟨s,K,g,i,t⟩:=r;obtain⟨f,a,B,C,k,l⟩:=lM 69 27 3 40 _ underlying27 ua rfl (by decide) (by decide) b w v p.length g [.int .i64 x,.int .i64 y,.slice none 0 0] i (by omega) (by omega) rfl (fun L j=>by simp only[List.mem_cons,List.not_mem_nil,or_false]at j;rcases j with rfl|rfl|rfl<;>rfl);have o:=l 72 (by decide);have u:g.length=p.length*3:=i.1;have A:=k.size;refine⟨f,a,B,⟨by omega,Nat.le_refl _,_,by rw[List.length_append];exact C,fun e h c=>?_⟩,k,l _ (by decide)⟩;by_cases z:e<p.length
 ·rw[List.getElem?_append_left z]at c;obtain⟨q,D,E,F,n,G,H⟩:=t e h c;refine⟨q,by rw[List.getElem?_append_left (by omega)];exact D,by rw[List.getElem?_append_left (by omega)];exact E,by rw[List.getElem?_append_left (by omega)];exact F,n,fun d=>by simp at d;omega,fun _=>?_⟩;by_cases d:e+1=p.length;·exact(gx.of (G d) n).Lf s A o
  ·exact(H (by omega)).Lf (Nat.le_refl _) (by omega) o
 ·rw[List.getElem?_append_right (by omega)]at c;obtain⟨rfl,rfl⟩:e=p.length∧(⟨x,y,[]⟩:Fn)=h:=by
   have:=(List.getElem?_eq_some_iff.1 c).1;simp only[List.length_cons,List.length_nil]at this;obtain rfl:e=p.length:=by omega
   exact⟨rfl,by simpa using c⟩
  refine⟨.slice none 0 0,?_,?_,?_,by simp,fun _=>World.ownsRow_nil _ _ _ _,fun d=>by simp at d⟩<;>rw[List.getElem?_append_right (by omega),u]<;>simp
theorem GX{w:World}{b g cap n k j:Nat}{t:TypeId}{xs:List Value}(d:w.ownsRow b t k (.slice (some ⟨g,0,none⟩) n cap) n xs)(u:Value):(w.setCell ⟨g,j,none⟩ u).ownsRow b t k (.slice (some ⟨g,0,none⟩) n cap) n (xs.set j u):=by
 obtain⟨i,⟨a,_⟩|⟨p,o,c,a,f,h,e,h2,l,m⟩⟩:=d;·cases a
 ·simp only[Value.slice.injEq,Option.some.injEq,Addr.mk.injEq,and_true,true_and]at a;obtain⟨rfl,rfl⟩:=a;refine⟨by simpa using i,.inr ⟨g,cap,c.setIfInBounds j u,rfl,f,ay h j u,e,h2,by simpa using l,?_⟩⟩;rw[←m,Array.toList_setIfInBounds,List.take_set]
theorem cx.last{b m:Nat}{w:World}{v:Value}{q:List Fn}{f:Fn}(o:cx b m w v (q++[f])):∃a g c j h,v=.slice (some ⟨a,0,none⟩) (q.length+1) g∧c=.slice j f.code.length h∧w.cell? ⟨a,q.length*3+2,none⟩=some c∧w.frozen? ⟨a,q.length*3+2,none⟩=false∧b≤a∧w.ownsRow m 72 2 c f.code.length (di f.code):=by
 obtain⟨x,z,t,l,r⟩:=o;obtain⟨c,E,F,d,G,e,_⟩:=r q.length f (by simp);have e:=e (by simp);obtain⟨j,h,n,_⟩:=iG e;have A:=l;obtain⟨y,⟨_,i⟩|⟨a,g,u,i,p,k,C,D,B,s⟩⟩:=l;·simp at i
 ·refine⟨a,g,c,j,h,by rw[i];simp,n,?_,an k _,p,e⟩;rw[ab k];rw[←s,List.getElem?_take]at d;split at d;·simpa using d
  ·cases d
theorem cx.KJ{b m g cap:Nat}{w:World}{q:List Fn}{f:Fn}{j:Value}(G:cx b m w (.slice (some ⟨g,0,none⟩) (q.length+1) cap) (q++[f]))(I:w.cell? ⟨g,q.length*3+2,none⟩=some j)(x:Int×Int)(c7:f.code.length<100000):∃o e,(Builtin.append_ #[67,67] 67 #[j,.slice (some ⟨w.heap.size,0,none⟩) 1 1]).run Tryz.prog (w.alloc (.cells #[.int .i64 x.1,.int .i64 x.2] 72))=.ok o e∧(∃O b4 C,o=.slice O b4 C)∧e.cell? ⟨g,q.length*3+2,none⟩=some j∧e.frozen? ⟨g,q.length*3+2,none⟩=false∧cx b m (e.setCell ⟨g,q.length*3+2,none⟩ o) (.slice (some ⟨g,0,none⟩) (q.length+1) cap) (q++[⟨f.args,f.locals,f.code++[x]⟩])∧Below b w (e.setCell ⟨g,q.length*3+2,none⟩ o):=by
 obtain⟨a,l,c2,O,C,E,rfl,F,c3,a4,b1⟩:=G.last;simp only[Value.slice.injEq,Option.some.injEq,Addr.mk.injEq,and_true,true_and]at E;obtain⟨rfl,rfl⟩:=E;rw[I]at F;cases F;obtain⟨a0,M,u,r,H⟩:=G;have a8:(q++[f]).length=q.length+1:=by simp
 rw[a8]at r;obtain⟨o,e,b6,Q,h,b7⟩:=lM 72 67 2 16 _ underlying67 vG rfl (by decide) (by decide) m w _ f.code.length (di f.code) [.int .i64 x.1,.int .i64 x.2] b1 M (by omega) rfl (fun c8 N=>by simp only[List.mem_cons,List.not_mem_nil,or_false]at N;rcases N with rfl|rfl<;>rfl);obtain⟨P,D,rfl,_⟩:=iG Q;have X:=b7 69 (by decide);obtain⟨n,K⟩:∃n,w.heap[g]?=some (.cells n 69):=by
  obtain⟨_,⟨c,_⟩|⟨a,l,n,c,_,d,_⟩⟩:=id r;·cases c
  ·simp only[Value.slice.injEq,Option.some.injEq,Addr.mk.injEq,and_true,true_and]at c;obtain⟨rfl,_⟩:=c;exact⟨n,d⟩
 have y:=X g n K;have b0:e.ownsRow b 69 3 (.slice (some ⟨g,0,none⟩) (q.length+1) cap) (q.length+1) u:=by
  obtain⟨a1,⟨c,_⟩|⟨a,l,i,c,a2,d,a3⟩⟩:=r;·cases c
  ·exact⟨a1,.inr ⟨a,l,i,c,a2,X a i d,a3⟩⟩
 have c4:u.length=(q.length+1)*3:=r.1;have Y:∀{a:Nat}{v:Array Value},e.heap[a]?=some (.cells v 72)→(e.setCell ⟨g,q.length*3+2,none⟩ (.slice P (f.code.length+1) D)).heap[a]?=some (.cells v 72):=fun{a v}d=>bD d (fun p=>by simp only at p;subst p;rw[y]at d;simp only[Option.some.injEq,Obj.cells.injEq]at d;exact absurd d.2.1 (by decide)) _;refine⟨_,e,b6,⟨_,_,_,rfl⟩,?_,an y _,⟨a0,?_,u.set (q.length*3+2) (.slice P (f.code.length+1) D),?_,fun s t k=>?_⟩,?_⟩;·rw[ab y,←ab K,I]
 ·have:=h.size;simpa[World.setCell]using Nat.le_trans M this
 ·rw[show(q++[(⟨f.args,f.locals,f.code++[x]⟩:Fn)]).length=q.length+1 by simp];exact GX b0 _
 ·have c5:s<q.length+1:=by have:=(List.getElem?_eq_some_iff.1 k).1;simpa using this
  by_cases L:s<q.length;·rw[List.getElem?_append_left L]at k;obtain⟨j,A,B,S,T,b8,V⟩:=H s t (by rw[List.getElem?_append_left L];exact k);refine⟨j,by rw[List.getElem?_set_ne (by omega)];exact A,by rw[List.getElem?_set_ne (by omega)];exact B,by rw[List.getElem?_set_ne (by omega)];exact S,T,fun z=>by simp at z;omega,fun _=>?_⟩;obtain⟨b5,Z,p,a7,a6⟩:=V (by simp;omega);refine⟨b5,Z,p,a7,fun b2 t k=>?_⟩;obtain⟨a,i,b9,W,c0,c1⟩:=a6 b2 t k;exact⟨a,i,b9,W,Y ((h.block a W.2).trans c0),c1⟩
  ·obtain rfl:s=q.length:=by omega
   obtain rfl:(⟨f.args,f.locals,f.code++[x]⟩:Fn)=t:=by simpa using k
   obtain⟨j,A,B,S,T,b8,V⟩:=H q.length f (by simp);refine⟨_,by rw[List.getElem?_set_ne (by omega)];exact A,by rw[List.getElem?_set_ne (by omega)];exact B,by rw[List.getElem?_set_self (by omega)],by simp;omega,fun _=>?_,fun z=>by simp at z⟩;rw[show(f.code++[x]).length=f.code.length+1 by simp,show di (f.code++[x])=di f.code++[.int .i64 x.1,.int .i64 x.2]by simp[di]];obtain⟨a1,a5⟩:=Q;refine⟨a1,?_⟩;rcases a5 with a9|⟨a,l,i,c,a2,d,a3⟩;·exact .inl a9
   ·exact .inr ⟨a,l,i,c,a2,Y d,a3⟩
 ·exact Below.setCell ⟨h.os,h.tape,h.output,h.size,fun b3 c6=>h.block b3 (by omega)⟩ a4 _
end Go.Proofs.YtokhibfenccijaaGreatDoor
namespace Go.Proofs.YtokhibfenccijaaGreatDoor
open Go.Proofs.Tryz
open Go.RowKit
def dr(P:Program)(md:Region.Mode)(ops:Array Oper)(Q:Exit→Act→World→Prop)(S:World→Prop)(T:Nat):Nat→Array Bool→Act→World→Prop
 |0,a,b,c=>Region.ready md ops a=[]∧Q .normal b c
 |g+1,a,b,c=>(Region.ready md ops a=[]→Q .normal b c)∧∀d∈Region.ready md ops a,wpOp P ops Q d (fun f e=>(d≠T→S e)∧dr P md ops Q S T g (a.setIfInBounds d true) f e) b c
variable {P:Program}{md:Region.Mode}{ops:Array Oper}{Q:Exit→Act→World→Prop}{S:World→Prop}{T:Nat}
theorem dr.any:∀(n:Nat)(c:Array Bool)(a:Act)(w:World),dr P md ops Q S T n c a w→wpAny P md ops Q n c a w
 |0,_,_,_,b=>b
 |n+1,_,_,_,b=>⟨b.1,fun f e=>wpOp_mono (fun _ _ d=>dr.any n _ _ _ d.2) (b.2 f e)⟩
def waitsFor(md:Region.Mode)(ops:Array Oper)(T i:Nat):Bool:=match ops[T]? with|none=>true|some b=>b.after.any fun a=>Region.binds md a&&a.on==i
theorem dr.first{i:Nat}{h:Oper}{v:Value}(y:ops[i]?=some h)(G:∀(b:Nat)(K:Oper)l k,ops[b]?=some K→K.op≠.select l k)(hQ:∀z a w,Q (.panic z) (a.put h.dst v) w→Q (.panic z) a w)(o:waitsFor md ops T i=true):∀(n:Nat)(d:Array Bool)(a:Act)(w:World),(∀b g,ops[b]?=some g→b≠i→d.getD b true=false→(∀c∈g.after,Region.binds md c=true→c.on≠i)→h.apart ops g=true)→i∈Region.ready md ops d→YieldsIf P ops S h v a→S w→dr P md ops Q S T n (d.setIfInBounds i true) (a.put h.dst v) w→dr P md ops Q S T (n+1) d a w:=by
 intro n;induction n with
 |zero=>
  intro d a w _ f s m j;refine⟨fun t=>(by rw[t]at f;cases f),fun b q=>?_⟩;by_cases e:b=i;·subst e;exact s.wpOp y m ⟨fun _=>m,j⟩
  ·have:=ready_mono q e;rw[j.1]at this;cases this
 |succ n a2=>
  intro d a w A f s m j;refine⟨fun t=>(by rw[t]at f;cases f),fun b q=>?_⟩;by_cases e:b=i;·subst e;exact s.wpOp y m ⟨fun _=>m,j⟩
  ·have M:=j.2 b (ready_mono q e);obtain⟨D,g,r,N⟩:=mem_ready.1 q;have H:=(mem_ready.1 f).1;have Y:d.getD i false≠true:=by
    intro p;rcases Nat.lt_or_ge i d.size with u|u;·simp[u]at H p;rw[H]at p;cases p
    ·simp[Array.getElem?_eq_none u]at p
   have F:∀c∈g.after,Region.binds md c=true→c.on≠i:=fun c O x V=>Y (by have:=N c O x;rwa[V]at this);have B:b≠T:=by intro c;subst c;unfold waitsFor at o;rw[r]at o;simp only[Array.any_eq_true,Bool.and_eq_true,beq_iff_eq]at o;obtain⟨a5,a1,x,a0⟩:=o;exact F _ (Array.getElem_mem a1) x a0
   have h2:=wpOp_putIf r (A b g r e D F) (fun l k=>G i h l k y) (fun l k=>G b g l k r) hQ s M;refine wpOp_mono (fun L a4 h3=>⟨fun _=>h3.2.1 B,a2 (d.setIfInBounds b true) L a4 ?_ (ready_mono f (Ne.symm e)) h3.1 (h3.2.1 B) ?_⟩) h2
   ·intro I a3 W X E Z;refine A I a3 W X ?_ Z;by_cases C:b=I;·subst C;exact D
    ·rw[Go.getD_set_ne true C]at E;exact E
   ·rw[Array.setIfInBounds_comm _ _ e];exact h3.2.2
theorem IM{b r:List Oper}{i:Nat}{d:Oper}{v:Value}{e:Nat}{c:Array Bool}{a:Act}{w:World}(h:b.drop i=d::r)(o:Region.noSelect b.toArray=true)(m:Region.free md b.toArray c i=true)(n:(Region.ready md b.toArray c).contains i=true)(l:waitsFor md b.toArray T i=true)(hQ:∀g a w,Q (.panic g) (a.put d.dst v) w→Q (.panic g) a w)(p:Region.wanted d (yielded b.toArray a.tmps)=true)(q:∀f,S f→(execOp a.eval d).run P f=.ok (.value v) f)(k:S w)(j:dr P md b.toArray Q S T e (c.setIfInBounds i true) (a.put d.dst v) w):dr P md b.toArray Q S T (e+1) c a w:=dr.first (ib h) (Region.noSelect_spec o) hQ l e c a w (Region.free_spec (ib h) m) (by simpa using n) (.inl ⟨p,q⟩) k j
theorem az{c q:List Oper}{i:Nat}{d:Oper}{f:Nat}{e:Array Bool}{a:Act}{w:World}(o:c.drop i=d::q)(h:Region.ready md c.toArray e=[i])(j:∀b:Act→World→Prop,Shut (∀a w,(i≠T→S w)→dr P md c.toArray Q S T f (e.setIfInBounds i true) a w→b a w)→if Region.wanted d (yielded c.toArray a.tmps)=true then Oper.wp P d a w b Q else b (a.put d.dst undef) w):dr P md c.toArray Q S T (f+1) e a w:=⟨fun k=>absurd (h▸k) (by simp),fun p g=>by
 rw[h]at g;obtain rfl:p=i:=by simpa using g
 exact wpOp_step (ib o) (fun b l=>j b (fun a w m n=>l a w ⟨m,n⟩))⟩
theorem df{d:Array Bool}{a:Act}{w:World}(c:Region.ready md ops d=[])(b:Q .normal a w):∀e,dr P md ops Q S T e d a w
 |0=>⟨c,b⟩
 |_+1=>⟨fun _=>b,by rw[c];simp⟩
theorem iJ{id:Nat}{a:Act}{w:World}(T:Nat)(S:World→Prop)(c:P.follows .mixedOrders=true)(b:dr P .any ops Q S T ops.size (Array.replicate ops.size false) a w.drew):(Code.region id ops true).wp P Q a w:=wp_region_any c (dr.any _ _ _ _ b)
end Go.Proofs.YtokhibfenccijaaGreatDoor
namespace Go.Proofs.YtokhibfenccijaaGreatDoor
open Go.Proofs.Tryz
open Go.RowKit
def jL(md:Region.Mode)(ops:Array Oper)(c:Array Bool):Prop:=∀b d,ops[b]?=some d→c.getD b false=true→∀a∈d.after,Region.binds md a=true→c.getD a.on false=true
def pZ(md:Region.Mode)(ops:Array Oper)(c:Array Bool):Bool:=(List.range ops.size).all fun b=>!(c.getD b false)||(match ops[b]? with|none=>true|some d=>d.after.all fun a=>!(Region.binds md a)||c.getD a.on false)
theorem zl{md:Region.Mode}{ops:Array Oper}{c:Array Bool}(e:pZ md ops c=true):jL md ops c:=by intro b j a i d g f;have h:b<ops.size:=(Array.getElem?_eq_some_iff.1 a).1;have:=List.all_eq_true.1 e b (by simpa using h);rw[i,a]at this;simp only[Bool.not_true,Bool.false_or]at this;have h2:=Array.all_eq_true_iff_forall_mem.1 this d g;rw[f]at h2;simpa using h2
def kH(md:Region.Mode)(ops:Array Oper)(i:Nat):Nat→Nat→Bool
 |0,_=>false
 |b+1,T=>match ops[T]? with|none=>false|some c=>c.after.any fun a=>Region.binds md a&&(a.on==i||kH md ops i b a.on)
def nu(md:Region.Mode)(ops:Array Oper)(i T:Nat):Prop:=∃a,kH md ops i a T=true
theorem Ju{md:Region.Mode}{ops:Array Oper}{i:Nat}(f T:Nat)(a:kH md ops i f T=true):nu md ops i T:=⟨f,a⟩
theorem xu{md:Region.Mode}{ops:Array Oper}{i:Nat}{e:Array Bool}(j:jL md ops e):∀(f T:Nat),kH md ops i f T=true→(∀b,ops[T]?=some b→∀g∈b.after,Region.binds md g=true→e.getD g.on false=true)→e.getD i false=true
 |0,_,a,_=>by cases a
 |f+1,T,a,k=>by
  unfold kH at a;cases c:ops[T]? with
  |none=>rw[c]at a;cases a
  |some b=>
   rw[c]at a;simp only[Array.any_eq_true,Bool.and_eq_true,Bool.or_eq_true,beq_iff_eq]at a;obtain⟨r,l,h,d|d⟩:=a;·rw[←d];exact k b c _ (Array.getElem_mem l) h
   ·exact xu j f _ d fun q p m o n=>j _ q p (k b c _ (Array.getElem_mem l) h) m o n
theorem nu.listed{md:Region.Mode}{ops:Array Oper}{i T:Nat}{b:Array Bool}(f:jL md ops b)(a:nu md ops i T)(g:∀d,ops[T]?=some d→∀c∈d.after,Region.binds md c=true→b.getD c.on false=true):b.getD i false=true:=let⟨e,a⟩:=a;xu f e T a g
theorem uw{a:Array Bool}(j k:Nat)(d:a.getD k false=true):(a.setIfInBounds j true).getD k false=true:=by
 by_cases c:j=k
 ·subst c;have e:j<a.size:=by
   rcases Nat.lt_or_ge j a.size with b|b;·exact b
   ·simp[Array.getElem?_eq_none b]at d
  simp[e]
 ·rw[Go.getD_set_ne false c];exact d
theorem jL.set{md:Region.Mode}{ops:Array Oper}{b:Array Bool}(k:jL md ops b){j:Nat}(l:j∈Region.ready md ops b):jL md ops (b.setIfInBounds j true):=by
 intro h n a g c f e;obtain⟨_,o,m,i⟩:=mem_ready.1 l;by_cases d:j=h;·subst d;rw[m]at a;obtain rfl:=Option.some.inj a;exact uw j _ (i c f e)
 ·rw[Go.getD_set_ne false d]at g;exact uw j _ (k h n a g c f e)
variable {P:Program}{md:Region.Mode}{ops:Array Oper}{Q:Exit→Act→World→Prop}{S:World→Prop}{T:Nat}
theorem dr.KP{i:Nat}{h:Oper}{v:Value}(y:ops[i]?=some h)(L:∀(b:Nat)(z:Oper)l k,ops[b]?=some z→z.op≠.select l k)(hQ:∀A a w,Q (.panic A) (a.put h.dst v) w→Q (.panic A) a w)(W:nu md ops i T):∀(n:Nat)(d:Array Bool)(a:Act)(w:World),jL md ops d→(∀b g,ops[b]?=some g→b≠i→d.getD b true=false→(∀c∈g.after,Region.binds md c=true→c.on≠i)→h.apart ops g=true)→i∈Region.ready md ops d→YieldsIf P ops S h v a→S w→dr P md ops Q S T n (d.setIfInBounds i true) (a.put h.dst v) w→dr P md ops Q S T (n+1) d a w:=by
 intro n;induction n with
 |zero=>
  intro d a w _ _ f r m j;refine⟨fun s=>(by rw[s]at f;cases f),fun b o=>?_⟩;by_cases e:b=i;·subst e;exact r.wpOp y m ⟨fun _=>m,j⟩
  ·have:=ready_mono o e;rw[j.1]at this;cases this
 |succ n a2=>
  intro d a w B D f r m j;refine⟨fun s=>(by rw[s]at f;cases f),fun b o=>?_⟩;by_cases e:b=i;·subst e;exact r.wpOp y m ⟨fun _=>m,j⟩
  ·have V:=j.2 b (ready_mono o e);obtain⟨G,g,q,C⟩:=mem_ready.1 o;have M:=(mem_ready.1 f).1;have I:d.getD i false≠true:=by
    intro p;rcases Nat.lt_or_ge i d.size with t|t;·simp[t]at M p;rw[M]at p;cases p
    ·simp[Array.getElem?_eq_none t]at p
   have a1:∀c∈g.after,Region.binds md c=true→c.on≠i:=fun c x u X=>I (by have:=C c x u;rwa[X]at this);have E:b≠T:=by intro c;subst c;exact I (W.listed B (fun z K c x u=>by rw[q]at K;obtain rfl:=Option.some.inj K;exact C c x u))
   have h2:=wpOp_putIf q (D b g q e G a1) (fun l k=>L i h l k y) (fun l k=>L b g l k q) hQ r V;refine wpOp_mono (fun O a4 h3=>⟨fun _=>h3.2.1 E,a2 (d.setIfInBounds b true) O a4 (B.set o) ?_ (ready_mono f (Ne.symm e)) h3.1 (h3.2.1 E) ?_⟩) h2
   ·intro N a3 Y Z H a0;refine D N a3 Y Z ?_ a0;by_cases F:b=N;·subst F;exact G
    ·rw[Go.getD_set_ne true F]at H;exact H
   ·rw[Array.setIfInBounds_comm _ _ e];exact h3.2.2
theorem IP{b r:List Oper}{i:Nat}{d:Oper}{v:Value}{e:Nat}{c:Array Bool}{a:Act}{w:World}(j:b.drop i=d::r)(o:Region.noSelect b.toArray=true)(m:Region.free md b.toArray c i=true)(n:(Region.ready md b.toArray c).contains i=true)(h:(kH md b.toArray i 40 T&&pZ md b.toArray c)=true)(hQ:∀g a w,Q (.panic g) (a.put d.dst v) w→Q (.panic g) a w)(p:Region.wanted d (yielded b.toArray a.tmps)=true)(q:∀f,S f→(execOp a.eval d).run P f=.ok (.value v) f)(l:S w)(k:dr P md b.toArray Q S T e (c.setIfInBounds i true) (a.put d.dst v) w):dr P md b.toArray Q S T (e+1) c a w:=dr.KP (ib j) (Region.noSelect_spec o) hQ (Ju 40 T (Bool.and_eq_true_iff.1 h).1) e c a w (zl (Bool.and_eq_true_iff.1 h).2) (Region.free_spec (ib j) m) (by simpa using n) (.inl ⟨p,q⟩) l k
structure jK(plan:List Nat)(P:Program)(md:Region.Mode)(ops:Array Oper)(Q:Exit→Act→World→Prop)(S:World→Prop)(T n:Nat)(b:Array Bool)(a:Act)(w:World):Prop where
 out:dr P md ops Q S T n b a w
theorem cN{b r:List Oper}{i:Nat}{plan:List Nat}{e:Oper}{v:Value}{j:Nat}{d:Array Bool}{a:Act}{w:World}(k:S w)(q:∀g,S g→(execOp a.eval e).run P g=.ok (.value v) g)(f:jK plan P md b.toArray Q S T j (d.setIfInBounds i true) (a.put e.dst v) w)(l:b.drop i=e::r:=by rfl)(o:Region.noSelect b.toArray=true:=by kernel_rfl)(m:Region.free md b.toArray d i=true:=by kernel_rfl)(n:(Region.ready md b.toArray d).contains i=true:=by kernel_rfl)(c:(waitsFor md b.toArray T i||(kH md b.toArray i 40 T&&pZ md b.toArray d))=true:=by kernel_rfl)(hQ:∀h a w,Q (.panic h) (a.put e.dst v) w→Q (.panic h) a w:=by exact fun _ _ _ f=>f)(p:Region.wanted e (yielded b.toArray a.tmps)=true:=by rfl):jK (i::plan) P md b.toArray Q S T (j+1) d a w:=⟨(Bool.or_eq_true_iff.1 c).elim (fun c=>IM l o m n c hQ p q k f.out) (fun c=>IP l o m n c hQ p q k f.out)⟩
theorem gT{n:Nat}{b:Array Bool}{a:Act}{w:World}(plan:List Nat)(c:jK plan P md ops Q S T n b a w):dr P md ops Q S T n b a w:=c.out
theorem dc{n:Nat}{b:Array Bool}{a:Act}{w:World}(c:dr P md ops Q S T n b a w):jK [] P md ops Q S T n b a w:=⟨c⟩
theorem eW{id:Nat}{a:Act}{w:World}(T:Nat)(plan:List Nat)(S:World→Prop)(c:P.follows .mixedOrders=true)(b:jK plan P .any ops Q S T ops.size (Array.replicate ops.size false) a w.drew):(Code.region id ops true).wp P Q a w:=iJ T S c b.out
end Go.Proofs.YtokhibfenccijaaGreatDoor
namespace Go.Proofs.YtokhibfenccijaaGreatDoor
open Go.Proofs.Tryz
open Go.RowKit Go.Maps
def fI(p:List Fn)(x:Int×Int):List Fn:=match p.getLast? with|none=>p|some a=>p.dropLast++[⟨a.args,a.locals,a.code++[x]⟩]
def stepT(p:List Fn):List (List UInt8)→Option (List Fn)
 |[]=>none
 |b::c=>match eD c with|none=>none|some a=>if b=[102,117,110,99]then(if a.length=2 then some (p++[⟨a.getD 0 0,a.getD 1 0,[]⟩])else none)else if p=[]then none else match gd b a with|none=>none|some d=>some (fI p d)
def jm(b:Nat)(p:List Fn)(f:List (List UInt8))(w:World)(e:Ending)(w':World):Prop:=match stepT p f with|some d=>∃a c,e=.returned a∧cx b c w' a d∧Below b w w'|none=>e=eQ∧Below b w w'
structure eL(w:World):Prop where
 Kc:dv w
 Kp:jM w
 kinds:iR w
 Kv:∃a,w.cell? ⟨1,0,none⟩=some (.int .i64 a)
theorem eL.kept{w w':World}(a:eL w)(k:J w w'):eL w':=⟨a.Kc.kept k,a.Kp.kept k,a.kinds.kept k,by obtain⟨c,b⟩:=a.Kv;exact⟨c,k.cell b⟩⟩
theorem JA(w:World)(b m:Nat)(v lv:Value)(p:List Fn)(wd:List UInt8)(g:List (List UInt8))(e4:cx b m w v p)(h8:p.length≤10000)(e3:∀f∈p,f.code.length≤10000)(i3:fH w lv (wd::g))(i4:∀n∈wd::g,n.length≤100000)(a4:eL w):Calls prog 64 #[v,lv] w (jm b p (wd::g) w):=by
 obtain⟨e7,I,rfl,h9,b3⟩:=i3;obtain⟨B,r,rfl,a2⟩:=b3 0 wd rfl;simp only[List.length_cons]at h9;have e1:∀c,J w c→fH c (.slice (if I=1 then some ⟨B,r,none⟩else some ⟨B,r+1,none⟩) g.length (I-1)) g:=fun c i=>by
  by_cases D:I=1;·have i2:g=[]:=List.eq_nil_of_length_eq_zero (by omega);subst i2;exact⟨_,_,rfl,by simp,fun h n a0=>by simp at a0⟩
  ·rw[if_neg D];refine⟨_,_,rfl,by omega,fun h n a0=>⟨B,r+1,rfl,?_⟩⟩;obtain⟨j0,j9,q,c2⟩:=b3 (h+1) n (by simpa using a0);cases q;rw[show r+1+h=r+(h+1)by omega];exact i.cell c2
 have b0:Hid (∀c,J w c→Calls prog 93 #[.slice (if I=1 then some ⟨B,r,none⟩else some ⟨B,r+1,none⟩) g.length (I-1)] c (mf g c)):=R fun c i=>Ew c _ g (e1 c i) (fun n a0=>i4 n (by simp[a0])) (a4.Kc.kept i) (a4.Kp.kept i);have g5:Hid (J w w.drew):=R ((J.refl w).drew);unfold aG at a2;rw[Nat.add_zero]at a2;have z:=R e4;have g0:=R a4;clear b3 e1 e4 a4;generalize V:(ByteArray.mk wd.toArray)=b2 at*;generalize h6:g.length=i5 at*;obtain⟨e9,c4,rfl⟩:∃e9 c4,v=.slice e9 p.length c4:=by obtain⟨_,_,c2,i1,_⟩:=U z;obtain⟨e7,g9,q,_⟩:=iG i1;exact⟨e7,g9,q⟩
 simp only[List.length_cons,h6];go_enter func64,ntmps64;go_wp2_with fail;refine wp_region_held_drew (S:=fun b5=>J w b5) (by kernel_rfl) (U g5) (fun e=>?_);have j7:(1:Int)≤(i5:Int)+1:=by omega
 refine bQ [0,1,2,3,4] ?_;repeat
  refine bS (v:=?_) e (fun c K=>?_) ?_;rotate_left;·(have b6:=J.cell K a2;(try dsimp only at b6);go_simp)<;>with_reducible rfl
  try simp only[PS]
 refine bO ?_;generalize(if I=1 then some (⟨B,r,none⟩:Addr)else some ⟨B,r+1,none⟩)=k0 at*;have P:=R ((U b0) w.drew e);refine take_one (i:=5) rfl (by kernel_rfl) (fun d a=>?_);go_simp;refine(U P).mono ?_;intro q u l;unfold mf at l;cases M:eD g with
 |none=>rw[M]at l;obtain⟨rfl,s⟩:=l;have k:Hid (stepT p (wd::g)=none):=R (by simp only[stepT,M]);have g2:Hid (Below b w u):=R (by have h5:=(U z).1;have h2:=(U z).2.1;exact⟨s.os,s.tape,s.output,s.size,fun o h7=>s.block o (by show o<w.heap.size;omega)⟩);clear s P b0 a M;dsimp only[eQ];refine⟨rfl,?_⟩;unfold jm;rw[U k];exact⟨rfl,U g2⟩
 |some t=>
  rw[M]at l;obtain⟨o,rfl,e2,s⟩:=l;have a7:J w u:=e.trans s;refine a.out _ _ a7 (fun e=>?_);clear a d;try simp only[PS]
  refine take_one (i:=6) rfl (by kernel_rfl) (fun d a=>?_);go_simp;refine a.out _ _ e (fun e=>?_);clear a d;try simp only[PS]
  refine take_one (i:=7) rfl (by kernel_rfl) (fun d a=>?_);go_simp;refine a.out _ _ e (fun e=>?_);clear a d;try simp only[PS]
  refine wpAnyH_done (by kernel_rfl) ?_ _;have c1:Hid (∀c,Calls prog 63 #[.bool true] c fun q b4=>q=.returned (.tuple #[])∧c=b4):=R fun c=>(nC c).mono fun _ _ C=>⟨C.1,C.2.symm⟩;have b9:Hid (∀c,Calls prog 63 #[.bool false] c fun q b4=>q=eQ∧c=b4):=R fun c=>(nB c).mono fun _ _ C=>⟨C.1,C.2.symm⟩;have Q:=R ((U z).kept a7);have a1:=R e2;have G:=R a7;have O:Hid (∀c,J w c→Below b w c):=R (by have h5:=(U z).1;have h2:=(U z).2.1;exact fun c i=>⟨i.os,i.tape,i.output,i.size,fun o h7=>i.block o (by omega)⟩);have H:=R M;clear e e2 s a7 M P b0 a2 z;by_cases L:wd=[102,117,110,99]
  ·have i0:(b2.toList==[102,117,110,99])=true:=by rw[←V,ByteArray.toList_mk,L];rfl
   have F:=R L;generalize c9:t.length=e6 at*;have b8:=R c9;clear L V c9;by_cases h2:e6=2
   ·subst h2;go_wp2_with fail;refine((U c1) _).mono ?_;rintro _ _⟨rfl,rfl⟩;obtain⟨x,y,a5⟩:∃x y,t=[x,y]:=by match t,U b8 with|[x,y],_=>exact⟨x,y,rfl⟩
    obtain⟨A,D,X⟩:=U a1;have h0:A[0]?=some (.int .i64 x):=X 0 x (by rw[a5];rfl);have h1:A[1]?=some (.int .i64 y):=X 1 y (by rw[a5];rfl);have k:Hid (stepT p (wd::g)=some (p++[⟨x,y,[]⟩])):=R (by simp only[stepT,U H,U F,if_true,a5];rfl);obtain⟨k2,i6,Z,Y,W,e5⟩:=((U Q).kept ((J.refl u).drew)).addFn (by omega) x y;have T:=R Z;have b1:=R Y;have a9:Hid (Below b w i6):=R (Below.trans ((U O) _ ((U G).drew)) W);have c0:Hid (u.drew.heap[o]?=some (.cells A 3)):=R D;have g6:=R (au (U c0) (.cells #[.int .i64 x,.int .i64 y,.slice none 0 0] 69));have g7:=R (e5 o A D);clear D X Z Y W e5 a5 a1 Q;go_wp2_with fail;refine wp_region_held_drew (S:=fun b5=>b5.heap[o]?=some (.cells A 3)) (by kernel_rfl) (U c0) (fun e=>?_);refine bQ [0,1,2,3,4,5,6,7] ?_;repeat
     refine bS (v:=?_) e (fun c K=>?_) ?_;rotate_left;·(have b6:=(ab K 0).trans h0;have i8:=(ab K 1).trans h1;(try dsimp only at b6 i8);go_simp)<;>with_reducible rfl
     try simp only[PS]
    refine bO ?_;refine take_one (i:=8) rfl (by kernel_rfl) (fun d a=>?_);go_simp;refine a.out _ _ (U g6) (fun e=>?_);clear a d;try simp only[PS]
    refine take_one (i:=9) rfl (by kernel_rfl) (fun d a=>?_);rw[if_pos (by rfl)];refine eb _ _ _ 27 rfl rfl rfl (U T) ?_;refine a.out _ _ (U g7) (fun e=>?_);clear a d T;try simp only[PS]
    refine take_one (i:=10) rfl (by kernel_rfl) (fun d a=>?_);go_simp;refine a.out _ _ e (fun e=>?_);clear a d;try simp only[PS]
    refine wpAnyH_done (by kernel_rfl) ?_ _;clear e;go_wp2_with fail;go_ret;unfold jm;rw[U k];exact⟨_,_,rfl,U b1,U a9⟩
   ·have j6:((e6:Int)==2)=false:=by simp;omega
    have k:Hid (stepT p (wd::g)=none):=R (by simp only[stepT,U H,U F,if_true,U b8,if_neg h2]);clear h2;go_wp2_with fail;refine((U b9) _).mono ?_;rintro _ _⟨rfl,rfl⟩;dsimp only[eQ];go_wp2_with fail;refine⟨rfl,?_⟩;unfold jm;rw[U k];exact⟨rfl,(U O) _ (U G)⟩
  ·have i0:(b2.toList==[102,117,110,99])=false:=by rw[←V,ByteArray.toList_mk];simpa using L
   have F:=R L;have g4:Hid (∀c,J u c→Calls prog 94 #[.string b2,.slice (some ⟨o,0,none⟩) t.length t.length] c (kM wd t c)):=R fun c i=>by rw[←V];obtain⟨A,D,X⟩:=U a1;exact Ft c wd o t.length t rfl ⟨A,aw i D,X⟩ (by have:=(ot (U H)).1;omega) ((U g0).kinds.kept ((U G).trans i))
   clear L V a1;by_cases a6:p=[];·subst a6;have k:Hid (stepT [] (wd::g)=none):=R (by simp only[stepT,U H,if_neg (U F),if_true]);simp only[List.length_nil];go_wp2_with fail;refine((U b9) _).mono ?_;rintro _ _⟨rfl,rfl⟩;dsimp only[eQ];go_wp2_with fail;refine⟨rfl,?_⟩;unfold jm;rw[U k];exact⟨rfl,(U O) _ (U G)⟩
   ·obtain⟨j,f,rfl⟩:∃j f,p=j++[f]:=⟨p.dropLast,p.getLast a6,(List.dropLast_concat_getLast a6).symm⟩;have j4:=e3 f (by simp);simp only[List.length_append,List.length_cons,List.length_nil,Nat.zero_add]at h8 Q⊢;obtain⟨c7,j1,j3,e8,c3,c5,rfl,c6,h3,_,_⟩:=(U Q).last;simp only[Value.slice.injEq]at c5;obtain⟨rfl,_,rfl⟩:=c5;have j5:(0:Int)<(j.length:Int)+1:=by omega
    have g8:Hid (u.drew.cell? ⟨c7,j.length*3+2,none⟩=some (.slice e8 f.code.length c3)):=R c6;have b7:Hid ((j++[f]).getLast?=some f∧(j++[f]).dropLast=j):=R ⟨by simp,by simp⟩;generalize c8:f.code.length=h4 at*;have g1:=R c8;clear c6 h3 e3 a6 c8;go_wp2_with fail;refine((U c1) _).mono ?_;rintro _ _⟨rfl,rfl⟩;go_wp2_with fail;refine eW 12 [0,1,2,3,4,5,6] (fun c=>c.cell? ⟨c7,j.length*3+2,none⟩=some (.slice e8 h4 c3)) (by kernel_rfl) ?_;have e:=U g8;repeat
     refine cN (v:=?_) e (fun c K=>?_) ?_;rotate_left;·((try dsimp only at K);go_simp)<;>with_reducible rfl
     try simp only[PS]
    refine dc ?_;have P:=R ((U g4) u.drew ((J.refl u).drew));refine az (i:=7) rfl (by kernel_rfl) (fun d a=>?_);go_simp;refine(U P).mono ?_;intro q i7 l;unfold kM at l;cases N:gd wd t with
    |none=>rw[N]at l;obtain⟨rfl,E⟩:=l;have k:Hid (stepT (j++[f]) (wd::g)=none):=R (by simp only[stepT,U H,if_neg (U F),if_neg (show¬(j++[f]=[])by simp),N]);have g3:=R ((U O) _ (((U G).drew).trans E));clear a E N;dsimp only[eQ];refine⟨rfl,?_⟩;unfold jm;rw[U k];exact⟨rfl,U g3⟩
    |some n=>
     rw[N]at l;obtain⟨rfl,E⟩:=l;have k:Hid (stepT (j++[f]) (wd::g)=some (j++[⟨f.args,f.locals,f.code++[n]⟩])):=R (by simp only[stepT,U H,if_neg (U F),if_neg (show¬(j++[f]=[])by simp),N,fI,(U b7).1,(U b7).2]);have a3:=E.cell e;obtain⟨k3,k4,Z,⟨k1,j8,j2,rfl⟩,a8,i9,Y,W⟩:=(((U Q).kept ((J.refl u).drew)).kept E).KJ a3 n (by have:=U g1;omega);have T:=R Z;have b1:=R Y;have a9:=R (Below.trans ((U O) _ (((U G).drew).trans E)) W);have e0:=((J.refl i7).alloc (.cells #[.int .i64 n.1,.int .i64 n.2] 72)).cell a3;refine a.out _ _ (fun _=>a3) ?_;clear a d Z Y W E N;try simp only[PS]
     refine az (i:=8) rfl (by kernel_rfl) (fun d a=>?_);go_simp;refine a.out _ _ (fun _=>e0) ?_;clear a d;try simp only[PS]
     refine az (i:=9) rfl (by kernel_rfl) (fun d a=>?_);rw[if_pos (by rfl)];refine eb _ _ _ 67 rfl rfl rfl (U T) ?_;refine a.out _ _ (fun _=>a8) ?_;clear a d T;try simp only[PS]
     refine az (i:=10) rfl (by kernel_rfl) (fun d a=>?_);go_simp;refine a.out _ _ (fun _=>a8) ?_;clear a d;try simp only[PS]
     refine az (i:=11) rfl (by kernel_rfl) (fun d a=>?_);go_simp;refine a.out _ _ (fun _=>a8) ?_;clear a d;try simp only[PS]
     refine az (i:=12) rfl (by kernel_rfl) (fun d a=>?_);go_simp;refine a.out _ _ (fun C=>absurd rfl C) ?_;clear a d;try simp only[PS]
     refine df (by kernel_rfl) ?_ _;clear a3 e0 e a8 i9;go_wp2_with fail;go_ret;unfold jm;rw[U k];exact⟨_,_,rfl,U b1,U a9⟩
def ao(c:UInt8):List UInt8→List (List UInt8)
 |[]=>[[]]
 |a::b=>if a=c then[]::ao c b else match ao c b with|[]=>[[a]]|d::e=>(a::d)::e
theorem gV(c:UInt8):∀a,ao c a≠[]
 |[]=>by simp[ao]
 |b::a=>by
  unfold ao;split;·simp
  ·split<;>simp
theorem Ip(c:UInt8)(k:Nat)(l:List UInt8):Lib.splitK [c] 0 (k+1) (c::l)=[]::Lib.splitK [c] 0 k l:=by
 have a:Lib.index (c::l) [c]=0:=by rw[Lib.index_one];simp[Lib.indexByte]
 unfold Lib.splitK;rw[a,if_neg (by decide)];cases k<;>simp[Lib.splitK]
theorem xa(c:UInt8):∀a,Lib.split a [c]=ao c a
 |[]=>by
  have:Lib.count [] [c]=0:=by rw[Lib.count_one];rfl
  unfold Lib.split;rw[this];rfl
 |d::a=>by
  have f:=xa c a;unfold Lib.split at f⊢;unfold ao;by_cases b:d=c;·subst b;rw[if_pos rfl,Lib.count_cons_eq,Nat.add_comm,Ip,f]
  ·rw[if_neg b,Lib.count_cons_ne d c a b,←f];cases g:Lib.count a [c]with
   |zero=>rfl
   |succ n=>
    have e:Lib.index a [c]≠-1:=fun j=>by rw[Lib.count_miss j]at g;cases g
    have l:Lib.index (d::a) [c]=Lib.index a [c]+1:=by rw[Lib.index_one,Lib.index_one];rw[Lib.index_one]at e;simp[Lib.indexByte,b,e]
    have k:0≤Lib.index a [c]:=by have:=Lib.indexByte_ge a c;rw[Lib.index_one]at e⊢;omega
    obtain⟨h,m⟩:=Int.eq_ofNat_of_zero_le k;unfold Lib.splitK;rw[l,m,if_neg (by simp;omega),if_neg (by simp)];have i:((h:Int)+1).toNat=h+1:=by omega
    rw[i,Int.toNat_natCast];simp
theorem pe(c:UInt8)(l:List UInt8):(ao c l).length=l.count c+1:=by
 induction l with
 |nil=>rfl
 |cons e l a=>
  unfold ao;by_cases b:e=c;·subst b;simp[a]
  ·rw[if_neg b];cases d:ao c l with
   |nil=>exact absurd d (gV c l)
   |cons f g=>rw[d]at a;simp[List.count_cons_of_ne b]at a⊢;exact a
theorem nT(c:UInt8):∀a,Lib.join (ao c a) [c]=a
 |[]=>by simp[ao,Lib.join_one]
 |e::a=>by
  have d:=nT c a;unfold ao;by_cases f:e=c
  ·subst f;rw[if_pos rfl];cases b:ao e a with
   |nil=>exact absurd b (gV e a)
   |cons g h=>rw[b,Lib.join_cons]at d;rw[Lib.join_cons];simp only[Lib.joinTail,List.map_cons,List.flatten_cons,List.nil_append]at d⊢;rw[List.append_assoc,d];rfl
  ·rw[if_neg f];cases b:ao c a with
   |nil=>exact absurd b (gV c a)
   |cons g h=>rw[b,Lib.join_cons]at d;simp only[Lib.join_cons,List.cons_append,d]
theorem rX{c:UInt8}:∀{x:List UInt8},c∉x→ao c x=[x]
 |[],_=>rfl
 |d::x,b=>by have e:d≠c:=fun a=>b (by simp[a]);unfold ao;rw[if_neg e,rX (fun a=>b (by simp[a]))]
theorem wY{c:UInt8}(l:List UInt8):∀{x:List UInt8},c∉x→ao c (x++c::l)=x::ao c l
 |[],_=>by simp[ao]
 |d::x,b=>by
  have e:d≠c:=fun a=>b (by simp[a]);rw[List.cons_append];conv=>lhs;unfold ao
  rw[if_neg e,wY l (fun a=>b (by simp[a]))]
theorem pd{c:UInt8}:∀{xs:List (List UInt8)},xs≠[]→(∀b∈xs,c∉b)→ao c (Lib.join xs [c])=xs
 |[],a,_=>absurd rfl a
 |[b],_,a=>by rw[Lib.join_one];exact rX (a b (by simp))
 |b::d::e,_,a=>by
  have g:=pd (xs:=d::e) (by simp) (fun h f=>a h (by simp[f]));rw[Lib.join_cons];have:Lib.joinTail [c] (d::e)=c::Lib.join (d::e) [c]:=by rw[Lib.join_cons];simp[Lib.joinTail]
  rw[this,wY _ (a b (by simp)),g]
