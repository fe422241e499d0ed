import Derived.Test.YtokhibfenccijaaGreatDoorQB36
set_option maxRecDepth 100000
set_option maxHeartbeats 8000000
namespace Go.Proofs.YtokhibfenccijaaGreatDoor
open Go.Proofs.Tryz
open Go.RowKit
theorem FD(N:Nat)(w:World):Own N w (fun _=>.slice none 0 0) St.zero:=by
 refine⟨fun b a=>?_,fun b k h a i d g=>by cases d⟩;cases b using Key.by with
 |fibers=>exact⟨[],World.ownsRow_nil _ _ _ _,fun j e=>by simp[St.zero]at e⟩
 |out=>exact World.ownsRow_nil _ _ _ _
 |frames c=>simp[live,St.zero]at a
 |locals c f=>simp[live,St.zero]at a
 |stack c f=>simp[live,St.zero]at a
def xO(b:St×Int)(w:World)(e:Ending)(w':World):Prop:=∃a,e=.returned (.tuple #[.agg #[a .I,.int .i64 b.1.now,a .out],.int .i64 b.2])∧Own w.heap.size w' a b.1∧J w w'
theorem II(p:List Fn)(s:St)(b6 v:Value)(w:World)(N:aK w b6 p)(a9:cy w v s)(b1:Small s)(M:mg p s):Calls prog 81 #[b6,v] w (xO (aU p s) w):=by
 obtain⟨g4,e0,rfl,_,_⟩:=id N;have h2:¬s.now<0:=by have:=M.1.1;omega
 have c2:=R N;have c3:=R a9;obtain⟨h6,h7,rfl,e4,e5⟩:=a9;obtain⟨g2,c8,rfl,_,_⟩:=e4;obtain⟨g3,c9,rfl,_,_⟩:=e5;have c0:=R M;have c4:=R b1;clear N M b1;generalize a4:aU p s=b;have V:=R a4;clear a4;go_enter func81,ntmps81;go_wp2_with fail;generalize D:(w.alloc (.cells #[.slice g2 s.I.length c8,.int .i64 s.now,.slice g3 s.out.length c9] 44)).alloc (.cells #[.slice none 0 0,.int .i64 0,.slice none 0 0] 44)=c;have Y:c.heap[w.heap.size+1]?=some (.cells #[.slice none 0 0,.int .i64 0,.slice none 0 0] 44):=by rw[←D];exact ah (by simp)
 have H:J w c:=by rw[←D];exact((J.refl w).alloc _).alloc _
 have b0:c.heap.size=w.heap.size+2:=by rw[←D];simp
 have Q:=R (vM s _ c ((U c3).kept H) (U c4));have t:=R H;have u:=R b0;have b9:=R Y;clear D H b0 Y;generalize a5:w.heap.size+1=a at*;have l:=R a5;clear a5;refine(U Q).mono ?_;rintro _ k⟨Z,rfl,n,C⟩;obtain⟨g5,o,_⟩:=n.piece .I trivial;obtain⟨b4,a1,h,_⟩:=aR o;have q:_:=n.piece .out trivial;obtain⟨b5,a2,i,_⟩:=aR q;have a7:ag c.heap.size (k.alloc (.cells #[.slice b4 s.I.length a1,.int .i64 s.now,.slice b5 s.out.length a2] 44)) k.heap.size Z s:=by refine⟨?_,n.alloc _,n.JU (.inl (Nat.le_refl _)),C.size⟩;rw[h,i];exact ah rfl
 have I:J c (k.alloc (.cells #[.slice b4 s.I.length a1,.int .i64 s.now,.slice b5 s.out.length a2] 44)):=C.alloc _;have S:=R (AA c.heap.size k.heap.size Z p s (.slice g4 p.length e0) _ w a7 (U c2) ((U t).trans I) (U t).size (U c0));rw[h,i];have T:=R I;have b7:Hid (c.heap.size≤k.heap.size∧True):=R ⟨C.size,trivial⟩;clear a7 I n C o q h i Q;go_wp2_with fail;refine(U S).mono ?_;rw[U V];rintro _ e⟨rfl,a6,a8⟩;have G:Hid (J c e):=R (Below.trans (U T) a6);have d:=aw (U G) (U b9);have h3:=ab d 0;have h4:=ab d 1;have h5:=ab d 2;have g7:=an d 0;have g8:=an d 1;have g9:=an d 2;have c1:=R a8;generalize e7:k.heap.size=a0 at*;have e6:¬a0=a:=by have:=(U b7).1;have:=U u;have:=U l;omega
 have h0:¬a=a0:=fun e3=>e6 e3.symm;clear a6 a8 e7 S T;by_cases f:b.2=0
 ·obtain⟨c7,r⟩:=(U c1) f;obtain⟨g5,o,_⟩:=r.own.piece .I trivial;obtain⟨E,A,h,_⟩:=aR o;have q:_:=r.own.piece .out trivial;obtain⟨F,B,i,_⟩:=aR q;obtain⟨e1,g6,e2,_⟩:=r.cells;rw[h]at e1;rw[i]at e2;have W:=R r;have c5:=R h;have c6:=R i;rw[f];have b8:=R f;clear r o q h i f;have m:=gS (x:=.slice E b.1.I.length A) (y:=.int .i64 b.1.now) (z:=.slice F b.1.out.length B) d;have g:=R m;clear m d;go_wp2_with fail;have k0:=ab (U g) 0;have O:=ab (U g) 1;have P:=ab (U g) 2;have b2:∀(y:Nat),c.heap.size≤y→(((e.setCell ⟨a,0,none⟩ (.slice E b.1.I.length A)).setCell ⟨a,1,none⟩ (.int .i64 b.1.now)).setCell ⟨a,2,none⟩ (.slice F b.1.out.length B)).heap[y]?=e.heap[y]?:=fun y g0=>by have:=U u;have:=U l;rw[Below.heap_setCell _ _ _ _ (by simp only;omega),Below.heap_setCell _ _ _ _ (by simp only;omega),Below.heap_setCell _ _ _ _ (by simp only;omega)]
  have L:J w e:=(U t).trans (U G);have j:w.heap.size≤a:=by have:=U l;omega
  have K:J w (((e.setCell ⟨a,0,none⟩ (.slice E b.1.I.length A)).setCell ⟨a,1,none⟩ (.int .i64 b.1.now)).setCell ⟨a,2,none⟩ (.slice F b.1.out.length B)):=((L.setCell (p:=⟨a,0,none⟩) j _).setCell (p:=⟨a,1,none⟩) j _).setCell (p:=⟨a,2,none⟩) j _;refine bodyPost_ret (v:=.tuple #[.agg #[.slice E b.1.I.length A,.int .i64 b.1.now,.slice F b.1.out.length B],.int .i64 0]) (by simp[results,results81,go_sem,k0,O,P]) rfl ?_;exact⟨c7,by rw[U c5,U c6,U b8],Own.base (base:=c.heap.size) ((U W).own.same (fun g1 a3 e9 e8=>b2 a3 (((U W).own.piece g1 e9).block a3 e8).1)) (by have:=U u;omega),K⟩
 ·have b3:b.1=St.zero:=by rw[←U V]at f⊢;exact tL f
  have h1:(b.2 !=0)=true:=bne_iff_ne.2 f;have X:=R b3;clear b3 f;have m:=gS (x:=.slice none 0 0) (y:=.int .i64 0) (z:=.slice none 0 0) d;have g:=R m;clear m d;go_wp2_with fail;have k0:=ab (U g) 0;have O:=ab (U g) 1;have P:=ab (U g) 2;have b2:∀(y:Nat),c.heap.size≤y→(((e.setCell ⟨a,0,none⟩ (.slice none 0 0)).setCell ⟨a,1,none⟩ (.int .i64 0)).setCell ⟨a,2,none⟩ (.slice none 0 0)).heap[y]?=e.heap[y]?:=fun y g0=>by have:=U u;have:=U l;rw[Below.heap_setCell _ _ _ _ (by simp only;omega),Below.heap_setCell _ _ _ _ (by simp only;omega),Below.heap_setCell _ _ _ _ (by simp only;omega)]
  have L:J w e:=(U t).trans (U G);have j:w.heap.size≤a:=by have:=U l;omega
  have K:J w (((e.setCell ⟨a,0,none⟩ (.slice none 0 0)).setCell ⟨a,1,none⟩ (.int .i64 0)).setCell ⟨a,2,none⟩ (.slice none 0 0)):=((L.setCell (p:=⟨a,0,none⟩) j _).setCell (p:=⟨a,1,none⟩) j _).setCell (p:=⟨a,2,none⟩) j _;refine bodyPost_ret (v:=.tuple #[.agg #[.slice none 0 0,.int .i64 0,.slice none 0 0],.int .i64 b.2]) (by simp[results,results81,go_sem,k0,O,P]) rfl ?_;exact⟨fun _=>.slice none 0 0,by rw[U X];rfl,by rw[U X];exact FD _ _,K⟩
