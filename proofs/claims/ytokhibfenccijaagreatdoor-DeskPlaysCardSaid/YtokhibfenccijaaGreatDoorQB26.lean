import Derived.Test.YtokhibfenccijaaGreatDoorQB25
set_option maxRecDepth 100000
set_option maxHeartbeats 8000000
namespace Go.Proofs.YtokhibfenccijaaGreatDoor
open Go.Proofs.Tryz
open Go.RowKit
theorem bE.low{K:Key→Prop}{base a:Nat}{w:World}{V:Key→Value}{s:St}(b:bE K a w V s)(c:base≤a):bE K base w V s:=⟨fun e d=>(b.piece e d).low c,b.apart⟩
theorem bE.Le{K:Key→Prop}{base:Nat}{w:World}{V:Key→Value}{s:St}(c:bE K base w V s){a:Addr}(h:a.block<base)(u:Value):bE K base (w.setCell a u) V s:=c.same fun f b e d=>Below.heap_setCell w a u b (fun g=>by have:=((c.piece f e).block b d).1;omega)
def sr(s:St)(t:Nat)(w:World)(b:Ending)(w':World):Prop:=∃a,b=.returned (.agg #[a (.U t),.int .i64 (aa s t).caller])∧bE (FK t (aa s t).U.length) w.heap.size w' a s∧J w w'
theorem FA(s:St)(t:Nat)(v:Value)(w:World)(o:fD w v (aa s t).U)(a0:(aa s t).U.length≤1000)(L:∀B,B<(aa s t).U.length→(ae s t B).locals.length≤1000∧(ae s t B).stack.length≤1000):Calls prog 90 #[.agg #[v,.int .i64 (aa s t).caller]] w (sr s t w):=by
 have D:Hid (∀b,J w b→Calls prog 129 #[v,.func (.func 130) #[] #[]] b (pE s t b)):=R (fun b A=>AX s t v b (o.kept A) a0 L);obtain⟨r,n,rfl,_,_⟩:=o;clear L;generalize X:(aa s t).U.length=d at*;generalize Z:(aa s t).caller=c at*;go_enter func90,ntmps90;go_wp2_with fail;generalize m:((w.alloc (.cells #[.slice r d n,.int .i64 c] 95)).alloc (.cells #[.slice none 0 0,.int .i64 0] 95))=e;have G:J w e:=by rw[←m];exact((J.refl w).alloc _).alloc _
 have a7:e.heap.size=w.heap.size+2:=by rw[←m];simp
 have O:e.heap[w.heap.size]?=some (.cells #[.slice r d n,.int .i64 c] 95):=by rw[←m];exact au (ah rfl) _
 have N:e.heap[w.heap.size+1]?=some (.cells #[.slice none 0 0,.int .i64 0] 95):=by rw[←m];exact ah (by simp)
 clear m;have y:∀b,J e b→b.cell? ⟨w.heap.size,0,none⟩=some (.slice r d n)∧b.cell? ⟨w.heap.size,1,none⟩=some (.int .i64 c):=fun b A=>have M:=aw A O;⟨ab M 0,ab M 1⟩;have x:=R y;refine eW 6 [0,1,3,4] (fun b=>b.cell? ⟨w.heap.size,0,none⟩=some (.slice r d n)∧b.cell? ⟨w.heap.size,1,none⟩=some (.int .i64 c)) (by kernel_rfl) ?_;have F:=y e (J.refl e);clear y;repeat
  refine cN (v:=?_) F (fun b Y=>?_) ?_;rotate_left;·((try dsimp only at Y);go_simp)<;>with_reducible rfl
  try simp only[PS]
 refine dc ?_;refine az (i:=2) rfl (by kernel_rfl) (fun k f=>?_);go_simp;refine((U D) _ (G.drew)).mono ?_;rintro a6 u⟨T,rfl,z,H⟩;have l:J e u:=((J.refl e).drew).trans H;obtain⟨a8,K,_⟩:=z.piece (.U t) rfl;obtain⟨j,g,q,_⟩:=aR K;rw[X]at q;rw[q];refine f.out _ _ (fun _=>(U x) u l) ?_;clear f k;try simp only[PS]
 refine az (i:=5) rfl (by kernel_rfl) (fun k f=>?_);go_simp;refine f.out _ _ (fun _=>(U x) u l) ?_;clear f k;try simp only[PS]
 have h:=aw l N;have a2:=ab h 0;have a3:=ab h 1;have V:=an h 0;have W:=an h 1;refine az (i:=6) rfl (by kernel_rfl) (fun k f=>?_);go_simp;refine f.out _ _ (fun o=>absurd rfl o) ?_;clear f k;refine df (by kernel_rfl) ?_ _;have C:=ay (ay h 0 (.slice j d g)) 1 (.int .i64 c);have a1:w.heap.size+2≤(e.drew).heap.size:=by simp;omega
 have P:=((((z.low a1).Le (a:=⟨w.heap.size+1,0,none⟩) (by simp) (.slice j d g)).Le (a:=⟨w.heap.size+1,1,none⟩) (by simp) (.int .i64 c)).low (base:=w.heap.size) (by omega));have I:=((G.trans l).setCell (p:=⟨w.heap.size+1,0,none⟩) (Nat.le_succ _) (.slice j d g)).setCell (p:=⟨w.heap.size+1,1,none⟩) (Nat.le_succ _) (.int .i64 c);generalize((u.setCell ⟨w.heap.size+1,0,none⟩ (.slice j d g)).setCell ⟨w.heap.size+1,1,none⟩ (.int .i64 c))=Q at*;have a4:Q.cell? ⟨w.heap.size+1,0,none⟩=some (.slice j d g):=ab C 0;have a5:Q.cell? ⟨w.heap.size+1,1,none⟩=some (.int .i64 c):=ab C 1;have E:=R (And.intro P I);have S:=R q;clear P I C a2 a3 V W z H l h F x D O N K q;go_wp2;refine bodyPost_ret (v:=.agg #[.slice j d g,.int .i64 c]) (by simp[results,results90,go_sem,a4,a5]) rfl ?_;exact⟨T,by rw[U S,Z],(U E).1,(U E).2⟩
def mw(s:St)(A:Nat→Value)(k:Nat):Value:=if k%2=0 then A (k/2)else .int .i64 (aa s (k/2)).caller
def jt(s:St)(A:Nat→Value):List Value:=(List.range (s.I.length*2)).map (mw s A)
theorem tQ(s:St)(A:Nat→Value):(jt s A).length=s.I.length*2:=by simp[jt]
theorem qn(s:St)(A:Nat→Value){k:Nat}(a:k<s.I.length*2):(jt s A)[k]?=some (mw s A k):=by simp[jt,List.getElem?_range a]
theorem Bk(s:St)(A:Nat→Value){j:Nat}(e:j<s.I.length):(jt s A)[j*2]?=some (A j)∧(jt s A)[j*2+1]?=some (.int .i64 (aa s j).caller):=by
 rw[qn s A (by omega),qn s A (by omega)];unfold mw;have a:j*2/2=j:=by omega
 have b:(j*2+1)/2=j:=by omega
 have c:j*2%2=0:=by omega
 have d:(j*2+1)%2=1:=by omega
 simp[a,b,c,d]
theorem Bt{s:St}{v:Value}{w:World}(j:iw w v s.I):∃g i d,v=.slice g s.I.length i∧gv w g (jt s d)∧∀a,a<s.I.length→fD w (d a) (aa s a).U:=by
 obtain⟨g,i,t,_,y⟩:=j;have x:∀a:Nat,∃m:Value,a<s.I.length→∃b c,g=some ⟨b,c,none⟩∧w.cell? ⟨b,c+a*2,none⟩=some m∧w.cell? ⟨b,c+a*2+1,none⟩=some (.int .i64 (aa s a).caller)∧fD w m (aa s a).U:=fun a=>by
  by_cases h:a<s.I.length;·obtain⟨b,c,A,k,h2⟩:=y a (aa s a) (aD s.I a Fb.zero h);exact⟨A,fun _=>⟨b,c,k,h2⟩⟩
  ·exact⟨.slice none 0 0,fun j=>absurd j h⟩
 obtain⟨d,l⟩:=Classical.axiomOfChoice x;refine⟨g,i,d,t,⟨fun f B e=>?_,fun B z=>?_⟩,fun a h=>?_⟩
 ·have q:f<s.I.length*2:=by rw[←tQ s d];exact(List.getElem?_eq_some_iff.1 e).1
  obtain⟨b,c,p,n,o,_⟩:=l (f/2) (by omega);refine⟨b,c,p,?_⟩;rw[qn s d q]at e;obtain rfl:=Option.some.inj e;unfold mw;by_cases r:f%2=0;·rw[if_pos r,←n];congr 2;omega
  ·rw[if_neg r,←o];congr 2;omega
 ·obtain⟨f,e,rfl⟩:=List.mem_map.1 z;have q:=List.mem_range.1 e;obtain⟨b,c,p,n,o,⟨_,_,u,_⟩⟩:=l (f/2) (by omega);unfold mw;split;·rw[u];rfl
  ·rfl
 ·obtain⟨b,c,_,_,_,k⟩:=l a h;exact k
def pD(s:St)(w:World)(b:Ending)(w':World):Prop:=∃a,b=.returned (a .I)∧bE (LK s s.I.length) w.heap.size w' a s∧J w w'
def fT(s:St)(A:Nat→Value)(v:Value)(w:World)(k:Nat)(w':World):Prop:=∃a:Key→Value,a .I=v∧bE (LK s k) w.heap.size w' a s∧(∀b,k≤b→a (.U b)=A b)∧J w w'
theorem fT.start{s:St}{A:Nat→Value}{v:Value}{w w':World}(a:w'.ownsRow w.heap.size 95 2 v s.I.length (jt s A))(c:J w w'):fT s A v w 0 w':=⟨fun|some (some (.inl d))=>A d|_=>v,rfl,bE.KO a (fun _ b=>Bk s A b),fun _ _=>rfl,c⟩
theorem fT.next{s:St}{g cap k:Nat}{A:Nat→Value}{w w1 w2:World}{v1:Value}(l:fT s A (.slice (some ⟨g,0,none⟩) s.I.length cap) w k w1)(n:k<s.I.length)(o:sr s k w1 (.returned (.agg #[v1,.int .i64 (aa s k).caller])) w2):fT s A (.slice (some ⟨g,0,none⟩) s.I.length cap) w (k+1) ((w2.setCell ⟨g,k*2,none⟩ v1).setCell ⟨g,k*2+1,none⟩ (.int .i64 (aa s k).caller)):=by
 obtain⟨b,c,h,q,f⟩:=l;obtain⟨a,j,m,e⟩:=o;obtain rfl:a (.U k)=v1:=by simpa using j.symm
 have d:w.heap.size≤g:=((h.piece .I trivial).block g (by rw[c];rfl)).1;refine⟨mx b a k,by rw[jY b a rfl];exact c,h.KM f.size e n c m,fun i r=>?_,?_⟩;·rw[jY b a (t:=k) (k:=.U i) (beq_eq_false_iff_ne.2 (by omega))];exact q i (by omega)
 ·exact((f.trans e).setCell (p:=⟨g,k*2,none⟩) d _).setCell (p:=⟨g,k*2+1,none⟩) d _
theorem fT.cells{s:St}{g cap k:Nat}{A:Nat→Value}{w w1:World}(j:fT s A (.slice (some ⟨g,0,none⟩) s.I.length cap) w k w1)(n:k<s.I.length):w1.cell? ⟨g,k*2,none⟩=some (A k)∧w1.cell? ⟨g,k*2+1,none⟩=some (.int .i64 (aa s k).caller)∧g<w1.heap.size∧∀a,w1.frozen? ⟨g,a,none⟩=false:=by
 obtain⟨v,m,o,p,C⟩:=j;obtain⟨u,h,r⟩:=o.piece .I trivial;obtain⟨i,t⟩:=r k n;rw[p k (Nat.le_refl _)]at i;rw[m]at h;rcases h with⟨E,⟨l,_⟩|⟨z,x,y,e,_,c,D,_,B,q⟩⟩;·cases l
 ·simp only[Value.slice.injEq,Option.some.injEq,Addr.mk.injEq]at e;obtain⟨⟨rfl,_⟩,_⟩:=e;have f:∀a d,u[a]?=some d→w1.cell? ⟨g,a,none⟩=some d:=fun a d b=>by
   rw[ab c a,←Array.getElem?_toList];rw[←q,List.getElem?_take]at b;split at b;·exact b
   ·cases b
  exact⟨f _ _ i,f _ _ t,(Array.getElem?_eq_some_iff.1 c).1,fun a=>an c a⟩
def pM(s:St):Prop:=s.I.length≤1000∧s.out.length≤1000∧∀a,a<s.I.length→(aa s a).U.length≤1000∧∀b,b<(aa s a).U.length→(ae s a b).locals.length≤1000∧(ae s a b).stack.length≤1000
theorem AW(s:St)(v:Value)(w:World)(M:iw w v s.I)(r:pM s):Calls prog 89 #[v,.func (.func 90) #[] #[]] w (pD s w):=by
 obtain⟨a8,t,c,rfl,O,N⟩:=Bt M;have E:=R (zh _ a8 t _ w O (tQ s c) r.1);have Z:=R N;have H:=R r.2.2;have I:=R (fun(v:Value)(d:World)=>fT.start (s:=s) (A:=c) (v:=v) (w:=w) (w':=d));have a1:Hid (∀v d,fT s c v w s.I.length d→pD s w (.returned v) d):=R (fun v d⟨q,l,n,_,S⟩=>⟨q,by rw[l],n,S⟩);have a4:Hid (∀a d A e,a<s.I.length→fT s c (.slice A s.I.length e) w a d→∃b,A=some ⟨b,0,none⟩):=R (fun a d A e S⟨q,l,n,_,_⟩=>by
  obtain⟨a9,h,_⟩:=n.piece .I trivial;rw[l]at h;rcases h.2 with⟨_,k⟩|⟨b,b2,b3,k,_⟩;·omega
  ·simp only[Value.slice.injEq]at k;exact⟨b,k.1⟩);have a0:=R (fun(b e a:Nat)(d:World)=>fT.cells (s:=s) (g:=b) (cap:=e) (k:=a) (A:=c) (w:=w) (w1:=d));have a5:=R (fun(b e a:Nat)(o p:World)(D:Value)=>fT.next (s:=s) (g:=b) (cap:=e) (k:=a) (A:=c) (w:=w) (w1:=o) (w2:=p) (v1:=D));have b8:=r.1;clear M O N r;generalize b6:s.I.length=g at*;go_enter func89,ntmps89;go_wp2_with fail;refine(U E).mono ?_;rintro k o⟨D,rfl,y,T⟩;obtain⟨B,j,rfl,_⟩:=aR y;have a3:Hid (fT s c (.slice B g j) w 0 o):=R ((U I) _ _ y T);clear y T E I;go_wp2;go_loopw[10](fun C wr=>∃a:Nat,a≤g∧C=.int .i64 a∧Hid (fT s c (.slice B g j) w a wr))(fun C _=>g-(intOf C).toNat);case atStart=>exact⟨0,Nat.zero_le _,rfl,a3⟩
 case round=>
  obtain⟨a,b7,rfl,i⟩:=hrel;by_cases f:a<g
  ·obtain⟨b,rfl⟩:=(U a4) a wr B j f (U i);obtain⟨K,L,Q,P⟩:=(U a0) b j a wr (U i) f;obtain⟨q,l,n,a7,W⟩:=id (U i);have X:=FA s a _ wr (((U Z) a f).kept W) ((U H) a f).1 ((U H) a f).2;have G:=R X;clear X l n a7 W q;go_wp2_with fail;refine(U G).mono ?_;rintro k p⟨a6,rfl,h,m⟩;obtain⟨a9,Y,_⟩:=h.piece (.U a) rfl;obtain⟨c0,b1,u,_⟩:=aR Y;have F:=R ((U a5) b j a wr p _ (U i) f ⟨a6,rfl,h,m⟩);rw[u]at F;rw[u];have b4:=m.cell K;have b5:=m.cell L;have b9:∀z,p.frozen? ⟨b,z,none⟩=false:=fun z=>by have:=P z;unfold World.frozen? at this⊢;rw[m.block b Q];exact this
   clear G h m K L P Q Y u;generalize(aa s a).U.length=b0 at*;go_wp2;go_roundw;case rel=>exact⟨a+1,by omega,by go_num,F⟩
   case measure=>simp[intOf];omega
  ·have V:a=g:=by omega
   have x:=U i;rw[V]at x;have a2:=R x;clear V x;go_wp2;go_ret;exact(U a1) _ _ (U a2)
def lZ(s:St)(w:World)(b:Ending)(w':World):Prop:=∃a,b=.returned (.agg #[a .I,.int .i64 s.now,a .out])∧Own w.heap.size w' a s∧J w w'
theorem vN(s:St)(v:Value)(w:World)(K:cy w v s)(O:pM s):Calls prog 60 #[v] w (lZ s w):=by
 obtain⟨b1,V,rfl,a3,y⟩:=K;have W:Hid (∀b,J w b→Calls prog 89 #[b1,.func (.func 90) #[] #[]] b (pD s b)):=R (fun b z=>AW s b1 b (a3.kept z) O);obtain⟨G,C,rfl,_,_⟩:=a3;obtain⟨r,o,rfl,_,a6⟩:=y;have X:Hid (∀b,J w b→Calls prog 91 #[.slice r s.out.length o] b (kJ 3 1 s.out.length (ints s.out) b)):=R (fun b z=>pY _ r o _ b ((qN a6).kept z) (by rw[ij,Nat.mul_one]) O.2.1);have Z:=R (fun(b u1:World)(k:Key→Value)(V:Value)(a0:Nat)=>bE.whole (base:=a0) (w:=b) (w1:=u1) (V:=k) (s:=s) (vo:=V));clear a6 O;generalize a2:s.I.length=j at*;generalize c9:s.out.length=c at*;generalize b8:s.now=h at*;go_enter func60,ntmps60;go_wp2_with fail;generalize A:((w.alloc (.cells #[.slice G j C,.int .i64 h,.slice r c o] 44)).alloc (.cells #[.slice none 0 0,.int .i64 0,.slice none 0 0] 44))=g;have M:J w g:=by rw[←A];exact((J.refl w).alloc _).alloc _
 have e0:g.heap.size=w.heap.size+2:=by rw[←A];simp
 have a9:g.heap[w.heap.size]?=some (.cells #[.slice G j C,.int .i64 h,.slice r c o] 44):=by rw[←A];exact au (ah rfl) _
 have a8:g.heap[w.heap.size+1]?=some (.cells #[.slice none 0 0,.int .i64 0,.slice none 0 0] 44):=by rw[←A];exact ah (by simp)
 clear A;have L:∀b,J g b→b.cell? ⟨w.heap.size,0,none⟩=some (.slice G j C)∧b.cell? ⟨w.heap.size,1,none⟩=some (.int .i64 h)∧b.cell? ⟨w.heap.size,2,none⟩=some (.slice r c o):=fun b z=>have S:=aw z a9;⟨ab S 0,ab S 1,ab S 2⟩;have B:=R L;refine eW 9 [0,1,3,4,5,6] (fun b=>b.cell? ⟨w.heap.size,0,none⟩=some (.slice G j C)∧b.cell? ⟨w.heap.size,1,none⟩=some (.int .i64 h)∧b.cell? ⟨w.heap.size,2,none⟩=some (.slice r c o)) (by kernel_rfl) ?_;have a1:=L g (J.refl g);clear L;repeat
  refine cN (v:=?_) a1 (fun b b7=>?_) ?_;rotate_left;·((try dsimp only at b7);go_simp)<;>with_reducible rfl
  try simp only[PS]
 refine dc ?_;refine az (i:=2) rfl (by kernel_rfl) (fun m e=>?_);go_simp;refine((U W) _ (M.drew)).mono ?_;rintro b3 H⟨k,rfl,y,a4⟩;have u:J g H:=((J.refl g).drew).trans a4;obtain⟨e2,a7,_⟩:=y.piece .I trivial;obtain⟨q,n,D,_⟩:=aR a7;rw[a2]at D;rw[D];refine e.out _ _ (fun _=>(U B) H u) ?_;clear e m;try simp only[PS]
 refine az (i:=7) rfl (by kernel_rfl) (fun m e=>?_);go_simp;refine((U X) _ (M.trans u)).mono ?_;rintro b3 t⟨e1,rfl,P,N⟩;obtain⟨f,d,rfl,_⟩:=aR P;have x:J g t:=u.trans N;refine e.out _ _ (fun _=>(U B) t x) ?_;clear e m;try simp only[PS]
 refine az (i:=8) rfl (by kernel_rfl) (fun m e=>?_);go_simp;refine e.out _ _ (fun _=>(U B) t x) ?_;clear e m;try simp only[PS]
 have l:=aw x a8;have c3:=ab l 0;have c4:=ab l 1;have c5:=ab l 2;have b4:=an l 0;have b5:=an l 1;have b6:=an l 2;refine az (i:=9) rfl (by kernel_rfl) (fun m e=>?_);go_simp;refine e.out _ _ (fun K=>absurd rfl K) ?_;clear e m;refine df (by kernel_rfl) ?_ _;have F:=ay (ay (ay l 0 (.slice q j n)) 1 (.int .i64 h)) 2 (.slice f c d);have c0:w.heap.size+2≤(g.drew).heap.size:=by simp;omega
 have c1:w.heap.size+2≤H.heap.size:=by have:=u.size;omega
 have Q:Own (w.heap.size+2) t (aC k .out (.slice f c d)) s:=(U Z) H t k (.slice f c d) (w.heap.size+2) (by rw[←a2];exact y.low c0) c1 N P;have E:Own.off (aC k .out (.slice f c d)) s (w.heap.size+1):=Q.JU (.inr (by omega));have T:Own (w.heap.size+2) _ _ _:=((Q.JW (a:=⟨w.heap.size+1,0,none⟩) E (.slice q j n)).JW (a:=⟨w.heap.size+1,1,none⟩) E (.int .i64 h)).JW (a:=⟨w.heap.size+1,2,none⟩) E (.slice f c d);have a5:=(((M.trans x).setCell (p:=⟨w.heap.size+1,0,none⟩) (Nat.le_succ _) (.slice q j n)).setCell (p:=⟨w.heap.size+1,1,none⟩) (Nat.le_succ _) (.int .i64 h)).setCell (p:=⟨w.heap.size+1,2,none⟩) (Nat.le_succ _) (.slice f c d);generalize(((t.setCell ⟨w.heap.size+1,0,none⟩ (.slice q j n)).setCell ⟨w.heap.size+1,1,none⟩ (.int .i64 h)).setCell ⟨w.heap.size+1,2,none⟩ (.slice f c d))=I at*;have c6:I.cell? ⟨w.heap.size+1,0,none⟩=some (.slice q j n):=ab F 0;have c7:I.cell? ⟨w.heap.size+1,1,none⟩=some (.int .i64 h):=ab F 1;have c8:I.cell? ⟨w.heap.size+1,2,none⟩=some (.slice f c d):=ab F 2;have b0:Own w.heap.size I (aC k .out (.slice f c d)) s:=⟨fun c2 b9=>(T.piece c2 b9).low (by omega),T.apart⟩;have Y:=R (And.intro b0 a5);have b2:=R D;clear T b0 a5 F c3 c4 c5 b4 b5 b6 y a4 N u x l a1 B W X a9 a8 a7 D P Q E Z;go_wp2;refine bodyPost_ret (v:=.agg #[.slice q j n,.int .i64 h,.slice f c d]) (by simp[results,results60,go_sem,c6,c7,c8]) rfl ?_;exact⟨aC k .out (.slice f c d),by rw[cj,aB k _ (by simp),U b2,b8],(U Y).1,(U Y).2⟩
theorem CI{p:List Fn}(a:aL p=0):iN p:=fun _ b=>(kT a b).1.len
theorem Cx{p:List Fn}(b:aL p=0):nk p:=fun d a c=>by have:=qG b c a;omega
