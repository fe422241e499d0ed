import Derived.Test.YtokhibfenccijaaGreatDoorQB13
set_option maxRecDepth 100000
set_option maxHeartbeats 8000000
namespace Go.Proofs.YtokhibfenccijaaGreatDoor
open Go.Proofs.Tryz
open Go.RowKit Go.Maps
def ed(t:TypeId):Prop:=t=38∨t=51∨t=5
def dL(e:Nat)(w:World)(v:Value)(s:St):Prop:=∀d,(∀(a:Nat)(c:Array Value)(b:TypeId),a≠e→¬ed b→w.heap[a]?=some (.cells c b)→d.heap[a]?=some (.cells c b))→cy d v s
theorem dL.at{b:Nat}{w:World}{v:Value}{s:St}(a:dL b w v s):cy w v s:=a w fun _ _ _ _ _ a=>a
theorem dL.x{a:Nat}{w w':World}{v:Value}{s:St}(e:dL a w v s)(k:aA a w w'):dL a w' v s:=fun i h2=>e i fun c d h b g f=>h2 c d h b g (k.JP b f)
theorem dL.Kq{d:Nat}{w w':World}{v:Value}{s:St}(g:dL d w v s)(k:∀(a:Nat)(c:Array Value)(b:TypeId),a≠d→¬ed b→w.heap[a]?=some (.cells c b)→w'.heap[a]?=some (.cells c b)):dL d w' v s:=fun i h2=>g i fun a c b e f h=>h2 a c b e f (k a c b e f h)
def bU(w:World)(a:Nat)(e:Value)(s:St):Prop:=∃c b d,w.heap[a]?=some (.cells #[e,c,.int .i64 b,d] 46)∧dL a w (.agg #[c,.int .i64 b,d]) s
theorem bU.kept{w w':World}{a:Nat}{b:Value}{s:St}(d:bU w a b s)(k:J w w'):bU w' a b s:=by obtain⟨f,c,g,e,h2⟩:=d;exact⟨f,c,g,aw k e,h2.x (.of k)⟩
theorem bU.Kq{w w':World}{d:Nat}{e:Value}{s:St}(f:bU w d e s)(k:∀(c:Nat)(a:Array Value)(b:TypeId),¬ed b→w.heap[c]?=some (.cells a b)→w'.heap[c]?=some (.cells a b)):bU w' d e s:=by obtain⟨j,a,l,g,h2⟩:=f;exact⟨j,a,l,k _ _ _ (by unfold ed;decide) g,h2.Kq fun c a b _ i h=>k c a b i h⟩
def gK(b:Nat)(e:Value)(f:FuncId)(args:Array Value)(u:World)(s:St)(l:List (List UInt8)):Prop:=Calls prog f args u fun d a=>∃c,d=.returned c∧cr u.heap.size a c l∧bU a b e s∧aA b u a
def sz(a:Nat)(d:Value)(f:FuncId)(args:Array Value)(u:World)(s:St)(z:Int):Prop:=Calls prog f args u fun c b=>c=la z∧bU b a d s∧aA a u b
def jn(l:List Int):Prop:=l.length≤1000∧∀a∈l,aI a
theorem zR(w:World)(a:Nat)(m:Value)(s:St)(h:bU w a m s)(c:jn s.out)(k:dv w):gK a m 102 #[.pointer (some ⟨a,0,none⟩)] w s (aP s.out):=by
 unfold gK;have n:=R h;obtain⟨q,p,t,i,h2⟩:=h;obtain⟨r,u,g,_,b⟩:=h2.at;obtain⟨rfl,rfl,rfl⟩:q=r∧p=s.now∧t=u:=by simpa using g
 obtain⟨z,v,rfl,_⟩:=id b;have d:=R (lC w _ s.out b c.1 c.2 k);have f:=ab i 3;simp only[List.getElem?_toArray,List.getElem?_cons_zero,List.getElem?_cons_succ]at f;generalize s.out.length=y at*;clear i h2 g b c k;go_enter func102,ntmps102;go_wp2_with fail;refine(U d).mono ?_;rintro _ A⟨x,rfl,j,l⟩;have o:=R j;have e:=R l;clear j l d f;go_wp2_with fail;go_ret;exact⟨_,rfl,U o,(U n).kept (U e),.of (U e)⟩
def nt(l:List Int)(d:Int)(u:World)(e:Ending)(w':World):Prop:=∃c b a,e=.returned (.tuple #[.slice c b a,.int .i64 d])∧bC w' (.slice c b a) l∧J u w'
theorem bU.cells{w:World}{a:Nat}{j:Value}{s:St}(l:bU w a j s):∃f h c b g i d,w.cell? ⟨a,0,none⟩=some j∧w.cell? ⟨a,1,none⟩=some (.slice f h c)∧w.cell? ⟨a,2,none⟩=some (.int .i64 b)∧w.cell? ⟨a,3,none⟩=some (.slice g i d)∧dL a w (.agg #[.slice f h c,.int .i64 b,.slice g i d]) s∧w.heap[a]?=some (.cells #[j,.slice f h c,.int .i64 b,.slice g i d] 46)∧h=s.I.length∧i=s.out.length:=by
 obtain⟨o,b,q,e,h2⟩:=l;obtain⟨p,r,k,m,n⟩:=h2.at;obtain⟨rfl,rfl,rfl⟩:o=p∧b=s.now∧q=r:=by simpa using k
 obtain⟨g,d,rfl,_⟩:=id n;obtain⟨f,c,rfl,_⟩:=id m;exact⟨f,_,c,s.now,g,_,d,ab e 0,ab e 1,ab e 2,ab e 3,h2,e,rfl,rfl⟩
theorem zQ(w:World)(f:Nat)(h:Value)(s:St)(l:List Int)(g:bU w f h s)(y:jn l)(A:dv w)(n:Hid (∀a e,J w a→cy a e s→Calls prog 139 #[h,e] a (nt l 0 a))):gK f h 103 #[.pointer (some ⟨f,0,none⟩)] w s (aP l):=by
 unfold gK;have F:=R g;obtain⟨D,X,Q,P,a0,Y,T,q,r,t,u,z,-,-,-⟩:=g.cells;have j:=R ((U n) w.drew _ ((J.refl w).drew) (z.x (.of ((J.refl w).drew))).at);have H:=R A;have p:=R y;clear z g A y n;go_enter func103,ntmps103;go_wp2_with fail;refine wp_region_held_drew (S:=fun K=>J w K) (by kernel_rfl) ((J.refl w).drew) (fun b=>?_);refine bQ [0,1,2,3,4,5,6,7] ?_;repeat
  refine bS (v:=?_) b (fun a c=>?_) ?_;rotate_left;·(have L:=c.cell q;have M:=c.cell r;have N:=c.cell t;have O:=c.cell u;(try dsimp only at L M N O);go_simp)<;>with_reducible rfl
  try simp only[PS]
 refine bO ?_;refine take_one (i:=8) rfl (by kernel_rfl) (fun I v=>?_);go_simp;refine(U j).mono ?_;rintro _ E⟨Z,W,a1,rfl,h2,B⟩;have d:J w E:=b.trans B;have k:=R d;have o:=R (lC E _ l h2 (U p).1 (U p).2 ((U H).kept d));clear h2 B j q r t u;refine v.out _ _ d (fun b=>?_);clear v I d;try simp only[PS]
 refine bQ [9,10,11,12,13] ?_;repeat
  refine bS (v:=?_) b (fun a c=>?_) ?_;rotate_left;·go_simp<;>with_reducible rfl
  try simp only[PS]
 refine bO ?_;refine wpAnyH_done (by kernel_rfl) ?_ _;clear b;go_wp2_with fail;refine(mM _).mono ?_;rintro _ _⟨rfl,rfl⟩;go_wp2_with fail;refine(U o).mono ?_;rintro _ a2⟨V,rfl,x,C⟩;have G:=R (x.low (U k).size);have m:=R ((U k).trans C);clear x C o;go_wp2_with fail;go_ret;exact⟨_,rfl,U G,(U F).kept (U m),.of (U m)⟩
theorem zN(w:World)(a:Nat)(d:Value)(s:St)(n:Int)(l:List Int)(b:bU w a d s)(k:jn l)(m:dv w)(g:Hid (Calls prog 57 #[d,.int .i64 n] w (nt l 0 w))):gK a d 108 #[.pointer (some ⟨a,0,none⟩),.int .i64 n] w s (aP l):=by unfold gK;have p:=R b;obtain⟨z,G,C,B,K,H,D,t,u,v,x,y,-,-,-⟩:=b.cells;have r:=R m;have i:=R k;clear y b m k;go_enter func108,ntmps108;go_wp2_with fail;refine(U g).mono ?_;rintro _ A⟨I,F,L,rfl,h2,c⟩;have e:=R c;have h:=R (lC A _ l h2 (U i).1 (U i).2 ((U r).kept c));clear h2 c g t u v x;go_wp2_with fail;refine(mM _).mono ?_;rintro _ _⟨rfl,rfl⟩;go_wp2_with fail;refine(U h).mono ?_;rintro _ M⟨E,rfl,j,o⟩;have q:=R (j.low (U e).size);have f:=R ((U e).trans o);clear j o h;go_wp2_with fail;go_ret;exact⟨_,rfl,U q,(U p).kept (U f),.of (U f)⟩
theorem zO(w:World)(b:Nat)(d:Value)(s:St)(n a:Int)(l:List Int)(c:bU w b d s)(o:a≠0)(f:Hid (Calls prog 57 #[d,.int .i64 n] w (nt l a w))):sz b d 108 #[.pointer (some ⟨b,0,none⟩),.int .i64 n] w s a:=by unfold sz;have h:=R c;obtain⟨q,x,t,r,A,y,u,i,j,k,m,p,-,-,-⟩:=c.cells;clear p c;go_enter func108,ntmps108;go_wp2_with fail;refine(U f).mono ?_;rintro _ C⟨z,v,B,rfl,h2,g⟩;have e:=R g;clear h2 g f i j k m;go_wp2_with fail;refine(Ef _ a o).mono ?_;rintro _ _⟨rfl,rfl⟩;dsimp only[la];refine⟨rfl,rfl,(U h).kept (U e),.of (U e)⟩
def eX(N:Nat)(w:World)(v:Value)(s:St):Prop:=∀d,(∀(a:Nat)(c:Array Value)(b:TypeId),N≤a→¬ed b→w.heap[a]?=some (.cells c b)→d.heap[a]?=some (.cells c b))→cy d v s
def hU(s:St)(i:List Value)(u:World)(e:Ending)(w':World):Prop:=∃g d b a h f c,e=.returned (.tuple (#[.agg #[.slice g d b,.int .i64 a,.slice h f c]]++i.toArray))∧eX u.heap.size w' (.agg #[.slice g d b,.int .i64 a,.slice h f c]) s∧J u w'
theorem eX.Kf{N b:Nat}{w w':World}{v:Value}{s:St}(e:eX N w v s)(l:b<N)(k:∀(a:Nat)(c:Obj),N≤a→w.heap[a]?=some c→w'.heap[a]?=some c):dL b w' v s:=fun j h2=>e j fun a d i f h g=>h2 a d i (by omega) h (k a _ f g)
theorem bU.put{w:World}{d:Nat}{g a b c:Value}(h:w.heap[d]?=some (.cells #[g,a,b,c] 46)){e vo:Value}{z:Int}{s:St}(i:dL d w (.agg #[e,.int .i64 z,vo]) s):bU (((w.setCell ⟨d,1,none⟩ e).setCell ⟨d,2,none⟩ (.int .i64 z)).setCell ⟨d,3,none⟩ vo) d g s∧aA d w (((w.setCell ⟨d,1,none⟩ e).setCell ⟨d,2,none⟩ (.int .i64 z)).setCell ⟨d,3,none⟩ vo):=by have f:aA d w (((w.setCell ⟨d,1,none⟩ e).setCell ⟨d,2,none⟩ (.int .i64 z)).setCell ⟨d,3,none⟩ vo):=(((aA.refl d w).setCell (.inl rfl) _).setCell (.inl rfl) _).setCell (.inl rfl) _;refine⟨⟨e,z,vo,?_,i.x f⟩,f⟩;have:=ay (ay (ay h 1 e) 2 (.int .i64 z)) 3 vo;simpa using this
theorem tv(w:World)(a:Nat)(q:Value)(s E:St)(d:bU w a q s)(u:Hid (∀p,J w p→Calls prog 29 #[q] p (hU E [.int .i64 0] p))):gK a q 15 #[.pointer (some ⟨a,0,none⟩)] w E [[111,107]]:=by
 unfold gK;have Y:=R d;obtain⟨O,a5,a0,Z,a7,a6,a1,G,H,I,K,M,n,-,-⟩:=d.cells;have F:=R n;have v:=R ((U u) w (J.refl w));have L:a<w.heap.size:=(Array.getElem?_eq_some_iff.1 n).1;clear M d n u;go_enter func15,ntmps15;go_wp2_with fail;refine(U v).mono ?_;rintro _ r⟨j,h,e,l,k,i,f,rfl,B,D⟩;have m:=R (B.Kf L (fun _ _ _ d=>d));have c:=R D;clear G H I K v B D;go_wp2_with fail;obtain⟨o,g⟩:=yw (J.refl r) #[.slice j h e,.int .i64 l,.slice k i f] 44;generalize r.alloc (.cells #[.slice j h e,.int .i64 l,.slice k i f] 44)=a8 at*;generalize r.heap.size=X at*;replace c:=R ((U c).trans o);replace m:=R ((U m).x (.of o));have b:=R (aw (U c) (U F));have T:=ab g 0;have V:=ab g 1;have W:=ab g 2;simp only[List.getElem?_toArray,List.getElem?_cons_zero,List.getElem?_cons_succ]at T V W;clear o g;refine(mM _).mono ?_;rintro _ t⟨rfl,rfl⟩;have P:=ab (U b) 1;have Q:=ab (U b) 2;have S:=ab (U b) 3;simp only[List.getElem?_toArray,List.getElem?_cons_zero,List.getElem?_cons_succ]at P Q S;have a2:=an (U b) 1;have a3:=an (U b) 2;have a4:=an (U b) 3;obtain⟨z,C⟩:=bU.put (U b) (U m);have y:=R (And.intro z C);clear z C;go_wp2_with fail;go_ret;have N:(((t.setCell ⟨a,1,none⟩ (.slice j h e)).setCell ⟨a,2,none⟩ (.int .i64 l)).setCell ⟨a,3,none⟩ (.slice k i f)).heap.size=t.heap.size:=by simp
 refine⟨_,rfl,?_,(U y).1.kept ((J.refl _).alloc _),((aA.of (U c)).trans (U y).2).alloc _⟩;have A:=cr.one (((t.setCell ⟨a,1,none⟩ (.slice j h e)).setCell ⟨a,2,none⟩ (.int .i64 l)).setCell ⟨a,3,none⟩ (.slice k i f)) [111,107];rw[N]at A;exact A.low (U c).size
theorem sc{P:Program}{f:Region.Mode}{d:Exit→Act→World→Prop}{S:World→Prop}{b q r:List Oper}{i k:Nat}{g h:Oper}{j:Nat}{e:Array Bool}{a:Act}{w:World}(n:b.drop i=g::q)(o:b.drop k=h::r)(p:Region.ready f b.toArray e=[i,k])(l:∀c:Act→World→Prop,Shut (∀a w,S w→(S w→wpAnyH P f b.toArray d S j (e.setIfInBounds i true) a w)→c a w)→if Region.wanted g (yielded b.toArray a.tmps)=true then Oper.wp P g a w c d else c (a.put g.dst undef) w)(m:∀c:Act→World→Prop,Shut (∀a w,S w→(S w→wpAnyH P f b.toArray d S j (e.setIfInBounds k true) a w)→c a w)→if Region.wanted h (yielded b.toArray a.tmps)=true then Oper.wp P h a w c d else c (a.put h.dst undef) w):wpAnyH P f b.toArray d S (j+1) e a w:=wpAnyH_ready p (by simp) (AllReadyH.cons (ib n) l (AllReadyH.cons (ib o) m AllReadyH.nil))
theorem vB(u:World)(B:Nat)(f:u.heap.size=B)(z:Int)(l:aI z)(k:dv u):Calls prog 58 #[.slice (some ⟨B,0,none⟩) 1 1] (u.alloc (.cells #[.int .i64 z] 3)) fun d c=>∃a,d=.returned (.slice (some ⟨a,0,none⟩) 1 1)∧cr u.heap.size c (.slice (some ⟨a,0,none⟩) 1 1) (aP [z])∧J u c:=by
 subst f;refine(lC (u.alloc (.cells #[.int .i64 z] 3)) (.slice (some ⟨u.heap.size,0,none⟩) 1 1) [z] ⟨_,_,rfl,by simp,fun m e b=>by
  have h:m=0:=by have:=(List.getElem?_eq_some_iff.1 b).1;simpa using this
  subst h;obtain rfl:z=e:=by simpa using b
  refine⟨_,_,rfl,?_⟩;have h2:(u.alloc (.cells #[.int .i64 z] 3)).heap[u.heap.size]?=some (.cells #[.int .i64 z] 3):=ah rfl;rw[ab h2];rfl⟩ (by simp) (fun e b=>by obtain rfl:=List.mem_singleton.1 b;exact l) (k.kept ((J.refl u).alloc _))).mono ?_;rintro d c⟨a,g,j,i⟩;exact⟨a,g,j.low (by simp),((J.refl u).alloc _).trans i⟩
abbrev dP(w:World)(B:Nat)(a b c:Value):World:=((w.setCell ⟨B,0,none⟩ a).setCell ⟨B,1,none⟩ b).setCell ⟨B,2,none⟩ c
theorem nD(w:World)(B:Nat)(a b c:Value){g:Nat}(d:g≠B):(dP w B a b c).heap[g]?=w.heap[g]?:=by unfold dP;rw[Below.heap_setCell _ _ _ _ (by simpa using d),Below.heap_setCell _ _ _ _ (by simpa using d),Below.heap_setCell _ _ _ _ (by simpa using d)]
theorem iS{e w:World}{B:Nat}(f:J e w)(d:e.heap.size≤B)(a b c:Value):J e (dP w B a b c):=((f.setCell (p:=⟨B,0,none⟩) d a).setCell (p:=⟨B,1,none⟩) d b).setCell (p:=⟨B,2,none⟩) d c
theorem zS(w:World)(b:Nat)(T:Value)(s K:St)(n:Int)(k:Nat)(p:Int)(b1:bU w b T s)(e3:aI (k:Int))(e2:aI p)(e8:∀t,aA b w t→dv t)(a8:Hid (∀t y,J w t→cy t y s→Calls prog 30 #[T,y,.int .i64 n] t (hU K [.int .i64 (k:Int),.int .i64 p] t))):Calls prog 107 #[.pointer (some ⟨b,0,none⟩),.int .i64 n] w fun c8 V=>(p=3→c8=la 3∧bU V b T s∧aA b w V)∧(p≠3→∃y,c8=.returned y∧cr w.heap.size V y (aP [(k:Int)]++if p=0 then[]else br p)∧bU V b T K∧aA b w V):=by
 have g2:=R b1;obtain⟨Q,j9,i7,i5,k1,k0,i8,c4,c5,c6,c7,e7,b6,-,-⟩:=b1.cells;have b9:=R b6;have c9:b<w.heap.size:=(Array.getElem?_eq_some_iff.1 b6).1;have a9:=R e7;have g7:=R e8;have g6:=R e3;have g4:=R e2;clear e7 b1 b6 e3 e2 e8;go_enter func107,ntmps107;go_wp2_with fail;go_cut[5,6,7](fun h7 h8 h9 wx=>∃(r:Nat)(g:Option Addr)(f c:Nat)(j:Int)(h:Option Addr)(e d:Nat),h7=.pointer (some ⟨r,0,none⟩)∧h8=.int .i64 (k:Int)∧h9=.int .i64 p∧Hid (wx.heap[r]?=some (.cells #[.slice g f c,.int .i64 j,.slice h e d] 44)∧dL b wx (.agg #[.slice g f c,.int .i64 j,.slice h e d]) K∧J w wx));case first=>
  refine wp_region_held_drew (S:=fun i2=>J w i2) (by kernel_rfl) ((J.refl w).drew) (fun l=>?_);refine bQ [0,1,2,3,4,5,6,7,8] ?_;repeat
   refine bS (v:=?_) l (fun t A=>?_) ?_;rotate_left;·(have a5:=A.cell c4;have a6:=A.cell c5;have a7:=A.cell c6;have i3:=A.cell c7;(try dsimp only at a5 a6 a7 i3);go_simp)<;>with_reducible rfl
   try simp only[PS]
  refine bO ?_;clear c4 c5 c6 c7;refine sc (i:=9) (k:=14) rfl rfl (by kernel_rfl) (fun u m=>?_) (fun u m=>?_)
  ·skip;go_simp;refine((U a8) _ _ ((J.refl w).drew) ((U a9).x (.of ((J.refl w).drew))).at).mono ?_;rintro _ q⟨g,f,c,j,h,e,d,rfl,b3,a0⟩;have I:J w q:=l.trans a0;refine m.out _ _ I (fun l=>?_);clear m u;try simp only[PS]
   refine bQ [10,11,12,13] ?_;repeat
    refine bS (v:=?_) l (fun t A=>?_) ?_;rotate_left;·go_simp<;>with_reducible rfl
    try simp only[PS]
   refine bO ?_;refine take_one (i:=14) rfl (by kernel_rfl) (fun u m=>?_);go_simp;refine m.out _ _ (l.alloc _) (fun l=>?_);clear m u;try simp only[PS]
   have o:(q.alloc (.cells #[.slice none 0 0,.int .i64 0,.slice none 0 0] 44)).heap[q.heap.size]?=some (.cells #[.slice none 0 0,.int .i64 0,.slice none 0 0] 44):=ah rfl;have v:dL b (dP (q.alloc (.cells #[.slice none 0 0,.int .i64 0,.slice none 0 0] 44)) q.heap.size (.slice g f c) (.int .i64 j) (.slice h e d)) (.agg #[.slice g f c,.int .i64 j,.slice h e d]) K:=b3.Kf c9 (fun g9 h6 h4 a1=>by have j7:=(Array.getElem?_eq_some_iff.1 a1).1;rw[nD _ _ _ _ _ (by omega)];exact au a1 _);have F:J w (dP (q.alloc (.cells #[.slice none 0 0,.int .i64 0,.slice none 0 0] 44)) q.heap.size (.slice g f c) (.int .i64 j) (.slice h e d)):=iS (I.alloc _) I.size _ _ _;generalize q.alloc (.cells #[.slice none 0 0,.int .i64 0,.slice none 0 0] 44)=k4 at o v F l⊢;generalize q.heap.size=r at o v F⊢;have W:=ab o 0;have B:=ab o 1;have C:=ab o 2;simp only[List.getElem?_toArray,List.getElem?_cons_zero,List.getElem?_cons_succ]at W B C;have b0:=an o 0;have L:=an o 1;have M:=an o 2;have P:=ay (ay (ay o 0 (.slice g f c)) 1 (.int .i64 j)) 2 (.slice h e d);have z:=R (And.intro P (And.intro v F));clear P F v;refine take_one (i:=15) rfl (by kernel_rfl) (fun u m=>?_);go_simp;refine m.out _ _ (U z).2.2 (fun l=>?_);clear m u W B C b0 L M;try simp only[PS]
   refine bQ [16,17] ?_;repeat
    refine bS (v:=?_) l (fun t A=>?_) ?_;rotate_left;·go_simp<;>with_reducible rfl
    try simp only[PS]
   refine bO ?_;refine wpAnyH_done (by kernel_rfl) ?_ _;clear l;go_wp2_with fail;go_meet;exact⟨r,g,f,c,j,h,e,d,rfl,rfl,rfl,z⟩
  ·skip;go_simp;refine m.out _ _ (((J.refl w).alloc _).drew) (fun l=>?_);clear m u;try simp only[PS]
   have Z:(w.alloc (.cells #[.slice none 0 0,.int .i64 0,.slice none 0 0] 44)).drew.heap[w.heap.size]?=some (.cells #[.slice none 0 0,.int .i64 0,.slice none 0 0] 44):=(show(w.alloc (.cells #[.slice none 0 0,.int .i64 0,.slice none 0 0] 44)).heap[w.heap.size]?=_ from ah rfl);have N:J w (w.alloc (.cells #[.slice none 0 0,.int .i64 0,.slice none 0 0] 44)).drew:=((J.refl w).alloc _).drew;generalize(w.alloc (.cells #[.slice none 0 0,.int .i64 0,.slice none 0 0] 44)).drew=i4 at Z N l⊢;generalize h2:w.heap.size=r at Z⊢;have h1:w.heap.size≤r:=by omega
   have j5:r≠b:=by omega
   clear h2;refine take_one (i:=9) rfl (by kernel_rfl) (fun u m=>?_);go_simp;refine((U a8) _ _ N ((U a9).x (.of N)).at).mono ?_;rintro _ q⟨g,f,c,j,h,e,d,rfl,b3,a0⟩;have I:J w q:=N.trans a0;refine m.out _ _ I (fun l=>?_);clear m u;try simp only[PS]
   refine bQ [10,11,12,13] ?_;repeat
    refine bS (v:=?_) l (fun t A=>?_) ?_;rotate_left;·go_simp<;>with_reducible rfl
    try simp only[PS]
   refine bO ?_;have o:=aw a0 Z;have j6:r<i4.heap.size:=(Array.getElem?_eq_some_iff.1 Z).1;have v:dL b (dP q r (.slice g f c) (.int .i64 j) (.slice h e d)) (.agg #[.slice g f c,.int .i64 j,.slice h e d]) K:=b3.Kf (Nat.lt_of_lt_of_le c9 N.size) (fun g9 h6 h4 a1=>by rw[nD _ _ _ _ _ (by omega)];exact a1);have F:J w (dP q r (.slice g f c) (.int .i64 j) (.slice h e d)):=iS I h1 _ _ _;have W:=ab o 0;have B:=ab o 1;have C:=ab o 2;simp only[List.getElem?_toArray,List.getElem?_cons_zero,List.getElem?_cons_succ]at W B C;have b0:=an o 0;have L:=an o 1;have M:=an o 2;have P:=ay (ay (ay o 0 (.slice g f c)) 1 (.int .i64 j)) 2 (.slice h e d);have z:=R (And.intro P (And.intro v F));clear P F v;refine take_one (i:=15) rfl (by kernel_rfl) (fun u m=>?_);go_simp;refine m.out _ _ (U z).2.2 (fun l=>?_);clear m u W B C b0 L M;try simp only[PS]
   refine bQ [16,17] ?_;repeat
    refine bS (v:=?_) l (fun t A=>?_) ?_;rotate_left;·go_simp<;>with_reducible rfl
    try simp only[PS]
   refine bO ?_;refine wpAnyH_done (by kernel_rfl) ?_ _;clear l;go_wp2_with fail;go_meet;exact⟨r,g,f,c,j,h,e,d,rfl,rfl,rfl,z⟩
 case rest=>
  obtain⟨r,g,f,c,j,h,e,d,rfl,rfl,rfl,z⟩:=hcut;clear a8 a9;obtain⟨X,v,b5⟩:=U z;have g5:=R v;have D:=R b5;have E:=R (aw b5 (U b9));have a5:=ab X 0;have a6:=ab X 1;have a7:=ab X 2;simp only[List.getElem?_toArray,List.getElem?_cons_zero,List.getElem?_cons_succ]at a5 a6 a7;clear X v b5 z b9;by_cases h3:p=3;·subst h3;go_wp2_with fail;exact⟨rfl,rfl,(U g2).kept (U D),.of (U D)⟩
  ·have j4:(p==3)=false:=by simpa using h3
   have B:=ab (U E) 1;have C:=ab (U E) 2;have g1:=ab (U E) 3;simp only[List.getElem?_toArray,List.getElem?_cons_zero,List.getElem?_cons_succ]at B C g1;have L:=an (U E) 1;have M:=an (U E) 2;have h0:=an (U E) 3;obtain⟨e1,e9⟩:=bU.put (U E) (U g5);have H:=R (And.intro e1 e9);clear e1 e9;go_wp2_with fail;have a2:(((wc.setCell ⟨b,1,none⟩ (.slice g f c)).setCell ⟨b,2,none⟩ (.int .i64 j)).setCell ⟨b,3,none⟩ (.slice h e d)).heap.size=wc.heap.size:=by simp
   have Y:dv (((wc.setCell ⟨b,1,none⟩ (.slice g f c)).setCell ⟨b,2,none⟩ (.int .i64 j)).setCell ⟨b,3,none⟩ (.slice h e d)):=(U g7) _ ((aA.of (U D)).trans (U H).2);generalize(((wc.setCell ⟨b,1,none⟩ (.slice g f c)).setCell ⟨b,2,none⟩ (.int .i64 j)).setCell ⟨b,3,none⟩ (.slice h e d))=b7 at H a2 Y⊢;have c0:=R (vB b7 wc.heap.size a2 (k:Int) (U g6) Y);have g8:=R Y;have c3:=R a2;clear B C g1 L M h0 Y a2 a5 a6 a7;refine(U c0).mono ?_;rintro _ i1⟨i9,rfl,e4,g0⟩;have c1:=R e4;have G:=R g0;clear e4 g0 c0;by_cases b2:p=0;·subst b2;go_wp2_with fail;go_ret;refine⟨_,rfl,?_,(U H).1.kept (U G),((aA.of (U D)).trans (U H).2).trans (.of (U G))⟩;have:=(U c1).low (a:=w.heap.size) (by rw[U c3];exact(U D).size);simpa using this
   ·have j2:(p==0)=false:=by simpa using b2
    have j3:(p !=0)=true:=by rw[bne_iff_ne];exact b2
    have b8:=R (tO i1 p (U g4) ((U g8).kept (U G)));go_wp2_with fail;refine(U b8).mono ?_;rintro _ k3⟨j0,k2,rfl,e5,a3⟩;obtain⟨i0,a4,e6,O,e0⟩:=cr.app ((U c1).kept a3) (e5.low (U G).size) (Nat.le_trans (U G).size a3.size) (by simp[aP]) (by simp[br]);have O:=O (by simp[aP,br]);have b4:J b7 a4:=Below.trans ((U G).trans a3) e0;have h5:w.heap.size≤b7.heap.size:=by rw[U c3];exact(U D).size
    have g3:Hid (cr w.heap.size a4 i0 (aP [(k:Int)]++br p)∧bU a4 b T K∧aA b w a4):=R ⟨O.low h5,(U H).1.kept b4,((aA.of (U D)).trans (U H).2).trans (.of b4)⟩;have c2:=R e6;obtain⟨_,j1,i6,rfl⟩:=id O;clear e6 O e0 b4 a3 e5 b8;generalize(aP [(k:Int)]++br p).length=j8 at*;go_wp2_with(at_builtin;refine U ?_);refine R ?_;refine ir _ rfl _ _ 38 rfl rfl rfl (U c2) ?_;clear c2;go_wp2_with fail;go_ret;exact⟨_,rfl,U g3⟩
theorem Fx{q:List Fn}{k:Nat}{f:Fn}(a:q[k]?=some f):dC (q.take (k+1))=dC (q.take k)+(f.code.length:Int):=by unfold dC;rw[List.take_add_one,a,List.map_append,List.sum_append];simp
theorem rv(q:List Fn)(m:Nat)(b:∀a∈q,a.code.length≤m):0≤dC q∧dC q≤(q.length*m:Nat):=by
 induction q with
 |nil=>simp[dC]
 |cons a q g=>
  have h:=g (fun e f=>b e (by simp[f]));have h2:=b a (by simp);have c:dC (a::q)=(a.code.length:Int)+dC q:=by simp[dC]
  have d:(a::q).length*m=q.length*m+m:=by simp[Nat.succ_mul]
  rw[c,d];omega
theorem zT(w:World)(g:Nat)(n:Value)(s:St)(q:List Fn)(j:bU w g n s)(E:q.length≤100∧∀b∈q,b.code.length≤1000)(G:dv w)(p:Hid (∀m,J w m→Calls prog 141 #[n] m fun a3 L=>∃K c y,a3=.returned (.tuple #[.slice K c y,.int .i64 0])∧aK L (.slice K c y) q∧J m L)):gK g n 105 #[.pointer (some ⟨g,0,none⟩)] w s (aP [dC q]):=by
 unfold gK;have P:=R j;obtain⟨b4,e0,b9,b8,e3,e1,c0,Y,Z,a0,a1,b0,a9,-,-⟩:=j.cells;have r:=R ((U p) w (J.refl w));have X:=R G;have h:=R E;clear b0 j a9 G E p;go_enter func105,ntmps105;go_wp2_with fail;refine(U r).mono ?_;rintro _ e4⟨b2,b1,b5,rfl,h2,H⟩;obtain⟨_,_,z,c9,D⟩:=id h2;obtain⟨rfl,rfl,rfl⟩:b2=_∧b1=q.length∧b5=_:=by simpa using z
 have Q:=R D;have S:=R H;clear Y Z a0 a1 r h2 D z H;generalize A:q.length=c at*;have v:=R A;clear A;go_wp2_with fail;refine(mM _).mono ?_;rintro _ f⟨rfl,rfl⟩;go_wp2_with fail;have o:Hid (J f f):=R (J.refl _);go_loopw[5,20](fun b6 l wr=>∃a:Nat,a≤c∧l=.int .i64 (a:Int)∧b6=.int .i64 (dC (q.take a))∧Hid (J f wr))(fun _ l _=>c-(intOf l).toNat);case atStart=>exact⟨0,Nat.zero_le _,rfl,rfl,o⟩
 case round=>
  obtain⟨a,c8,rfl,rfl,e⟩:=hrel;clear o;have C:=rv (q.take a) 1000 (fun b d=>(U h).2 b (List.mem_of_mem_take d));have a6:(q.take a).length*1000≤100*1000:=Nat.mul_le_mul_right _ (by have:=(U h).1;simp;omega);have a4:0≤dC (q.take a):=C.1;have a5:dC (q.take a)≤100000:=by omega
  clear C a6;by_cases a8:a<c
  ·obtain⟨b,d⟩:∃b,q[a]?=some b:=⟨_,List.getElem?_eq_getElem (by rw[U v];exact a8)⟩;obtain⟨b7,e2,c1,rfl,M,N,O,a7⟩:=(U Q) a b d;have c3:=(U h).2 b (List.mem_of_getElem? d);obtain⟨b3,a2,rfl,_⟩:=a7;replace M:=(U e).cell M;replace N:=(U e).cell N;replace O:=(U e).cell O;have c6:(0:Int)≤(a:Int):=by omega
   have c7:(a:Int)<(c:Int):=by omega
   have V:=R (Fx d);generalize b.code.length=i at*;have c4:(i:Int)≤1000:=by omega
   have c5:(0:Int)≤(i:Int):=by omega
   generalize dC (q.take a)=e6 at*;clear d;have T:Hid (J f (wr.alloc (.cells #[.int .i64 b.args,.int .i64 b.locals,.slice b3 i a2] 69))):=R ((U e).alloc _);go_wp2_with fail;go_roundw;case rel=>exact⟨a+1,by omega,by go_num,by rw[U V],T⟩
   case measure=>simp[intOf];omega
  ·obtain rfl:a=c:=by omega
   have B:q.take a=q:=List.take_of_length_le (by rw[U v];exact Nat.le_refl _);rw[B]at a4 a5⊢;have k:=(U S).trans (U e);have x:=R (vB wr wr.heap.size rfl (dC q) (by unfold aI;omega) ((U X).kept k));have u:=R k;clear k B;go_wp2_with fail;refine(U x).mono ?_;rintro _ e5⟨c2,rfl,F,I⟩;have W:=R (F.low (U u).size);have t:=R ((U u).trans I);clear F I x;go_wp2_with fail;go_ret;exact⟨_,rfl,U W,(U P).kept (U t),.of (U t)⟩
theorem zP(w:World)(A:Nat)(K:Value)(s:St)(e:Nat→Int)(D:bU w A K s)(e5:s.I.length≤1000)(h:∀a,aI (e a))(Y:dv w)(a5:Hid (∀i z a,J w i→cy i z s→a<s.I.length→Calls prog 140 #[K,z,.int .i64 (a:Nat)] i fun b3 b8=>b3=.returned (.tuple #[.int .i64 (e a),.int .i64 0])∧J i b8)):gK A K 104 #[.pointer (some ⟨A,0,none⟩)] w s (aP ((List.range s.I.length).map e)):=by
 unfold gK;have a2:=R D;obtain⟨a0,e6,c8,c7,e8,e7,c9,r,t,u,v,X,b5,b7,-⟩:=D.cells;have b6:=fun i=>vi s.I.length (by omega) i;subst b7;have a9:=R X;have b0:=R Y;have b1:=R h;clear X D b5 Y h;generalize Q:s.I.length=f at*;have c6:=R Q;clear Q;go_enter func104,ntmps104;go_wp2_with fail;have L:Hid (J w (w.alloc (.cells (Array.replicate f (Value.int .i64 0)) 3))∧∃c,(w.alloc (.cells (Array.replicate f (Value.int .i64 0)) 3)).heap[w.heap.size]?=some (.cells c 3)∧c.size=f∧∀b,b<0→c[b]?=some (.int .i64 (e b))):=R ⟨(J.refl w).alloc _,_,ah rfl,by simp,fun b b4=>by omega⟩;generalize O:w.heap.size=g at*;have a3:=R O;clear b6 O;go_loopw[16](fun I wr=>∃a:Nat,a≤f∧I=.int .i64 (a:Int)∧Hid (J w wr∧∃c,wr.heap[g]?=some (.cells c 3)∧c.size=f∧∀b,b<a→c[b]?=some (.int .i64 (e b))))(fun I _=>f-(intOf I).toNat);case atStart=>exact⟨0,Nat.zero_le _,rfl,L⟩
 case round=>
  obtain⟨a,e4,rfl,q⟩:=hrel;clear L;by_cases F:a<f
  ·have e2:(0:Int)≤(a:Int):=by omega
   have e3:(a:Int)<(f:Int):=by omega
   obtain⟨d,c,m,y,l⟩:=U q;replace r:=d.cell r;replace t:=d.cell t;replace u:=d.cell u;replace v:=d.cell v;have n:=R (And.intro y l);have M:=R ((U a5) wr.drew _ a (d.drew) ((U a9).x (.of (d.drew))).at F);have a8:Hid (J w wr.drew∧wr.drew.heap[g]?=some (.cells c 3)):=R ⟨d.drew,m⟩;have o:=R d;clear d m y l q;go_wp2_with fail;refine wp_region_held_drew (S:=fun c0=>J wr c0) (by kernel_rfl) ((J.refl wr).drew) (fun j=>?_);refine bQ [0,1,2,3,4,5,6,7,8] ?_;repeat
    refine bS (v:=?_) j (fun i k=>?_) ?_;rotate_left;·(have c1:=k.cell r;have c2:=k.cell t;have c3:=k.cell u;have c4:=k.cell v;(try dsimp only at c1 c2 c3 c4);go_simp)<;>with_reducible rfl
    try simp only[PS]
   refine bO ?_;refine take_one (i:=9) rfl (by kernel_rfl) (fun b2 P=>?_);go_simp;refine(U M).mono ?_;rintro _ b9⟨rfl,H⟩;have E:J wr b9:=j.trans H;have a4:=R E;have B:=R (aw H (U a8).2);clear H M r t u v;refine P.out _ _ E (fun j=>?_);clear P b2 E;try simp only[PS]
   refine bQ [10,11,12,13,14] ?_;repeat
    refine bS (v:=?_) j (fun i k=>?_) ?_;rotate_left;·go_simp<;>with_reducible rfl
    try simp only[PS]
   refine bO ?_;refine wpAnyH_done (by kernel_rfl) ?_ _;clear j;go_wp2_with fail;refine(mM _).mono ?_;rintro _ a1⟨rfl,rfl⟩;have g0:=(ab (U B) a).trans (Array.getElem?_eq_getElem (by rw[(U n).1];exact F));have e0:=an (U B) a;have a6:Hid (J w (a1.setCell ⟨g,a,none⟩ (.int .i64 (e a)))∧∃c,(a1.setCell ⟨g,a,none⟩ (.int .i64 (e a))).heap[g]?=some (.cells c 3)∧c.size=f∧∀b,b<a+1→c[b]?=some (.int .i64 (e b))):=R (by
    refine⟨((U o).trans (U a4)).setCell (p:=⟨g,a,none⟩) (by rw[U a3];exact Nat.le_refl _) _,_,ay (U B) a _,by simpa using(U n).1,fun b b4=>?_⟩;rw[Array.getElem?_setIfInBounds];by_cases V:a=b;·subst V;simp[(U n).1,F]
    ·rw[if_neg V];exact(U n).2 b (by omega));go_wp2_with fail;go_roundw;case rel=>exact⟨a+1,by omega,by go_num,a6⟩
   case measure=>simp[intOf];omega
  ·obtain rfl:a=f:=by omega
   obtain⟨d,c,m,y,l⟩:=U q;have C:=R (lC wr (.slice (some ⟨g,0,none⟩) a a) ((List.range a).map e) ⟨some ⟨g,0,none⟩,a,by simp,by simp;omega,fun G c5 h=>by
    have T:G<a:=by have:=(List.getElem?_eq_some_iff.1 h).1;simpa using this
    refine⟨g,0,rfl,?_⟩;rw[ab m,Nat.zero_add,l G T];simp[List.getElem?_map,List.getElem?_range T]at h;rw[h]⟩ (by simp;omega) (fun c5 h=>by obtain⟨b,_,rfl⟩:=List.mem_map.1 h;exact(U b1) b) ((U b0).kept d));have o:=R d;clear d m y l q;rw[show((List.range a).map e).length=a by simp]at C;go_wp2_with fail;refine(U C).mono ?_;rintro _ e9⟨e1,rfl,W,Z⟩;have a7:=R (W.low (U o).size);have N:=R ((U o).trans Z);clear W Z C;go_wp2_with fail;go_ret;exact⟨_,rfl,U a7,(U a2).kept (U N),.of (U N)⟩
theorem lU(w:World):(zeroValue 47).run prog w=.ok .nilFunc w:=by kernel_rfl
theorem pA(w:World):(zeroValue 123).run prog w=.ok .nilFunc w:=by kernel_rfl
theorem fZ(a:List UInt8):WideAt.IsKeyLit (Lit.string a):=trivial
theorem fY{a b:List UInt8}(d:a≠b):Lit.string a≠Lit.string b:=fun c=>d (by simpa using c)
theorem fX:IsMap (DataW.map []:DataW Value):=tidy_empty.isMap
theorem iI{t e:TypeId}(j:prog.underlying t=some (.map 9 e)){w:World}(l:(zeroValue e).run prog w=.ok .nilFunc w){b n:Nat}{f:DataW Value}(h:w.ownsMap prog 9 fx b n f)(a:List UInt8)(o:a.length≤100000){v:Value}{d:Bool}(k:f.atKey (.string a) (.held .nilFunc)=.held v)(i:has f (.string a)=d):(Instr.lookup t (.map (some b)) (.string ⟨a.toArray⟩) true).run prog w=.ok (.tuple #[v,.bool d]) w:=by
 obtain⟨m,p,g,c⟩:=h.look_ok (key:=.string ⟨a.toArray⟩) (kl:=.string a) uU j l (zd:=.held .nilFunc) (zp:=[]) rfl (by have:=Go.WideMaps.keyOf_string_mk underlying9 (s:=⟨a.toArray⟩) (by simp[ByteArray.size,maxLen];omega);simpa using this);unfold fx at c;simp only[Option.some.injEq,Prod.mk.injEq]at c;rw[k]at c;obtain rfl:m=v:=by simpa using c.1
 rw[i]at g;exact g
theorem yb(b:Nat)(a:List UInt8):((dT b).atKey (.string a) (.held .nilFunc)=.held (if a=[111,117,116]then bP 102 b else if a=[108,105,110,101]then bP 103 b else if a=[107,105,110,100,115]then bP 104 b else if a=[116,114,105,109]then bP 105 b else if a=[97,103,97,105,110]then bP 15 b else .nilFunc))∧has (dT b) (.string a)=decide (a=[111,117,116]∨a=[108,105,110,101]∨a=[107,105,110,100,115]∨a=[116,114,105,109]∨a=[97,103,97,105,110]):=by
 unfold dT;by_cases e:a=[97,103,97,105,110];·subst e;exact⟨by rw[atKey_put_same ((((fX.put _ _).put _ _).put _ _).put _ _) (fZ _)];rfl,by rw[has_put_same ((((fX.put _ _).put _ _).put _ _).put _ _) (fZ _)];rfl⟩
 ·rw[atKey_put_other (fY e),has_put_other (fY e)];by_cases d:a=[116,114,105,109];·subst d;exact⟨by rw[atKey_put_same (((fX.put _ _).put _ _).put _ _) (fZ _)];rfl,by rw[has_put_same (((fX.put _ _).put _ _).put _ _) (fZ _)];rfl⟩
  ·rw[atKey_put_other (fY d),has_put_other (fY d)];by_cases h3:a=[107,105,110,100,115];·subst h3;exact⟨by rw[atKey_put_same ((fX.put _ _).put _ _) (fZ _)];rfl,by rw[has_put_same ((fX.put _ _).put _ _) (fZ _)];rfl⟩
   ·rw[atKey_put_other (fY h3),has_put_other (fY h3)];by_cases h2:a=[108,105,110,101];·subst h2;exact⟨by rw[atKey_put_same (fX.put _ _) (fZ _)];rfl,by rw[has_put_same (fX.put _ _) (fZ _)];rfl⟩
    ·rw[atKey_put_other (fY h2),has_put_other (fY h2)];by_cases c:a=[111,117,116];·subst c;exact⟨by rw[atKey_put_same fX (fZ _)];rfl,by rw[has_put_same fX (fZ _)];rfl⟩
     ·rw[atKey_put_other (fY c),has_put_other (fY c),if_neg c,if_neg h2,if_neg h3,if_neg d,if_neg e];refine⟨rfl,?_⟩;simp[c,h2,h3,d,e,Maps.has]
theorem JC(c:Nat)(a:List UInt8):((fB c).atKey (.string a) (.held .nilFunc)=.held (if a=[115,116,101,112]then bP 107 c else if a=[104,101,105,103,104,116,115]then bP 108 c else .nilFunc))∧has (fB c) (.string a)=decide (a=[115,116,101,112]∨a=[104,101,105,103,104,116,115]):=by
 unfold fB;by_cases h2:a=[104,101,105,103,104,116,115];·subst h2;exact⟨by rw[atKey_put_same (fX.put _ _) (fZ _)];rfl,by rw[has_put_same (fX.put _ _) (fZ _)];rfl⟩
 ·rw[atKey_put_other (fY h2),has_put_other (fY h2)];by_cases b:a=[115,116,101,112];·subst b;exact⟨by rw[atKey_put_same fX (fZ _)];rfl,by rw[has_put_same fX (fZ _)];rfl⟩
  ·rw[atKey_put_other (fY b),has_put_other (fY b),if_neg b,if_neg h2];refine⟨rfl,?_⟩;simp[b,h2,Maps.has]
def cT(a:Nat)(c:Value)(s:St)(f:(St×List (List UInt8))⊕Int)(u:World)(e:Ending)(w':World):Prop:=match f with|.inl d=>∃b,e=.returned b∧cr u.heap.size w' b d.2∧bU w' a c d.1∧aA a u w'|.inr g=>e=la g∧bU w' a c s∧aA a u w'
theorem cT.from{d:Nat}{g:Value}{s:St}{c:(St×List (List UInt8))⊕Int}{u u2 w':World}{e:Ending}(f:cT d g s c u2 e w')(k:J u u2):cT d g s c u e w':=by
 cases c with
 |inl i=>obtain⟨h,a,h2,h3,b⟩:=f;exact⟨h,a,h2.low k.size,h3,(aA.of k).trans b⟩
 |inr j=>obtain⟨a,h3,b⟩:=f;exact⟨a,h3,(aA.of k).trans b⟩
structure iQ(w:World)(b:Nat)(c:Value)(s:St)(d:dt):Prop where
 out:∀a,J w a→Calls prog 102 #[.pointer (some ⟨b,0,none⟩)] a (cT b c s (.inl (s,aP s.out)) a)
 line:∀a,J w a→Calls prog 103 #[.pointer (some ⟨b,0,none⟩)] a (cT b c s (.inl (s,aP (d.line s))) a)
 kinds:∀a,J w a→Calls prog 104 #[.pointer (some ⟨b,0,none⟩)] a (cT b c s (.inl (s,aP ((List.range s.I.length).map fun f=>d.kind s f))) a)
 trim:∀a,J w a→Calls prog 105 #[.pointer (some ⟨b,0,none⟩)] a (cT b c s (.inl (s,aP [dC d.trim])) a)
 again:∀a,J w a→Calls prog 15 #[.pointer (some ⟨b,0,none⟩)] a (cT b c s (.inl (d.JS,[[111,107]])) a)
 step:∀a e,J w a→Calls prog 107 #[.pointer (some ⟨b,0,none⟩),.int .i64 e] a (cT b c s (eV d s [115,116,101,112] e) a)
 Kg:∀a e,J w a→Calls prog 108 #[.pointer (some ⟨b,0,none⟩),.int .i64 e] a (cT b c s (eV d s [104,101,105,103,104,116,115] e) a)
 dk:bU w b c s
 Kc:dv w
 Kp:jM w
theorem zJ(w:World)(d:Nat)(D:Value)(s:St)(n:(St×List (List UInt8))⊕Int)(b o cap:Nat)(a:List UInt8)(v:w.cell? ⟨b,o,none⟩=some (.string ⟨a.toArray⟩))(u:a.length≤100000)(A:(dT d).atKey (.string a) (.held .nilFunc)=.held (bP 102 d))(z:has (dT d) (.string a)=true)(q:Hid (∀c,J w c→Calls prog 102 #[.pointer (some ⟨d,0,none⟩)] c (cT d D s n c))):Calls prog 42 #[.pointer (some ⟨d,0,none⟩),.slice (some ⟨b,o,none⟩) 1 cap] w (cT d D s n w):=by
 have p:=R (kU w.drew d);have r:Hid (∀(c:World)(l:Nat),c.ownsMap prog 9 fx l 5 (dT d)→(Instr.lookup 119 (.map (some l)) (.string ⟨a.toArray⟩) true).run prog c=.ok (.tuple #[bP 102 d,.bool true]) c):=R fun c l G=>iI underlying119 (lU c) G a u A z;generalize(ByteArray.mk a.toArray)=K at*;clear u A z;go_enter func42,ntmps42;go_wp2_with fail;refine wp_region_held_drew (S:=fun H=>J w H) (by kernel_rfl) ((J.refl w).drew) (fun e=>?_);refine bQ [0,2,3,4] ?_;repeat
  refine bS (v:=?_) e (fun c t=>?_) ?_;rotate_left;·(have I:=t.cell v;(try dsimp only at I);go_simp)<;>with_reducible rfl
  try simp only[PS]
 refine bO ?_;refine take_one (i:=1) rfl (by kernel_rfl) (fun k f=>?_);go_simp;refine(U p).mono ?_;rintro _ E⟨rfl,y,B⟩;have m:J w E:=e.trans B;have j:=R m;have x:=(U r) E w.heap.size y;dsimp only[bP]at x;clear B p v r y;refine f.out _ _ m (fun e=>?_);clear f k m;try simp only[PS]
 refine take_one (i:=5) rfl (by kernel_rfl) (fun k f=>?_);go_simp;refine f.out _ _ e (fun e=>?_);clear f k x;try simp only[PS]
 refine bQ [6,7,8,9,10] ?_;repeat
  refine bS (v:=?_) e (fun c t=>?_) ?_;rotate_left;·go_simp<;>with_reducible rfl
  try simp only[PS]
 refine bO ?_;refine wpAnyH_done (by kernel_rfl) ?_ _;clear e;go_wp2_with fail;refine((U q) _ (U j)).mono ?_;rintro L M h;replace h:=h.from (U j);cases n with
 |inl N=>obtain⟨C,rfl,h2,h3,g⟩:=h;have F:=R (And.intro h2 (And.intro h3 g));clear h2 h3 g q j;go_wp2_with fail;go_ret;exact⟨_,rfl,U F⟩
 |inr O=>obtain⟨rfl,h3,g⟩:=h;exact⟨rfl,rfl,h3,g⟩
theorem zE(w:World)(d:Nat)(D:Value)(s:St)(n:(St×List (List UInt8))⊕Int)(b o cap:Nat)(a:List UInt8)(v:w.cell? ⟨b,o,none⟩=some (.string ⟨a.toArray⟩))(u:a.length≤100000)(A:(dT d).atKey (.string a) (.held .nilFunc)=.held (bP 103 d))(z:has (dT d) (.string a)=true)(q:Hid (∀c,J w c→Calls prog 103 #[.pointer (some ⟨d,0,none⟩)] c (cT d D s n c))):Calls prog 42 #[.pointer (some ⟨d,0,none⟩),.slice (some ⟨b,o,none⟩) 1 cap] w (cT d D s n w):=by
 have p:=R (kU w.drew d);have r:Hid (∀(c:World)(l:Nat),c.ownsMap prog 9 fx l 5 (dT d)→(Instr.lookup 119 (.map (some l)) (.string ⟨a.toArray⟩) true).run prog c=.ok (.tuple #[bP 103 d,.bool true]) c):=R fun c l G=>iI underlying119 (lU c) G a u A z;generalize(ByteArray.mk a.toArray)=K at*;clear u A z;go_enter func42,ntmps42;go_wp2_with fail;refine wp_region_held_drew (S:=fun H=>J w H) (by kernel_rfl) ((J.refl w).drew) (fun e=>?_);refine bQ [0,2,3,4] ?_;repeat
  refine bS (v:=?_) e (fun c t=>?_) ?_;rotate_left;·(have I:=t.cell v;(try dsimp only at I);go_simp)<;>with_reducible rfl
  try simp only[PS]
 refine bO ?_;refine take_one (i:=1) rfl (by kernel_rfl) (fun k f=>?_);go_simp;refine(U p).mono ?_;rintro _ E⟨rfl,y,B⟩;have m:J w E:=e.trans B;have j:=R m;have x:=(U r) E w.heap.size y;dsimp only[bP]at x;clear B p v r y;refine f.out _ _ m (fun e=>?_);clear f k m;try simp only[PS]
 refine take_one (i:=5) rfl (by kernel_rfl) (fun k f=>?_);go_simp;refine f.out _ _ e (fun e=>?_);clear f k x;try simp only[PS]
 refine bQ [6,7,8,9,10] ?_;repeat
  refine bS (v:=?_) e (fun c t=>?_) ?_;rotate_left;·go_simp<;>with_reducible rfl
  try simp only[PS]
 refine bO ?_;refine wpAnyH_done (by kernel_rfl) ?_ _;clear e;go_wp2_with fail;refine((U q) _ (U j)).mono ?_;rintro L M h;replace h:=h.from (U j);cases n with
 |inl N=>obtain⟨C,rfl,h2,h3,g⟩:=h;have F:=R (And.intro h2 (And.intro h3 g));clear h2 h3 g q j;go_wp2_with fail;go_ret;exact⟨_,rfl,U F⟩
 |inr O=>obtain⟨rfl,h3,g⟩:=h;exact⟨rfl,rfl,h3,g⟩
theorem zD(w:World)(d:Nat)(D:Value)(s:St)(n:(St×List (List UInt8))⊕Int)(b o cap:Nat)(a:List UInt8)(v:w.cell? ⟨b,o,none⟩=some (.string ⟨a.toArray⟩))(u:a.length≤100000)(A:(dT d).atKey (.string a) (.held .nilFunc)=.held (bP 104 d))(z:has (dT d) (.string a)=true)(q:Hid (∀c,J w c→Calls prog 104 #[.pointer (some ⟨d,0,none⟩)] c (cT d D s n c))):Calls prog 42 #[.pointer (some ⟨d,0,none⟩),.slice (some ⟨b,o,none⟩) 1 cap] w (cT d D s n w):=by
 have p:=R (kU w.drew d);have r:Hid (∀(c:World)(l:Nat),c.ownsMap prog 9 fx l 5 (dT d)→(Instr.lookup 119 (.map (some l)) (.string ⟨a.toArray⟩) true).run prog c=.ok (.tuple #[bP 104 d,.bool true]) c):=R fun c l G=>iI underlying119 (lU c) G a u A z;generalize(ByteArray.mk a.toArray)=K at*;clear u A z;go_enter func42,ntmps42;go_wp2_with fail;refine wp_region_held_drew (S:=fun H=>J w H) (by kernel_rfl) ((J.refl w).drew) (fun e=>?_);refine bQ [0,2,3,4] ?_;repeat
  refine bS (v:=?_) e (fun c t=>?_) ?_;rotate_left;·(have I:=t.cell v;(try dsimp only at I);go_simp)<;>with_reducible rfl
  try simp only[PS]
 refine bO ?_;refine take_one (i:=1) rfl (by kernel_rfl) (fun k f=>?_);go_simp;refine(U p).mono ?_;rintro _ E⟨rfl,y,B⟩;have m:J w E:=e.trans B;have j:=R m;have x:=(U r) E w.heap.size y;dsimp only[bP]at x;clear B p v r y;refine f.out _ _ m (fun e=>?_);clear f k m;try simp only[PS]
 refine take_one (i:=5) rfl (by kernel_rfl) (fun k f=>?_);go_simp;refine f.out _ _ e (fun e=>?_);clear f k x;try simp only[PS]
 refine bQ [6,7,8,9,10] ?_;repeat
  refine bS (v:=?_) e (fun c t=>?_) ?_;rotate_left;·go_simp<;>with_reducible rfl
  try simp only[PS]
 refine bO ?_;refine wpAnyH_done (by kernel_rfl) ?_ _;clear e;go_wp2_with fail;refine((U q) _ (U j)).mono ?_;rintro L M h;replace h:=h.from (U j);cases n with
 |inl N=>obtain⟨C,rfl,h2,h3,g⟩:=h;have F:=R (And.intro h2 (And.intro h3 g));clear h2 h3 g q j;go_wp2_with fail;go_ret;exact⟨_,rfl,U F⟩
 |inr O=>obtain⟨rfl,h3,g⟩:=h;exact⟨rfl,rfl,h3,g⟩
theorem zL(w:World)(d:Nat)(D:Value)(s:St)(n:(St×List (List UInt8))⊕Int)(b o cap:Nat)(a:List UInt8)(v:w.cell? ⟨b,o,none⟩=some (.string ⟨a.toArray⟩))(u:a.length≤100000)(A:(dT d).atKey (.string a) (.held .nilFunc)=.held (bP 105 d))(z:has (dT d) (.string a)=true)(q:Hid (∀c,J w c→Calls prog 105 #[.pointer (some ⟨d,0,none⟩)] c (cT d D s n c))):Calls prog 42 #[.pointer (some ⟨d,0,none⟩),.slice (some ⟨b,o,none⟩) 1 cap] w (cT d D s n w):=by
 have p:=R (kU w.drew d);have r:Hid (∀(c:World)(l:Nat),c.ownsMap prog 9 fx l 5 (dT d)→(Instr.lookup 119 (.map (some l)) (.string ⟨a.toArray⟩) true).run prog c=.ok (.tuple #[bP 105 d,.bool true]) c):=R fun c l G=>iI underlying119 (lU c) G a u A z;generalize(ByteArray.mk a.toArray)=K at*;clear u A z;go_enter func42,ntmps42;go_wp2_with fail;refine wp_region_held_drew (S:=fun H=>J w H) (by kernel_rfl) ((J.refl w).drew) (fun e=>?_);refine bQ [0,2,3,4] ?_;repeat
  refine bS (v:=?_) e (fun c t=>?_) ?_;rotate_left;·(have I:=t.cell v;(try dsimp only at I);go_simp)<;>with_reducible rfl
  try simp only[PS]
 refine bO ?_;refine take_one (i:=1) rfl (by kernel_rfl) (fun k f=>?_);go_simp;refine(U p).mono ?_;rintro _ E⟨rfl,y,B⟩;have m:J w E:=e.trans B;have j:=R m;have x:=(U r) E w.heap.size y;dsimp only[bP]at x;clear B p v r y;refine f.out _ _ m (fun e=>?_);clear f k m;try simp only[PS]
 refine take_one (i:=5) rfl (by kernel_rfl) (fun k f=>?_);go_simp;refine f.out _ _ e (fun e=>?_);clear f k x;try simp only[PS]
 refine bQ [6,7,8,9,10] ?_;repeat
  refine bS (v:=?_) e (fun c t=>?_) ?_;rotate_left;·go_simp<;>with_reducible rfl
  try simp only[PS]
 refine bO ?_;refine wpAnyH_done (by kernel_rfl) ?_ _;clear e;go_wp2_with fail;refine((U q) _ (U j)).mono ?_;rintro L M h;replace h:=h.from (U j);cases n with
 |inl N=>obtain⟨C,rfl,h2,h3,g⟩:=h;have F:=R (And.intro h2 (And.intro h3 g));clear h2 h3 g q j;go_wp2_with fail;go_ret;exact⟨_,rfl,U F⟩
 |inr O=>obtain⟨rfl,h3,g⟩:=h;exact⟨rfl,rfl,h3,g⟩
theorem zA(w:World)(d:Nat)(D:Value)(s:St)(n:(St×List (List UInt8))⊕Int)(b o cap:Nat)(a:List UInt8)(v:w.cell? ⟨b,o,none⟩=some (.string ⟨a.toArray⟩))(u:a.length≤100000)(A:(dT d).atKey (.string a) (.held .nilFunc)=.held (bP 15 d))(z:has (dT d) (.string a)=true)(q:Hid (∀c,J w c→Calls prog 15 #[.pointer (some ⟨d,0,none⟩)] c (cT d D s n c))):Calls prog 42 #[.pointer (some ⟨d,0,none⟩),.slice (some ⟨b,o,none⟩) 1 cap] w (cT d D s n w):=by
 have p:=R (kU w.drew d);have r:Hid (∀(c:World)(l:Nat),c.ownsMap prog 9 fx l 5 (dT d)→(Instr.lookup 119 (.map (some l)) (.string ⟨a.toArray⟩) true).run prog c=.ok (.tuple #[bP 15 d,.bool true]) c):=R fun c l G=>iI underlying119 (lU c) G a u A z;generalize(ByteArray.mk a.toArray)=K at*;clear u A z;go_enter func42,ntmps42;go_wp2_with fail;refine wp_region_held_drew (S:=fun H=>J w H) (by kernel_rfl) ((J.refl w).drew) (fun e=>?_);refine bQ [0,2,3,4] ?_;repeat
  refine bS (v:=?_) e (fun c t=>?_) ?_;rotate_left;·(have I:=t.cell v;(try dsimp only at I);go_simp)<;>with_reducible rfl
  try simp only[PS]
 refine bO ?_;refine take_one (i:=1) rfl (by kernel_rfl) (fun k f=>?_);go_simp;refine(U p).mono ?_;rintro _ E⟨rfl,y,B⟩;have m:J w E:=e.trans B;have j:=R m;have x:=(U r) E w.heap.size y;dsimp only[bP]at x;clear B p v r y;refine f.out _ _ m (fun e=>?_);clear f k m;try simp only[PS]
 refine take_one (i:=5) rfl (by kernel_rfl) (fun k f=>?_);go_simp;refine f.out _ _ e (fun e=>?_);clear f k x;try simp only[PS]
 refine bQ [6,7,8,9,10] ?_;repeat
  refine bS (v:=?_) e (fun c t=>?_) ?_;rotate_left;·go_simp<;>with_reducible rfl
  try simp only[PS]
 refine bO ?_;refine wpAnyH_done (by kernel_rfl) ?_ _;clear e;go_wp2_with fail;refine((U q) _ (U j)).mono ?_;rintro L M h;replace h:=h.from (U j);cases n with
 |inl N=>obtain⟨C,rfl,h2,h3,g⟩:=h;have F:=R (And.intro h2 (And.intro h3 g));clear h2 h3 g q j;go_wp2_with fail;go_ret;exact⟨_,rfl,U F⟩
 |inr O=>obtain⟨rfl,h3,g⟩:=h;exact⟨rfl,rfl,h3,g⟩
theorem zG(w:World)(c:Nat)(y:Value)(s:St)(b o cap:Nat)(a:List UInt8)(q:w.cell? ⟨b,o,none⟩=some (.string ⟨a.toArray⟩))(p:a.length≤100000)(u:(dT c).atKey (.string a) (.held .nilFunc)=.held .nilFunc)(t:has (dT c) (.string a)=false)(A:Hid (bU w c y s)):Calls prog 42 #[.pointer (some ⟨c,0,none⟩),.slice (some ⟨b,o,none⟩) 1 cap] w (cT c y s (.inr 1) w):=by
 have k:=R (kU w.drew c);have m:Hid (∀(e:World)(h:Nat),e.ownsMap prog 9 fx h 5 (dT c)→(Instr.lookup 119 (.map (some h)) (.string ⟨a.toArray⟩) true).run prog e=.ok (.tuple #[.nilFunc,.bool false]) e):=R fun e h C=>iI underlying119 (lU e) C a p u t;generalize(ByteArray.mk a.toArray)=F at*;clear p u t;go_enter func42,ntmps42;go_wp2_with fail;refine wp_region_held_drew (S:=fun D=>J w D) (by kernel_rfl) ((J.refl w).drew) (fun d=>?_);refine bQ [0,2,3,4] ?_;repeat
  refine bS (v:=?_) d (fun e n=>?_) ?_;rotate_left;·(have E:=n.cell q;(try dsimp only at E);go_simp)<;>with_reducible rfl
  try simp only[PS]
 refine bO ?_;refine take_one (i:=1) rfl (by kernel_rfl) (fun g f=>?_);go_simp;refine(U k).mono ?_;rintro _ z⟨rfl,r,x⟩;have j:J w z:=d.trans x;have l:=R j;have B:=(U m) z w.heap.size r;clear x k q m r;refine f.out _ _ j (fun d=>?_);clear f g j;try simp only[PS]
 refine take_one (i:=5) rfl (by kernel_rfl) (fun g f=>?_);go_simp;refine f.out _ _ d (fun d=>?_);clear f g B;try simp only[PS]
 refine bQ [6,7,8,9,10] ?_;repeat
  refine bS (v:=?_) d (fun e n=>?_) ?_;rotate_left;·go_simp<;>with_reducible rfl
  try simp only[PS]
 refine bO ?_;refine wpAnyH_done (by kernel_rfl) ?_ _;clear d;go_wp2_with fail;exact⟨rfl,rfl,(U A).kept (U l),.of (U l)⟩
theorem zI(w:World)(d:Nat)(e:Value)(s:St)(n:dt)(f:iQ w d e s n)(b o cap:Nat)(a:List UInt8)(h:w.cell? ⟨b,o,none⟩=some (.string ⟨a.toArray⟩))(g:a.length≤100000):Calls prog 42 #[.pointer (some ⟨d,0,none⟩),.slice (some ⟨b,o,none⟩) 1 cap] w (cT d e s (kP n s a) w):=by
 obtain⟨c,h2⟩:=yb d a;unfold kP;by_cases i:a=[111,117,116];·rw[if_pos i]at c⊢;exact zJ w d e s _ b o cap a h g c (by rw[h2];simp[i]) (R f.out)
 ·rw[if_neg i]at c⊢;by_cases j:a=[108,105,110,101];·rw[if_pos j]at c⊢;exact zE w d e s _ b o cap a h g c (by rw[h2];simp[j]) (R f.line)
  ·rw[if_neg j]at c⊢;by_cases k:a=[107,105,110,100,115];·rw[if_pos k]at c⊢;exact zD w d e s _ b o cap a h g c (by rw[h2];simp[k]) (R f.kinds)
   ·rw[if_neg k]at c⊢;by_cases l:a=[116,114,105,109];·rw[if_pos l]at c⊢;exact zL w d e s _ b o cap a h g c (by rw[h2];simp[l]) (R f.trim)
    ·rw[if_neg l]at c⊢;by_cases m:a=[97,103,97,105,110];·rw[if_pos m]at c⊢;exact zA w d e s _ b o cap a h g c (by rw[h2];simp[m]) (R f.again)
     ·rw[if_neg m]at c⊢;exact zG w d e s b o cap a h g c (by rw[h2];simp[i,j,k,l,m]) (R f.dk)
theorem tw(w:World)(a:Nat)(b:Value)(s:St)(c:Hid (bU w a b s))(d:Option Addr)(n cap:Nat)(e:((n:Int)==1)=false)(h2:((n:Int)==2)=false):Calls prog 42 #[.pointer (some ⟨a,0,none⟩),.slice d n cap] w (cT a b s (.inr 1) w):=by go_enter func42,ntmps42;go_wp2_with fail;exact⟨rfl,rfl,U c,.refl _ _⟩
