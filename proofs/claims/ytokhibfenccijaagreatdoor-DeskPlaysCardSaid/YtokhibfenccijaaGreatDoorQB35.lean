import Derived.Test.YtokhibfenccijaaGreatDoorQB34
import Derived.Deep.Upon
set_option maxRecDepth 100000
set_option maxHeartbeats 8000000
namespace Go.Proofs.YtokhibfenccijaaGreatDoor
open Go.Proofs.Tryz
open Go.RowKit
theorem Own.KI{base:Nat}{w w1:World}{V:Key→Value}{s:St}(g:Own base w V s){i gF capF:Nat}(z:i<s.I.length)(M:V .I=.slice (some ⟨gF,0,none⟩) s.I.length capF)(f:Fr)(q r n:Value){gl gs:Nat}(O:q.ownBlock=some gl)(P:r.ownBlock=some gs)(c4:gl≠gs)(a4:Own.off V s gl)(a5:Own.off V s gs)(c5:gl<w.heap.size)(c6:gs<w.heap.size)(b5:w1.ownsRow base 3 1 r f.stack.length (ints f.stack))(b3:w1.ownsRow base 3 1 q f.locals.length (ints f.locals))(a2:∀l,l<w.heap.size→(V (.U i)).ownBlock≠some l→w1.heap[l]?=w.heap[l]?)(b4:∀t,w.ownsRow base 92 4 (V (.U i)) (aa s i).U.length t→w1.ownsRow base 92 4 n ((aa s i).U.length+1) (t++[.int .i64 f.fn,.int .i64 f.at_,q,r]))(N:n.ownBlock=(V (.U i)).ownBlock∨n.ownBlock=some w.heap.size):Own base (w1.setCell ⟨gF,i*2,none⟩ n) (aC (aC (aC V (.U i) n) (.locals i (aa s i).U.length) q) (.stack i (aa s i).U.length) r) (ak s i {aa s i with U:=(aa s i).U++[f]}):=by
 generalize v:(aa s i).U.length=d at*;have D:(V .I).ownBlock=some gF:=by rw[M];rfl
 have W:live s (.U i):=z;have E:=bj s i {aa s i with U:=(aa s i).U++[f]};have a1:(V (.U i)).ownBlock≠some gF:=fun a=>by have:=g.apart _ .I _ W trivial a D;cases this
 have b1:gF<w.heap.size:=((g.piece .I trivial).block gF D).2;have b6:n.ownBlock≠some gF:=by
  rcases N with a|a;·rw[a];exact a1
  ·rw[a];intro h;cases h;omega
 have b7:q.ownBlock≠some gF:=by rw[O];intro h;cases h;exact a4 .I trivial D
 have b8:r.ownBlock≠some gF:=by rw[P];intro h;cases h;exact a5 .I trivial D
 have u:aa (ak s i {aa s i with U:=(aa s i).U++[f]}) i={aa s i with U:=(aa s i).U++[f]}:=bV _ z;have y:∀b,i≠b→aa (ak s i {aa s i with U:=(aa s i).U++[f]}) b=aa s b:=fun b a=>cS _ a;have I:∀b e,(i=b→e<d)→ae (ak s i {aa s i with U:=(aa s i).U++[f]}) b e=ae s b e:=fun b e A=>by
  unfold ae;by_cases a:i=b;·subst a;rw[u];exact kX _ _ _ _ (by rw[v];exact A rfl)
  ·rw[y b a]
 have Y:ae (ak s i {aa s i with U:=(aa s i).U++[f]}) i d=f:=by unfold ae;rw[u,←v];exact mF _ _ _
 have T:∀c,live (ak s i {aa s i with U:=(aa s i).U++[f]}) c→c=.locals i d∨c=.stack i d∨(live s c∧∀b e,(c=.locals b e∨c=.stack b e)→i=b→e<d):=by
  intro c j;cases c using Key.by with
  |fibers=>exact .inr (.inr ⟨trivial,fun b e g=>by simp at g⟩)
  |out=>exact .inr (.inr ⟨trivial,fun b e g=>by simp at g⟩)
  |frames b=>exact .inr (.inr ⟨by simpa only[live,E]using j,fun b e g=>by simp at g⟩)
  |locals b e=>
   simp only[live,E]at j;by_cases a:i=b
   ·subst a;rw[u]at j;simp only[List.length_append,List.length_cons,List.length_nil,v]at j;by_cases a:e=d;·left;rw[a]
    ·exact .inr (.inr ⟨⟨z,by omega⟩,fun a0 Z g _=>by simp at g;omega⟩)
   ·rw[y b a]at j;exact .inr (.inr ⟨j,fun a0 Z g h=>by simp at g;omega⟩)
  |stack b e=>
   simp only[live,E]at j;by_cases a:i=b
   ·subst a;rw[u]at j;simp only[List.length_append,List.length_cons,List.length_nil,v]at j;by_cases a:e=d;·right;left;rw[a]
    ·exact .inr (.inr ⟨⟨z,by omega⟩,fun a0 Z g _=>by simp at g;omega⟩)
   ·rw[y b a]at j;exact .inr (.inr ⟨j,fun a0 Z g h=>by simp at g;omega⟩)
 have a9:¬live s (.locals i d):=fun Q=>by have:=Q.2;omega
 have b0:¬live s (.stack i d):=fun Q=>by have:=Q.2;omega
 have m:∀c,live s c→c≠.U i→aC (aC (aC V (.U i) n) (.locals i d) q) (.stack i d) r c=V c:=fun c j a=>by rw[aB _ _ (fun(a:c=.stack i d)=>b0 (a▸j)),aB _ _ (fun(a:c=.locals i d)=>a9 (a▸j)),aB _ _ a]
 have F:aC (aC (aC V (.U i) n) (.locals i d) q) (.stack i d) r (.U i)=n:=by rw[aB _ _ (by simp),aB _ _ (by simp),cj]
 have G:aC (aC (aC V (.U i) n) (.locals i d) q) (.stack i d) r (.locals i d)=q:=by rw[aB _ _ (by simp),cj]
 have H:aC (aC (aC V (.U i) n) (.locals i d) q) (.stack i d) r (.stack i d)=r:=cj _ _ _;generalize aC (aC (aC V (.U i) n) (.locals i d) q) (.stack i d) r=a8 at*;refine g.Kd (fun c j=>?_) (fun c l j a=>?_) (fun c c1 l j b2 a3 a h=>?_)
 ·rcases T c j with rfl|rfl|⟨k,A⟩;·left;show World.ownsRow _ _ _ _ _ _ _;rw[G,Y];exact ownsRow_setCell_other b3 b7 _
  ·left;show World.ownsRow _ _ _ _ _ _ _;rw[H,Y];exact ownsRow_setCell_other b5 b8 _
  ·by_cases S:c=.I
   ·subst S;left;obtain⟨t,o,h2⟩:=g.piece .I trivial;rw[M]at o;have L:w1.ownsRow base 95 2 (.slice (some ⟨gF,0,none⟩) s.I.length capF) s.I.length t:=fj o (fun l a=>by cases a;exact a2 gF b1 a1);refine⟨t.set (i*2) n,?_,fun b B=>?_⟩;·rw[m .I trivial (by simp),M,E];exact(L.stored _ _).1
    ·rw[E]at B;obtain⟨h3,C⟩:=h2 b B;have b9:i*2<t.length:=by rw[o.1];omega
     by_cases a:i=b;·subst a;refine⟨by rw[List.getElem?_set,if_pos rfl,if_pos b9,F],?_⟩;rw[List.getElem?_set,if_neg (by omega),u];exact C
     ·refine⟨by rw[List.getElem?_set,if_neg (by omega),m (.U b) B (by simp;exact fun g=>a g.symm)];exact h3,?_⟩;rw[List.getElem?_set,if_neg (by omega),y b a];exact C
   ·by_cases p:c=.U i
    ·subst p;left;obtain⟨t,o,h2⟩:=g.piece _ W;rw[v]at o h2;have L:=b4 t o;refine⟨_,by rw[F,u];simp only[List.length_append,List.length_cons,List.length_nil,v];exact ownsRow_setCell_other L b6 _,fun b B=>?_⟩;rw[u]at B;simp only[List.length_append,List.length_cons,List.length_nil,v]at B;have c0:t.length=d*4:=o.1;by_cases a:b=d
     ·subst a;rw[Y,G,H];refine⟨?_,?_,?_,?_⟩<;>rw[List.getElem?_append_right (by omega),c0];·rw[show b*4-b*4=0 by omega];rfl
      ·rw[show b*4+1-b*4=1 by omega];rfl
      ·rw[show b*4+2-b*4=2 by omega];rfl
      ·rw[show b*4+3-b*4=3 by omega];rfl
     ·have a6:b<d:=by omega
      obtain⟨c7,c8,c9,e0⟩:=h2 b a6;rw[I i b (fun _=>a6),m (.locals i b) ⟨z,by omega⟩ (by simp),m (.stack i b) ⟨z,by omega⟩ (by simp)];refine⟨?_,?_,?_,?_⟩<;>rw[List.getElem?_append_left (by omega)]<;>assumption
    ·right;refine⟨k,m c k p,fun x=>?_,fun l a=>?_⟩
     ·cases c using Key.by with
      |fibers=>exact absurd rfl S
      |out=>simp only[Piece]at x⊢;rw[m .out trivial (by simp)];exact x
      |frames b=>have X:i≠b:=fun a=>p (by rw[a]);obtain⟨t,c2,c3⟩:=x;refine⟨t,by rw[y b X,m _ k p];exact c2,fun e K=>?_⟩;rw[y b X]at K;rw[I b e (fun a=>absurd a X),m (.locals b e) ⟨k,K⟩ (by simp),m (.stack b e) ⟨k,K⟩ (by simp)];exact c3 e K
      |locals b e=>simp only[Piece]at x⊢;rw[m _ k (by simp),I b e (A b e (.inl rfl))];exact x
      |stack b e=>simp only[Piece]at x⊢;rw[m _ k (by simp),I b e (A b e (.inr rfl))];exact x
     ·rw[Below.heap_setCell w1 _ _ l (fun h=>S (g.apart c _ l k trivial a (by rw[D,h])))];exact a2 l ((g.piece c k).block l a).2 (fun h=>p (g.apart c _ l k W a h))
 ·rcases T c j with rfl|rfl|⟨k,A⟩;·right;rw[G,O]at a;cases a;exact a4
  ·right;rw[H,P]at a;cases a;exact a5
  ·by_cases p:c=.U i
   ·subst p;rw[F]at a;rcases N with h|h;·exact .inl ⟨k,by rw[←h,a]⟩
    ·rw[a]at h;cases h;exact .inr (g.JU (.inl (Nat.le_refl _)))
   ·rw[m c k p]at a;exact .inl ⟨k,a⟩
 ·have a7:∀c,live (ak s i {aa s i with U:=(aa s i).U++[f]}) c→(a8 c).ownBlock=some l→(c=.locals i d∧l=gl)∨(c=.stack i d∧l=gs)∨(c=.U i∧l=w.heap.size):=by
   intro c j a;rcases T c j with rfl|rfl|⟨k,A⟩;·left;rw[G,O]at a;cases a;exact⟨rfl,rfl⟩
   ·right;left;rw[H,P]at a;cases a;exact⟨rfl,rfl⟩
   ·by_cases p:c=.U i
    ·subst p;right;right;rw[F]at a;rcases N with h|h;·exact absurd (by rw[←h,a]) (a3 (.U i) k)
     ·rw[a]at h;cases h;exact⟨rfl,rfl⟩
    ·rw[m c k p]at a;exact absurd a (a3 c k)
  rcases a7 c j a with⟨o,h2⟩|⟨o,h2⟩|⟨o,h2⟩<;>rcases a7 c1 b2 h with⟨h3,C⟩|⟨h3,C⟩|⟨h3,C⟩<;>first|exact o.trans h3.symm|(exfalso;omega)
theorem jw{w:World}{base a:Nat}{e:TypeId}{c n:Nat}{v:Value}{xs:List Value}(b:w.ownsRow base e c v n xs)(j:a≤base):w.ownsRow a e c v n xs:=by
 refine⟨b.1,?_⟩;rcases b.2 with h|⟨g,d,f,rfl,k,i⟩;·exact .inl h
 ·exact .inr ⟨g,d,f,rfl,by omega,i⟩
def cK(b:Fb):St:=⟨[b],0,[]⟩
theorem jC(b:Fb):aa (cK b) 0=b:=rfl
def fq(V c:Key→Value)(n:Nat)(d:Value):Key→Value
 |none=>d
 |some none=>V .out
 |some (some (.inl a))=>if a=n then c (.U 0)else V (.U a)
 |some (some (.inr (.inl (a,b))))=>if a=n then c (.locals 0 b)else V (.locals a b)
 |some (some (.inr (.inr (a,b))))=>if a=n then c (.stack 0 b)else V (.stack a b)
theorem Bs(base o:Nat)(V:Key→Value)(s:St)(w:World)(D:ag base w o V s)(z:Nat)(W:∀f g,live s f→(V f).ownBlock=some g→g<z)(h6:o<z)(h5:z≤w.heap.size)(m:Key→Value)(b:Fb)(c9:Own z w m (cK b))(h7:s.I.length≤1000):∃r n,(Builtin.append_ #[42,42] 42 #[V .I,.slice (some ⟨w.heap.size,0,none⟩) 1 1]).run prog (w.alloc (.cells #[m (.U 0),.int .i64 b.caller] 95))=.ok r n∧(∃a0 T,r=.slice a0 (s.I.length+1) T)∧(∃c2,ag base (n.setCell ⟨o,0,none⟩ r) o c2 {s with I:=s.I++[b]})∧Below base w n∧n.cell? ⟨o,0,none⟩=some (V .I)∧n.frozen? ⟨o,0,none⟩=false∧(∀h,h<w.heap.size→(V .I).ownBlock≠some h→n.heap[h]?=w.heap[h]?):=by
 obtain⟨g7,e0,g4,g5,g6⟩:=info_parts qK;have a5:base≤z:=by have:=D.low;omega
 generalize e5:Obj.cells #[m (.U 0),.int .i64 b.caller] 95=A;have lB:(w.alloc A).heap[w.heap.size]?=some (.cells #[m (.U 0),.int .i64 b.caller] 95):=by rw[e5];exact ah rfl
 have v:ag base (w.alloc A) o V s:=D.alloc A;have x:Own z (w.alloc A) m (cK b):=c9.alloc A;have b7:J w (w.alloc A):=(J.refl w).alloc _;have i3:(w.alloc A).heap.size=w.heap.size+1:=by simp
 generalize w.alloc A=H at*;have c7:Below base w H:=Below.mono b7 (by omega);obtain⟨b4,c0,c8⟩:=v.own.piece .I trivial;have e6:(m (.U 0)).oneCell'=true:=by obtain⟨a3,g3,_⟩:=x.piece (.U 0) (by simp[live,cK]);obtain⟨a0,T,c,_⟩:=aR g3;rw[c];rfl
 obtain⟨r,n,e8,b9,b5,_,c5⟩:=run_append_own_at (P:=prog) H base 42 42 95 g7 _ 2 32 underlying42 e0 g4 g5 g6 rfl (by decide) _ _ b4 c0 ⟨w.heap.size,0,none⟩ 1 1 [m (.U 0),.int .i64 b.caller] rfl (fun c1 h e1=>by
  have:((⟨w.heap.size,0,none⟩:Addr).add c1)=⟨w.heap.size,c1,none⟩:=by unfold Addr.add;split<;>simp_all
  rw[this,ab lB];simpa using e1) (by intro h y;simp only[List.mem_cons,List.not_mem_nil,or_false]at y;rcases y with rfl|rfl<;>first|exact e6|rfl) (by unfold maxLen;omega) (by omega) (by omega);have X:∀h,h<H.heap.size→(V .I).ownBlock≠some h→n.heap[h]?=H.heap[h]?:=fun h y b0=>b5.block h y (fun c=>b0 c.symm);have e4:∀h,z≤h→(V .I).ownBlock≠some h:=fun h y c=>by have:=W .I h trivial c;omega
 have Q:∀h,r.ownBlock=some h→h<z∧(V .I).ownBlock=some h∨h=H.heap.size:=fun h y=>by
  rcases c5 with c|c;·rw[y]at c;exact .inl ⟨W .I h trivial c.symm,c.symm⟩
  ·rw[y]at c;exact .inr (Option.some.inj c)
 generalize C:s.I.length=i at*;have F:∀d,d<i→aa {s with I:=s.I++[b]} d=aa s d:=fun d t=>kX _ _ _ _ (by rw[C];exact t);have E:aa {s with I:=s.I++[b]} i=b:=by rw[←C];exact mF _ _ _
 have a7:∀d e,d<i→ae {s with I:=s.I++[b]} d e=ae s d e:=fun d e t=>by unfold ae;rw[F d t]
 have a6:∀e,ae {s with I:=s.I++[b]} i e=ae (cK b) 0 e:=fun e=>by unfold ae;rw[E];rfl
 have M:({s with I:=s.I++[b]}:St).I.length=i+1:=by simp[C]
 have Z:∀f,live {s with I:=s.I++[b]} f→f=.I∨(live s f∧f≠.I∧fq V m i r f=V f)∨(∃l,live (cK b) l∧l≠.I∧l≠.out∧fq V m i r f=m l∧(∀G g8,live {s with I:=s.I++[b]} G→fq V m i r G=m g8→True)∧((l=.U 0∧f=.U i)∨(∃e,l=.locals 0 e∧f=.locals i e)∨(∃e,l=.stack 0 e∧f=.stack i e))):=by
  intro f k;cases f using Key.by with
  |fibers=>exact .inl rfl
  |out=>exact .inr (.inl ⟨trivial,by simp,rfl⟩)
  |frames d=>
   simp only[live,M]at k;by_cases c:d=i;·subst c;exact .inr (.inr ⟨.U 0,by simp[live,cK],by simp,by simp,by simp[fq],fun _ _ _ _=>trivial,.inl ⟨rfl,rfl⟩⟩)
   ·exact .inr (.inl ⟨by simp only[live,C];omega,by simp,by simp[fq,c]⟩)
  |locals d e=>
   simp only[live,M]at k;by_cases c:d=i;·subst c;rw[E]at k;exact .inr (.inr ⟨.locals 0 e,⟨by simp[cK],k.2⟩,by simp,by simp,by simp[fq],fun _ _ _ _=>trivial,.inr (.inl ⟨e,rfl,rfl⟩)⟩)
   ·rw[F d (by omega)]at k;exact .inr (.inl ⟨⟨by omega,k.2⟩,by simp,by simp[fq,c]⟩)
  |stack d e=>
   simp only[live,M]at k;by_cases c:d=i;·subst c;rw[E]at k;exact .inr (.inr ⟨.stack 0 e,⟨by simp[cK],k.2⟩,by simp,by simp,by simp[fq],fun _ _ _ _=>trivial,.inr (.inr ⟨e,rfl,rfl⟩)⟩)
   ·rw[F d (by omega)]at k;exact .inr (.inl ⟨⟨by omega,k.2⟩,by simp,by simp[fq,c]⟩)
 have e2:Own base n (fq V m i r) {s with I:=s.I++[b]}:=by
  refine⟨fun f k=>?_,fun f l g k e3 c p=>?_⟩
  ·rcases Z f k with rfl|⟨q,L,j⟩|⟨l,a8,b6,i0,j,_,g1⟩
   ·refine⟨b4++[m (.U 0),.int .i64 b.caller],by rw[M];exact b9,fun d t=>?_⟩;rw[M]at t;have g2:b4.length=i*2:=c0.1;by_cases c:d=i
    ·subst c;rw[E];refine⟨?_,?_⟩<;>rw[List.getElem?_append_right (by omega),g2];·rw[show d*2-d*2=0 by omega];simp[fq]
     ·rw[show d*2+1-d*2=1 by omega];rfl
    ·obtain⟨h0,h1⟩:=c8 d (by omega);rw[F d (by omega)];refine⟨?_,?_⟩<;>rw[List.getElem?_append_left (by omega)];·rw[h0];simp[fq,c]
     ·exact h1
   ·have u:=(v.own.piece f q).same (w':=n) (fun g K=>X g ((v.own.piece f q).block g K).2 (fun c=>L (v.own.apart f .I g q trivial K c)));cases f using Key.by with
    |fibers=>exact absurd rfl L
    |out=>exact u
    |frames d=>
     obtain⟨a3,b2,b3⟩:=u;have t:d<i:=by simp only[live,C]at q;exact q
     refine⟨a3,by rw[j,F d t];exact b2,fun e O=>?_⟩;rw[F d t]at O;rw[a7 d e t];have:=b3 e O;simpa[fq,show d≠i by omega]using this
    |locals d e=>
     have t:d<i:=by have:=q.1;rw[C]at this;exact this
     simp only[Piece]at u⊢;rw[j,a7 d e t];exact u
    |stack d e=>
     have t:d<i:=by have:=q.1;rw[C]at this;exact this
     simp only[Piece]at u⊢;rw[j,a7 d e t];exact u
   ·have u:=(x.piece l a8).same (w':=n) (fun g K=>X g ((x.piece l a8).block g K).2 (e4 g ((x.piece l a8).block g K).1));rcases g1 with⟨rfl,rfl⟩|⟨e,rfl,rfl⟩|⟨e,rfl,rfl⟩;·obtain⟨a3,b2,b3⟩:=u;refine⟨a3,by rw[j,E];exact jw b2 a5,fun e O=>?_⟩;rw[E]at O;rw[a6 e];have:=b3 e O;simpa[fq]using this
    ·simp only[Piece]at u⊢;rw[j,a6 e];exact jw u a5
    ·simp only[Piece]at u⊢;rw[j,a6 e];exact jw u a5
  ·rcases Z f k with rfl|⟨q,L,j⟩|⟨S,N,h8,i1,j,_,e9⟩<;>rcases Z l e3 with rfl|⟨Y,b6,B⟩|⟨G,a9,h9,i2,B,_,g0⟩;·rfl
   ·rw[B]at p;rcases Q g c with⟨_,h2⟩|h2;·exact absurd (v.own.apart l .I g Y trivial p h2) b6
    ·have:=((v.own.piece l Y).block g p).2;omega
   ·rw[B]at p;have h3:=(x.piece G a9).block g p;rcases Q g c with⟨h2,_⟩|h2<;>omega
   ·rw[j]at c;rcases Q g p with⟨_,h2⟩|h2;·exact absurd (v.own.apart f .I g q trivial c h2) L
    ·have:=((v.own.piece f q).block g c).2;omega
   ·rw[j]at c;rw[B]at p;exact v.own.apart f l g q Y c p
   ·rw[j]at c;rw[B]at p;have h3:=(x.piece G a9).block g p;have c3:=W f g q c;omega
   ·rw[j]at c;have h3:=(x.piece S N).block g c;rcases Q g p with⟨h2,_⟩|h2<;>omega
   ·rw[j]at c;rw[B]at p;have h3:=(x.piece S N).block g c;have c3:=W l g Y p;omega
   ·rw[j]at c;rw[B]at p;have c4:=x.apart S G g N a9 c p;subst c4;rcases e9 with⟨a1,a2⟩|⟨e,a1,a2⟩|⟨e,a1,a2⟩<;>rcases g0 with⟨I,a4⟩|⟨g9,I,a4⟩|⟨g9,I,a4⟩<;>rw[a1]at I<;>first|(cases I;rw[a2,a4])|cases I
 have b8:Own.off (fq V m i r) {s with I:=s.I++[b]} o:=by
  intro f k c;rcases Z f k with rfl|⟨q,L,j⟩|⟨S,N,_,_,j,_,_⟩
  ·rcases Q o c with⟨_,h2⟩|h2;·exact D.off .I trivial h2
   ·omega
  ·rw[j]at c;exact D.off f q c
  ·rw[j]at c;have h3:=(x.piece S N).block o c;omega
 have c6:n.heap[o]?=H.heap[o]?:=X o (by omega) (D.off .I trivial);have b1:n.heap[o]?=some (.cells #[V .I,.int .i64 s.now,V .out] 44):=by rw[c6];exact v.var
 refine⟨r,n,e8,?_,⟨fq V m i r,?_,e2.JW (a:=⟨o,0,none⟩) b8 r,b8,D.low⟩,?_,ab b1 0,an b1 0,fun h y b0=>?_⟩;·obtain⟨a0,T,c,_⟩:=aR b9;exact⟨a0,T,c⟩
 ·rw[ay b1 0 r];rfl
 ·exact Below.grown c7 b5 (by omega) (fun h4 e7=>((v.own.piece .I trivial).block h4 e7).1)
 ·rw[X h (by omega) b0];exact b7.block h y
theorem addr_add(B j:Nat):((⟨B,0,none⟩:Addr).add j)=⟨B,j,none⟩:=by unfold Addr.add;split<;>simp_all
theorem iY(base B:Nat)(u:World)(v:Value)(l:List Int)(z:bC u v l)(M:l.length≤1000)(k:u.heap[B]?=some (.cells #[] 3))(w:base≤B):∃d c,(Builtin.append_ #[30,30] 30 #[.slice (some ⟨B,0,none⟩) 0 0,v]).run prog u=.ok d c∧c.ownsRow base 3 1 d l.length (ints l)∧u.grownBy c (some B)∧(∃h,d.ownBlock=some h∧(h=B∨h=u.heap.size)):=by
 obtain⟨j,i,E,F,G⟩:=info_parts iE;have L:B<u.heap.size:=(Array.getElem?_eq_some_iff.1 k).1;have p:u.ownsRow base 3 1 (.slice (some ⟨B,0,none⟩) 0 0) 0 []:=⟨rfl,.inr ⟨B,0,#[],rfl,w,k,Nat.le_refl _,by decide,rfl,rfl⟩⟩;obtain⟨I,g,rfl,_,m⟩:=z;by_cases s:l.length=0
 ·obtain rfl:l=[]:=List.length_eq_zero_iff.1 s;refine⟨.slice (some ⟨B,0,none⟩) 0 0,u,?_,p,⟨rfl,rfl,rfl,Nat.le_refl _,fun _ _ _=>rfl⟩,B,rfl,.inl rfl⟩;cases I with
  |none=>exact run_append_nothing u _ _ _ _ j underlying30 i _ 0 0 (Nat.le_refl _) _ (Src.ofNil u underlying30 g)
  |some q=>exact run_append_nothing u _ _ _ _ j underlying30 i _ 0 0 (Nat.le_refl _) _ (Src.ofSlice u underlying30 q 0 g [] (by simp) (by simp) (by simp))
 ·obtain⟨e,f,rfl,_⟩:=m 0 _ (aD l 0 0 (by omega));obtain⟨d,c,C,A,y,_,t⟩:=run_append_own_at (P:=prog) u base 30 30 3 j _ 1 8 underlying30 i E F G rfl (by decide) _ 0 [] p ⟨e,f,none⟩ l.length g (ints l) (by simp[ij]) (fun a K n=>by
   have o:a<l.length:=by rw[←ij];exact(List.getElem?_eq_some_iff.1 n).1
   obtain⟨r,H,b,x⟩:=m a _ (aD l a 0 o);obtain⟨rfl,rfl⟩:=(by simpa using b:e=r∧f=H);have:((⟨e,f,none⟩:Addr).add a)=⟨e,f+a,none⟩:=by unfold Addr.add;split<;>simp_all
   rw[this,x,←n];exact(ints_at (aD l a 0 o)).symm) (by intro K D;obtain⟨N,_,rfl⟩:=List.mem_map.1 D;rfl) (by unfold maxLen;omega) (by omega) (by omega);refine⟨d,c,C,by simpa using A,y,?_⟩;rcases t with b|b;·exact⟨B,b,.inl rfl⟩
  ·exact⟨_,b,.inr rfl⟩
theorem qw(d o:Nat)(k:Key→Value)(b:Fb)(u:World)(L:Own d u k (cK b))(C:k .I=.slice (some ⟨o,0,none⟩) 1 1)(f:Fr)(g h:Value)(gl gs:Nat)(s:g.ownBlock=some gl)(t:h.ownBlock=some gs)(Y:gl≠gs)(E:Own.off k (cK b) gl)(F:Own.off k (cK b) gs)(O:d≤u.heap.size)(v:u.ownsRow d 3 1 g f.locals.length (ints f.locals))(y:u.ownsRow d 3 1 h f.stack.length (ints f.stack))(b3:b.U.length≤1000):∃l m,(Builtin.append_ #[93,93] 93 #[k (.U 0),.slice (some ⟨u.heap.size,0,none⟩) 1 1]).run prog (u.alloc (.cells #[.int .i64 f.fn,.int .i64 f.at_,g,h] 92))=.ok l m∧(∃A r,l=.slice A (b.U.length+1) r)∧(∃B,Own d (m.setCell ⟨o,0,none⟩ l) B (cK {b with U:=b.U++[f]})∧B .I=.slice (some ⟨o,0,none⟩) 1 1)∧Below d u m∧(∀a,a<u.heap.size→(k (.U 0)).ownBlock≠some a→m.heap[a]?=u.heap[a]?):=by
 obtain⟨a6,V,a3,a4,a5⟩:=info_parts qL;obtain⟨b6,a9,I,_⟩:=aR v;obtain⟨b7,b0,K,_⟩:=aR y;have M:g.oneCell'=true:=by rw[I];rfl
 have N:h.oneCell'=true:=by rw[K];rfl
 have b1:=(v.lt gl s).2;have b2:=(y.lt gs t).2;generalize Z:Obj.cells #[.int .i64 f.fn,.int .i64 f.at_,g,h] 92=j;have X:(u.alloc j).heap[u.heap.size]?=some (.cells #[.int .i64 f.fn,.int .i64 f.at_,g,h] 92):=by rw[Z];exact ah rfl
 have z:Own d (u.alloc j) k (cK b):=L.alloc j;have p:J u (u.alloc j):=(J.refl u).alloc _;have b4:(u.alloc j).heap.size=u.heap.size+1:=by simp
 have D:(u.alloc j).ownsRow d 3 1 g f.locals.length (ints f.locals):=oT v p;have H:(u.alloc j).ownsRow d 3 1 h f.stack.length (ints f.stack):=oT y p;generalize(u.alloc j)=u1 at*;have T:Below d u u1:=Below.mono p O;have q:live (cK b) (.U 0):=by simp[live,cK]
 obtain⟨a8,G,_⟩:=z.piece (.U 0) q;obtain⟨l,m,a1,x,n,_,S⟩:=run_append_own_at (P:=prog) u1 d 93 93 92 a6 _ 4 64 underlying93 V a3 a4 a5 rfl (by decide) _ _ a8 G ⟨u.heap.size,0,none⟩ 1 1 [.int .i64 f.fn,.int .i64 f.at_,g,h] rfl (fun b5 a W=>by rw[addr_add,ab X];simpa using W) (by intro a c;simp only[List.mem_cons,List.not_mem_nil,or_false]at c;rcases c with rfl|rfl|rfl|rfl<;>first|rfl|exact M|exact N) (by unfold maxLen;rw[jC];omega) (by rw[jC];omega) (by omega);rw[jC]at x;have Q:=z.KI (i:=0) (gF:=o) (capF:=1) (by simp[cK]) (by rw[C];rfl) f g h l s t Y E F (by omega) (by omega) (fj H (fun a c=>n.block a (by have:=(H.lt a c).2;exact this) (fun e=>F (.U 0) q (by rw[←e];rw[t]at c;rw[c])))) (fj D (fun a c=>n.block a (by have:=(D.lt a c).2;exact this) (fun e=>E (.U 0) q (by rw[←e];rw[s]at c;rw[c])))) (fun a c w=>n.block a c (fun e=>w e.symm)) (fun b8 a2=>by rw[rO a2 G];exact x) S;refine⟨l,m,a1,?_,⟨_,Q,by rw[aB _ _ (by simp),aB _ _ (by simp),aB _ _ (by simp)];exact C⟩,?_,fun a c w=>?_⟩;·obtain⟨A,r,e,_⟩:=aR x;exact⟨A,r,e⟩
 ·exact Below.grown T n (by omega) (fun a7 a0=>((z.piece (.U 0) q).block a7 a0).1)
 ·rw[n.block a (by omega) (fun e=>w e.symm)];exact p.block a c
theorem ph{P:Program}{g:Region.Mode}{d:Exit→Act→World→Prop}{S:World→Prop}{e:Nat}{c y z:List Oper}{i k:Nat}{h j:Oper}{l:Nat}{f:Array Bool}{a:Act}{w:World}(v:c.drop i=h::y)(x:c.drop k=j::z)(q:Region.ready g c.toArray f=[i,k])(s:∀b:Act→World→Prop,Shut (∀a w,(i≠e→S w)→dr P g c.toArray d S e l (f.setIfInBounds i true) a w→b a w)→if Region.wanted h (yielded c.toArray a.tmps)=true then Oper.wp P h a w b d else b (a.put h.dst undef) w)(t:∀b:Act→World→Prop,Shut (∀a w,(k≠e→S w)→dr P g c.toArray d S e l (f.setIfInBounds k true) a w→b a w)→if Region.wanted j (yielded c.toArray a.tmps)=true then Oper.wp P j a w b d else b (a.put j.dst undef) w):dr P g c.toArray d S e (l+1) f a w:=⟨fun u=>absurd (q▸u) (by simp),fun r p=>by
 rw[q]at p;rcases(by simpa using p:r=i∨r=k)with rfl|rfl;·exact wpOp_step (ib v) (fun b m=>s b (fun a w n o=>m a w ⟨n,o⟩))
 ·exact wpOp_step (ib x) (fun b m=>t b (fun a w n o=>m a w ⟨n,o⟩))⟩
theorem FC{w:World}{B:Nat}{c:Int}(i:w.heap[B]?=some (.cells #[.slice none 0 0,.int .i64 c] 95)):Own B w (fun b=>if b=.I then .slice (some ⟨B,0,none⟩) 1 1 else .slice none 0 0) (cK ⟨[],c⟩):=by
 refine⟨fun b a=>?_,fun b l n a o e f=>?_⟩
 ·cases b using Key.by with
  |fibers=>
   refine⟨[.slice none 0 0,.int .i64 c],⟨rfl,.inr ⟨B,1,#[.slice none 0 0,.int .i64 c],rfl,Nat.le_refl _,i,Nat.le_refl _,by decide,rfl,rfl⟩⟩,fun k h=>?_⟩;obtain rfl:k=0:=by simp[cK]at h;exact h
   exact⟨rfl,rfl⟩
  |out=>exact World.ownsRow_nil _ _ _ _
  |frames d=>
   obtain rfl:d=0:=by simp[live,cK]at a;exact a
   exact⟨[],World.ownsRow_nil _ _ _ _,fun p j=>by simp[jC]at j⟩
  |locals d m=>
   obtain rfl:d=0:=by have:=a.1;simp[cK]at this;exact this
   have:=a.2;simp[jC]at this
  |stack d m=>
   obtain rfl:d=0:=by have:=a.1;simp[cK]at this;exact this
   have:=a.2;simp[jC]at this
 ·by_cases g:b=.I
  ·by_cases h2:l=.I;·rw[g,h2]
   ·simp only[if_neg h2]at f;cases f
  ·simp only[if_neg g]at e;cases e
theorem Own.base{base e:Nat}{w:World}{V:Key→Value}{s:St}(f:Own base w V s)(a:e≤base):Own e w V s:=⟨fun h i=>by
 have:=f.piece h i;cases h using Key.by with
 |fibers=>obtain⟨d,b,c⟩:=this;exact⟨d,jw b a,c⟩
 |out=>exact jw this a
 |frames g=>obtain⟨d,b,c⟩:=this;exact⟨d,jw b a,c⟩
 |locals g j=>exact jw this a
 |stack g j=>exact jw this a,f.apart⟩
