import Derived.Test.YtokhibfenccijaaGreatDoorQB39
import Derived.Test.YtokhibfenccijaaGreatDoorQB43
set_option maxRecDepth 100000
set_option maxHeartbeats 8000000
namespace Go.Proofs.YtokhibfenccijaaGreatDoor
open Go.Proofs.Tryz
open Go.RowKit Go.Maps
def mh(b:St)(a:List UInt8)(s:St)(c:Value)(w:World)(e:Ending)(w':World):Prop:=(b=s∧e=.returned (.tuple #[c,.string ⟨a.toArray⟩])∧J w w')∨hU b [.string ⟨a.toArray⟩] w e w'
theorem nS(l:List Int):Lib.join (if aP l=[]then[[45]]else aP l) [32]=lj l:=by
 unfold lj;cases l with
 |nil=>rfl
 |cons b a=>rw[if_neg (by simp[aP]),if_neg (by simp)]
theorem Jo{p:List Fn}(e:aL p=0):∃b:Nat→Int,(b 0=0∧∀a,a<p.length→b (a+1)=b a+((dQ p a).code.length:Int)∧0≤b a∧b a≤100000∧(dQ p a).code.length≤1000)∧b p.length=dC (eT p):=by
 have j:eT p=ej p:=by unfold eT;rw[if_pos e]
 have m:=(fO e).1;have g:=(sh e).2;rw[j]at g⊢;refine⟨fun k=>dC ((List.range k).map (dQ p)),⟨rfl,fun a i=>?_⟩,rfl⟩;have f:∀c,c<p.length→(dQ p c).code.length≤1000:=fun c d=>g _ (List.mem_map.2 ⟨c,List.mem_range.2 d,rfl⟩);have:=rv ((List.range a).map (dQ p)) 1000 (fun l h=>by obtain⟨c,d,rfl⟩:=List.mem_map.1 h;exact f c (by have:=List.mem_range.1 d;omega));simp only[List.length_map,List.length_range]at this;exact⟨by simp[dC,List.range_succ],this.1,by show dC _≤100000;omega,f a i⟩
theorem kj{l a:List UInt8}(b:l≠a):((ByteArray.mk l.toArray).toList==a)=false:=by rw[ByteArray.toList_mk];simpa using b
theorem nQ(l:List UInt8):((ByteArray.mk l.toArray).toList==l)=true:=by rw[ByteArray.toList_mk];simp
theorem IB{p:List Fn}{s:St}(a:ba p s=0){n:Int}(b:0≤n)(c:n≤500):(be p s n).2.2≠3:=by unfold be;rw[if_pos (fM b c),if_pos a];have:=(rQ p n.toNat s).1;unfold dF at this;omega
theorem IC{p:List Fn}{s:St}{n:Int}(a:500<n):(be p s n).2.2=3:=by unfold be;rw[if_neg (by unfold ax;simp;omega)]
theorem FV(p:List Fn)(s:St)(l:List UInt8)(b7 a8:Value)(w:World)(k:aL p=0)(y:aK w b7 p)(M:cy w a8 s)(t:fG p s)(e4:l.length≤8192):Calls prog 23 #[b7,a8,.string ⟨l.toArray⟩] w (mh (aQ (opsOf p) s (ao 32 l)).1 (Lib.join (aQ (opsOf p) s (ao 32 l)).2 [32]) s a8 w):=by
 obtain⟨P,G,rfl,_,_⟩:=id y;obtain⟨e7,e8,rfl,c0,b0⟩:=id M;obtain⟨a5,T,rfl,_,_⟩:=id c0;obtain⟨a6,V,rfl,_,_⟩:=id b0;have e5:=oI t.1;have j:Hid (∀r,aI r→∀a:World,Calls prog 11 #[.int .i64 r] a fun f i=>f=.returned (aG (Lib.itoa r))∧J a i):=R fun r k a=>tF k a;have a4:aI 1:=by unfold aI;omega
 have c7:aI 3:=by unfold aI;omega
 have n:∀Q:List (List UInt8),aQ (opsOf p) s (ao 32 l)=(s,Q)→gZ w (.slice P p.length G) ⟨l.toArray⟩ a5 s.I.length T s.now a6 s.out.length V ⟨(Lib.join Q [32]).toArray⟩→Calls prog 23 #[.slice P p.length G,.agg #[.slice a5 s.I.length T,.int .i64 s.now,.slice a6 s.out.length V],.string ⟨l.toArray⟩] w (mh (aQ (opsOf p) s (ao 32 l)).1 (Lib.join (aQ (opsOf p) s (ao 32 l)).2 [32]) s (.agg #[.slice a5 s.I.length T,.int .i64 s.now,.slice a6 s.out.length V]) w):=fun Q a0 h2=>by rw[a0];exact h2.mono fun _ _⟨h3,x⟩=>.inl ⟨rfl,h3,x⟩
 by_cases W:l=[111,117,116];·subst W;refine n _ rfl ?_;rw[nS];exact Ge w _ _ _ _ _ _ _ _ _ (R fun a c=>nY a _ s.out (b0.kept c) ⟨by omega,t.2.out⟩ j)
 by_cases D:l=[108,105,110,101];·subst D;refine n _ rfl ?_;rw[nS];exact Ga w _ _ _ _ _ _ _ _ _ (R fun a c=>(wD p s _ a (M.kept c) t.1).mono fun f i⟨e1,h,h2,h3⟩=>by obtain⟨u,b,e,rfl,x⟩:=nP h2;exact⟨u,b,e,h,R fun a9 a3=>nY a9 _ _ (x.kept a3) (rf t.1) j,h3⟩)
 by_cases X:l=[107,105,110,100,115];·subst X;refine n _ rfl ?_;rw[nS];exact FZ w _ _ _ _ _ _ _ _ _ (fun m=>eP p s m) (by omega) (R fun a m c L=>Di p s m _ _ a (y.kept c) (M.kept c) t.1 L) (R fun a b6 c c6=>nY a b6 _ c6 ⟨by simp;omega,fun r k=>by obtain⟨m,_,rfl⟩:=List.mem_map.1 k;exact qW p s m⟩ j)
 by_cases Y:l=[116,114,105,109];·subst Y;obtain⟨b9,a0,h2⟩:=Jo k;obtain⟨H,_,c3⟩:=fO k;refine n [Lib.itoa (dC (eT p))] rfl ?_;rw[Lib.join_one];exact Gg w P _ G _ _ _ _ _ _ _ _ (fun m=>(dQ p m).code.length) b9 H a0 (R fun a m c L=>(GK p _ m a (y.kept c) (c3 m L) (mR k L)).mono fun f i⟨e3,h,⟨c8,b8,D,_⟩,c4⟩=>by subst D;exact⟨_,_,c8,b8,h,c4⟩) (R fun a _=>by rw[h2];exact tF (xm k) a)
 by_cases Z:l=[97,103,97,105,110];·subst Z;exact(FU w _ _ _ _ _ _ _ _ (aS p) (R fun a c=>wu p _ a (y.kept c) k)).mono fun _ _ E=>.inr E
 have b3:pK ⟨l.toArray⟩:=⟨kj W,kj D,kj X,kj Y,kj Z⟩;have b5:∀a,Calls prog 43 #[.string ⟨l.toArray⟩,.int .u8 32] a fun f i=>∃v e C,f=.returned (.slice (some ⟨v,0,none⟩) (ao 32 l).length e)∧sL i v C (ao 32 l)∧J a i:=fun a=>(rP a l 32 (by omega)).mono fun f i⟨b6,h,h2,h3⟩=>by obtain⟨v,e,C,rfl,x⟩:=sp h2 (gV 32 l);exact⟨v,e,C,h,x,h3⟩
 have a1:=nT 32 l;generalize ao 32 l=F at*;by_cases h2:F.length≠2;·refine n (br 1) ?_ (Gb w _ _ _ _ _ _ _ _ _ _ F.length (by rw[bne_iff_ne];exact fun f=>h2 (by omega)) b3 (R fun a _=>(b5 a).mono fun f i⟨v,e,C,h,_,h3⟩=>⟨_,e,h,h3⟩) (lK w 1 a4 j));match F with|[]=>rfl|[g]=>rw[Lib.join_one]at a1;subst a1;unfold aQ dU kP;simp only;rw[if_neg W,if_neg D,if_neg X,if_neg Y,if_neg Z]|[g,d]=>exact absurd rfl h2|g::d::e2::Q=>rfl
 obtain⟨g,d,rfl⟩:∃g d,F=[g,d]:=by match F,Decidable.not_not.1 h2 with|[g,d],_=>exact⟨g,d,rfl⟩
 have c2:d.length≤100000:=by have:=congrArg List.length a1;simp[Lib.join_cons,Lib.joinTail]at this;omega
 have z:jO w ⟨l.toArray⟩ ⟨g.toArray⟩ ⟨d.toArray⟩:=⟨b3,R fun a _=>(b5 a).mono fun f i⟨v,e,C,h,⟨q,b1⟩,h3⟩=>⟨v,e,h,by rw[ab q];exact b1 0 g rfl,by rw[ab q];exact b1 1 d rfl,h3⟩⟩;have b4:∀r,dy d=r→dS w 44 #[.string ⟨d.toArray⟩] (.int .i64 r):=fun r E=>R fun a _=>by rw[←E];exact rq a d c2
 cases K:cu d with
 |none=>refine n (br 1) ?_ (Gc w _ _ _ _ _ _ _ _ _ _ _ _ (-1) z (b4 _ (Eu K)) (by omega) (lK w 1 a4 j));unfold aQ dU;simp only;rw[K]
 |some b=>
  obtain⟨c5,b2⟩:=Ev K;have B:=b4 b c5;have N:aQ (opsOf p) s [g,d]=match eV (opsOf p) s g b with|.inl (e0,l)=>(e0,if l=[]then[[45]]else l)|.inr f=>(s,br f):=by unfold aQ dU;simp only[K];rfl
  by_cases I:g=[115,116,101,112]
  ·subst I;by_cases H:b≤500
   ·have h:=IB t.1 b2 H;obtain⟨a7,e6⟩:=rK t.1 b;have c1:aI (be p s b).2.2:=by unfold dF at a7;unfold aI;omega
    have O:aQ (opsOf p) s [[115,116,101,112],d]=((be p s b).1,aP [((be p s b).2.1:Int)]++if(be p s b).2.2=0 then[]else br (be p s b).2.2):=by rw[N];unfold eV;rw[if_pos rfl,if_neg (show¬((opsOf p).run s b).2.2=3 from h)];simp only;rw[if_neg (by simp[aP])];rfl
    rw[O];exact(Gf w _ _ _ _ _ _ _ _ _ _ _ b (be p s b).1 (be p s b).2.1 (be p s b).2.2 z B (by omega) (by omega) (nQ _) (by unfold aI;omega) c1 (R fun a c=>GJ p s _ _ b a b2 H (y.kept c) (M.kept c) t) j).mono fun _ _ E=>.inr E
   ·refine n (br 3) ?_ (FW w _ _ _ _ _ _ _ _ _ _ _ _ b z B (by omega) (nQ _) (lK w 3 c7 j));rw[N];unfold eV;rw[if_pos rfl,if_pos (show((opsOf p).run s b).2.2=3 from IC (by omega))]
  ·have a2:=kj I;by_cases q:g=[104,101,105,103,104,116,115]
   ·subst q;have O:aQ (opsOf p) s [[104,101,105,103,104,116,115],d]=if(bH p b).2=0 then(s,if aP (bH p b).1=[]then[[45]]else aP (bH p b).1)else(s,br (bH p b).2):=by
     rw[N];unfold eV;rw[if_neg I,if_pos rfl];by_cases o:(bH p b).2=0;·rw[if_pos o,if_pos (show((opsOf p).Kg b).2=0 from o)];rfl
     ·rw[if_neg o,if_neg (show¬((opsOf p).Kg b).2=0 from o)];rfl
    have q:=qH k b;have S:∀a,J w a→Calls prog 54 #[.slice P p.length G,.int .i64 b] a fun f i=>∃u A e,f=.returned (.tuple #[.slice u A e,.int .i64 (bH p b).2])∧dS i 49 #[.slice u A e] (.string ⟨(lj (bH p b).1).toArray⟩)∧J a i:=fun a c=>(Cy p _ b a (y.kept c)).mono fun f i⟨e1,h,h2,h3⟩=>by obtain⟨u,A,e,rfl,x⟩:=nP h2;exact⟨u,A,e,h,R fun a9 a3=>nY a9 _ _ (x.kept a3) q.1 j,h3⟩
    by_cases o:(bH p b).2=0;·refine n _ (by rw[O,if_pos o]) ?_;rw[nS];rw[o]at S;exact FX w _ _ _ _ _ _ _ _ _ _ _ _ b z B (by omega) a2 (nQ _) (R S)
    ·refine n _ (by rw[O,if_neg o]) ?_;exact FY w _ _ _ _ _ _ _ _ _ _ _ _ b z B _ (by omega) (by rw[bne_iff_ne];exact o) a2 (nQ _) (lK w _ q.2 j) (R fun a c=>(S a c).mono fun _ _⟨u,A,e,a7,_,c9⟩=>⟨u,A,e,a7,c9⟩)
   ·refine n (br 1) ?_ (Gd w _ _ _ _ _ _ _ _ _ _ _ _ b z B (by omega) a2 (kj q) (lK w 1 a4 j));rw[N];unfold eV;rw[if_neg I,if_neg q]
theorem wW(c:UInt8):∀a:List UInt8,ao c (a++[c])=ao c a++[[]]
 |[]=>by simp[ao]
 |d::a=>by
  have f:=wW c a;rw[List.cons_append];unfold ao;rw[f];by_cases b:d=c;·rw[if_pos b,if_pos b];rfl
  ·rw[if_neg b,if_neg b];cases e:ao c a with
   |nil=>exact absurd e (gV c a)
   |cons g h=>rfl
theorem vg{b:List UInt8}{ls:List (List UInt8)}(a:dj b=some ls):ao 10 b=ls++[[]]∧(b=[]∨b[b.length-1]?=some 10):=by
 unfold dj at a;split at a;·rename_i c;cases a;subst c;exact⟨rfl,.inl rfl⟩
 ·split at a;·rename_i d;cases a;obtain⟨e,rfl⟩:=List.getLast?_eq_some_iff.1 d;rw[List.dropLast_concat];exact⟨wW 10 e,.inr (by simp)⟩
  ·cases a
theorem Dx{a:List UInt8}(b:dj a=none):∃c,a[a.length-1]?=some c∧c≠10∧0<a.length:=by
 unfold dj at b;split at b;·cases b
 ·split at b;·cases b
  ·rename_i e f;have g:0<a.length:=List.length_pos_iff.2 e;refine⟨a[a.length-1],List.getElem?_eq_getElem (by omega),fun d=>f ?_,g⟩;rw[List.getLast?_eq_getElem?,List.getElem?_eq_getElem (by omega),d]
theorem zx{a:List UInt8}{i:Nat}{d:UInt8}(b:a[i]?=some d):Lib.countByte (a.take (i+1)) 10=Lib.countByte (a.take i) 10+if d=10 then 1 else 0:=by unfold Lib.countByte;rw[List.take_add_one,b,List.count_append];simp[List.count_singleton]
theorem count_le(a:List UInt8)(i:Nat):Lib.countByte (a.take i) 10≤Lib.countByte a 10:=(List.take_sublist i a).count_le _
theorem tb(B:Nat)(w:World)(a b c:Value):aA B w (dP w B a b c):=(((aA.refl B w).setCell (.inl rfl) _).setCell (.inl rfl) _).setCell (.inl rfl) _
theorem mh.Kf{B:Nat}{s v:St}{n:List UInt8}{k:Option Addr}{q o:Nat}{c:Int}{t:Option Addr}{r p:Nat}{u w':World}{e:Ending}(f:mh v n s (.agg #[.slice k q o,.int .i64 c,.slice t r p]) u e w')(y:dL B u (.agg #[.slice k q o,.int .i64 c,.slice t r p]) s)(w:B<u.heap.size):∃j i b m l h d,e=.returned (.tuple #[.agg #[.slice j i b,.int .i64 m,.slice l h d],.string ⟨n.toArray⟩])∧dL B w' (.agg #[.slice j i b,.int .i64 m,.slice l h d]) v∧J u w':=by
 rcases f with⟨rfl,g,a⟩|⟨j,i,b,m,l,h,d,g,x,a⟩;·exact⟨_,_,_,_,_,_,_,g,y.x (.of a),a⟩
 ·exact⟨_,_,_,_,_,_,_,g,x.Kf w (fun _ _ _ f=>f),a⟩
def gy(w:World)(p:List Fn)(k:List UInt8)(B i a:Nat)(out:List UInt8)(wr:World):Prop:=∃(b:List (List UInt8))(h:Option Addr)(f d:Nat)(c:Int)(j:Option Addr)(g e:Nat),wr.heap[B]?=some (.cells #[.slice h f d,.int .i64 c,.slice j g e] 44)∧dL B wr (.agg #[.slice h f d,.int .i64 c,.slice j g e]) (aY (opsOf p) (aS p) b).1∧fG p (aY (opsOf p) (aS p) b).1∧out=(aY (opsOf p) (aS p) b).2∧out.length≤b.length*100001∧eM 10 k b a i∧J w wr
theorem gy.on{w:World}{p:List Fn}{b:List UInt8}{B i a:Nat}{out:List UInt8}{wr:World}(g:gy w p b B i a out wr){d:UInt8}(n:b[i]?=some d)(o:d≠10):gy w p b B (i+1) a out wr:=by obtain⟨u,s,q,e,c,t,r,f,h,h2,h3,j,k,l,m⟩:=g;exact⟨u,s,q,e,c,t,r,f,h,h2,h3,j,k,l.on n o,m⟩
theorem gy.last{w:World}{p:List Fn}{b:List UInt8}{B a:Nat}{out:List UInt8}{wr:World}(c:gy w p b B b.length a out wr){ls:List (List UInt8)}(f:dj b=some ls):out=(aY (opsOf p) (aS p) ls).2:=by obtain⟨g,_,_,_,_,_,_,_,_,_,_,d,_,e,_⟩:=c;have:=e.last.symm.trans (vg f).1;rw[d,(List.append_inj' this rfl).1]
theorem gy.hit{w:World}{p:List Fn}{b:List UInt8}{B i:Nat}{xs:List (List UInt8)}{a:Nat}{w':World}{h:Option Addr}{f d:Nat}{c:Int}{j:Option Addr}{g e:Nat}(n:∀k l,fG p k→fG p (aQ (opsOf p) k l).1∧(Lib.join (aQ (opsOf p) k l).2 [32]).length≤100000)(h3:fG p (aY (opsOf p) (aS p) xs).1)(u:(aY (opsOf p) (aS p) xs).2.length≤xs.length*100001)(m:eM 10 b xs a i)(q:b[i]?=some 10)(s:w'.heap[B]?=some (.cells #[.slice h f d,.int .i64 c,.slice j g e] 44))(o:dL B w' (.agg #[.slice h f d,.int .i64 c,.slice j g e]) (aQ (opsOf p) (aY (opsOf p) (aS p) xs).1 (ao 32 ((b.take i).drop a))).1)(r:J w w'):gy w p b B (i+1) (i+1) ((aY (opsOf p) (aS p) xs).2++Lib.join (aQ (opsOf p) (aY (opsOf p) (aS p) xs).1 (ao 32 ((b.take i).drop a))).2 [32]++[10]) w':=by
 obtain⟨t,v⟩:=n _ (ao 32 ((b.take i).drop a)) h3;refine⟨xs++[(b.take i).drop a],h,f,d,c,j,g,e,s,?_,?_,?_,?_,m.hit q,r⟩;·rw[mL];exact o
 ·rw[mL];exact t
 ·rw[mL,List.append_assoc]
 ·simp only[List.length_append,List.length_cons,List.length_nil];omega
theorem xc{w:World}{B:Nat}{x y z:Value}(a:w.heap[B]?=some (.cells #[x,y,z] 44))(b c d:Value):(w.cell? ⟨B,0,none⟩=some x∧w.cell? ⟨B,1,none⟩=some y∧w.cell? ⟨B,2,none⟩=some z∧w.frozen? ⟨B,0,none⟩=false∧w.frozen? ⟨B,1,none⟩=false∧w.frozen? ⟨B,2,none⟩=false)∧(dP w B b c d).heap[B]?=some (.cells #[b,c,d] 44):=⟨⟨ab a 0,ab a 1,ab a 2,an a 0,an a 1,an a 2⟩,ay (ay (ay a 0 b) 1 c) 2 d⟩
theorem gy.start{w w2:World}{p:List Fn}(h:List UInt8){f:Option Addr}{d a:Nat}{c:Int}{g:Option Addr}{e b:Nat}(o:aL p=0)(l:eX w.heap.size w2 (.agg #[.slice f d a,.int .i64 c,.slice g e b]) (aS p))(k:J w w2):gy w p h w2.heap.size 0 0 [] (w2.alloc (.cells #[.slice f d a,.int .i64 c,.slice g e b] 44)):=⟨[],f,d,a,c,g,e,b,ah rfl,fun r n=>l r fun j c q _ m i=>n j c q (by have:=(Array.getElem?_eq_some_iff.1 i).1;omega) m (au i _),⟨pT o,aV.begin p⟩,rfl,Nat.zero_le _,eM.start 10 h,k.alloc _⟩
def kx(p:List Fn)(a:List UInt8):List UInt8×Int:=if a.length≤8192∧Lib.countByte a 10≤40 then match dj a with|some b=>((aY (opsOf p) (aS p) b).2,0)|none=>([],1)else([],2)
theorem FL(w:World)(S a:List UInt8)(p:List Fn)(k0:S.length≤8192)(m2:a.length≤9223372036854775807)(h0:aL p=0)(e3:∀b1 i0,fG p b1→fG p (aQ (opsOf p) b1 i0).1∧(Lib.join (aQ (opsOf p) b1 i0).2 [32]).length≤100000)(c2:Hid (∀d,J w d→Calls prog 21 #[.string ⟨S.toArray⟩] d fun E q=>∃X t c8,E=.returned (.tuple #[.slice X t c8,.bool true])∧aK q (.slice X t c8) p∧J d q)):Calls prog 6 #[.string ⟨S.toArray⟩,.string ⟨a.toArray⟩] w fun E q=>E=.returned (.tuple #[.string ⟨(kx p a).1.toArray⟩,.int .i64 (kx p a).2])∧J w q:=by
 have n1:(ByteArray.mk a.toArray).size=a.length:=by simp[ByteArray.size]
 have k7:(ByteArray.mk S.toArray).size=S.length:=by simp[ByteArray.size]
 have j6:¬(8192:Int)<(S.length:Int):=by omega
 have s:Hid (∀(c:Nat)(M:UInt8),a[c]?=some M→∀d,(Instr.index 9 (.string ⟨a.toArray⟩) (.int .i64 (c:Int))).run prog d=.ok (.int .u8 (M.toNat:Nat)) d):=R (fun c M A d=>qJ A d);have z:Hid (∀(e b:Nat),e≤b→b≤a.length→∀d,(Instr.slice 9 (.string ⟨a.toArray⟩) (some (.int .i64 (e:Int))) (some (.int .i64 (b:Int))) none).run prog d=.ok (.string ⟨((a.take b).drop e).toArray⟩) d):=R (fun e b F h2 d=>wU a e b F h2 d);have i7:=R (show kx p a=kx p a from rfl);generalize e5:kx p a=c7 at*;have Z:=R e5;have K:=R e3;have Q:=R h0;generalize e4:a.length=t at*;have u:=R e4;generalize(ByteArray.mk a.toArray)=i9 at*;generalize(ByteArray.mk S.toArray)=l7 at*;generalize S.length=n2 at*;clear e5 e3 h0 e4 k0 i7;go_enter func6,ntmps6;go_wp2_with fail;refine((U c2) _ (J.refl w)).mono ?_;rintro _ N⟨X,h7,e1,rfl,g7,h1⟩;have c1:=R g7;have L:=R h1;clear g7 h1 c2 j6 k7;go_wp2_with fail;go_loopw[8,9](fun l1 b3 wr=>∃b:Nat,b≤t∧b3=.int .i64 (b:Int)∧l1=.int .i64 (Lib.countByte (a.take b) 10:Nat)∧Lib.countByte (a.take b) 10≤41∧wr=N)(fun _ b3 _=>t-(intOf b3).toNat);case atStart=>exact⟨0,Nat.zero_le _,rfl,by simp[Lib.countByte],by simp[Lib.countByte],rfl⟩
 case round=>
  obtain⟨b,k3,rfl,rfl,j5,a8⟩:=hrel;replace a8:=a8.symm;subst a8;have a6:=count_le a b;by_cases e9:b<t∧Lib.countByte (a.take b) 10≤40
  ·obtain⟨k2,m5⟩:=e9;obtain⟨f,g⟩:∃f,a[b]?=some f:=⟨_,List.getElem?_eq_getElem (by rw[U u];exact k2)⟩;have C:=(U s) b f g;have W:=zx g;generalize Lib.countByte (a.take b) 10=v at*;have m6:(b:Int)<(t:Int):=by omega
   have m4:(v:Int)≤40:=by omega
   by_cases B:f=10
   ·subst B;rw[if_pos rfl]at W;have O:=R W;clear W g a6 s z;go_wp2_with fail;go_roundw;case rel=>exact⟨b+1,by omega,by go_num,by rw[U O];go_num,by rw[U O];omega,trivial⟩
    case measure=>simp[intOf];omega
   ·have O:Hid (Lib.countByte (a.take (b+1)) 10=v):=R (by rw[W,if_neg B];rfl);have g3:((f.toNat:Int)==10)=false:=by simp only[beq_eq_false_iff_ne,ne_eq];intro E;exact B (UInt8.toNat_inj.1 (by have:(10:UInt8).toNat=10:=rfl;omega))
    generalize f.toNat=c6 at*;clear W g a6 s z;go_wp2_with fail;go_roundw;case rel=>exact⟨b+1,by omega,by go_num,by rw[U O],by rw[U O];omega,trivial⟩
    case measure=>simp[intOf];omega
  ·by_cases g6:t≤8192∧Lib.countByte (a.take b) 10≤40
   ·obtain⟨m9,a1⟩:=g6;obtain rfl:b=t:=by omega
    have e6:a.take b=a:=by rw[←U u];exact List.take_length
    rw[e6]at a1⊢;have a0:Hid (c7=match dj a with|some b0=>((aY (opsOf p) (aS p) b0).2,0)|none=>([],1)):=R (by rw[←U Z];unfold kx;rw[if_pos ⟨by have:=U u;omega,a1⟩]);have b8:=R a1;generalize Lib.countByte a 10=v at*;have h3:¬(b:Int)<(b:Int):=by omega
    have F:¬(8192:Int)<(b:Int):=by omega
    have e2:¬(40:Int)<(v:Int):=by omega
    clear Z e9 k3 j5 a6 a1 e6;cases o:dj a with
    |none=>
     obtain⟨f,g,e7,I⟩:=Dx o;have G:=U a0;rw[o]at G;subst G;have C:=(U s) _ f g;rw[U u]at C I;rw[show((b-1:Nat):Int)=(b:Int)-1 by omega]at C;have a5:(0:Int)<(b:Int):=by omega
     have g3:((f.toNat:Int)!=10)=true:=by rw[bne_iff_ne];intro E;exact e7 (UInt8.toNat_inj.1 (by have:(10:UInt8).toNat=10:=rfl;omega))
     generalize f.toNat=c6 at*;clear s z K Q a0 o g e7 b8;go_wp2_with fail;go_ret2;exact⟨rfl,U L⟩
    |some b0=>
     have i4:=R o;have g1:=(vg o).2;have G:=U a0;rw[o]at G;subst G;have b5:Hid (∀d,J N d→Calls prog 22 #[.slice X h7 e1] d (pJ (aS p) d)):=R fun d a3=>wu p _ d ((U c1).kept a3) (U Q);have b9:Hid ((0:Int)<(b:Int)→∀d,(Instr.index 9 (.string i9) (.int .i64 ((b:Int)-1))).run prog d=.ok (.int .u8 10) d):=R fun a5 d=>by
      have g:a[a.length-1]?=some 10:=by
       rcases g1 with A|A;·subst A;have:=U u;simp at this;omega
       ·exact A
      have C:=(U s) _ 10 g d;rw[U u,show((b-1:Nat):Int)=(b:Int)-1 by omega]at C;exact C
     clear o g1 a0 b8;by_cases a5:(0:Int)<(b:Int);all_goals try have m7:=(U b9) a5
     all_goals clear b9
     all_goals go_wp2_with fail
     all_goals
      refine((U b5) _ (J.refl _)).mono ?_;rintro _ h9⟨l,k,h,n,m,j,i,rfl,g4,a9⟩;have b4:=R (gy.start a (U Q) g4 a9);have i1:=R a9.size;clear g4 a9 b5;go_wp2_with fail;generalize h9.alloc (.cells #[.slice l k h,.int .i64 n,.slice m j i] 44)=n3 at*;generalize h9.heap.size=y at*;go_loopw[11,12,13](fun k8 k9 b2 wx=>∃(c e:Nat)(Y:List UInt8),c≤b∧k8=.string ⟨Y.toArray⟩∧k9=.int .i64 (e:Int)∧b2=.int .i64 (c:Int)∧Hid (gy N p a y c e Y wx))(fun _ _ b2 _=>b-(intOf b2).toNat);case atStart=>exact⟨0,0,[],Nat.zero_le _,rfl,rfl,rfl,b4⟩
      case round=>
       obtain⟨c,e,Y,m8,rfl,rfl,rfl,D⟩:=hrel;clear b4;by_cases k4:c<b
       ·obtain⟨f,g⟩:∃f,a[c]?=some f:=⟨_,List.getElem?_eq_getElem (by rw[U u];exact k4)⟩;have C:=(U s) c f g;have k5:(c:Int)<(b:Int):=by omega
        by_cases B:f=10
        ·subst B;rw[show(((10:UInt8).toNat:Nat):Int)=10 from rfl]at C;obtain⟨r,a4,h5,c9,M,h8,h6,e0,o,a7,a2,rfl,g5,I,H⟩:=U D;have n0:=(U z) e c I.le (by omega);have g9:r.length≤8192:=by have:=I.JV;have:=I.le;omega
         have g2:((a.take c).drop e).length≤8192:=by rw[List.length_drop,List.length_take];omega
         have c3:Hid (∀d,J wr d→Calls prog 23 #[.slice X h7 e1,.agg #[.slice a4 h5 c9,.int .i64 M,.slice h8 h6 e0],.string ⟨((a.take c).drop e).toArray⟩] d (mh (aQ (opsOf p) (aY (opsOf p) (aS p) r).1 (ao 32 ((a.take c).drop e))).1 (Lib.join (aQ (opsOf p) (aY (opsOf p) (aS p) r).1 (ao 32 ((a.take c).drop e))).2 [32]) (aY (opsOf p) (aS p) r).1 (.agg #[.slice a4 h5 c9,.int .i64 M,.slice h8 h6 e0]) d)):=R fun d a3=>FV p _ _ _ _ d (U Q) ((U c1).kept (H.trans a3)) (a7.x (.of a3)).at a2 g2;have i6:Hid (∀q l k h n m j i,q.heap[y]?=some (.cells #[.slice l k h,.int .i64 n,.slice m j i] 44)→dL y q (.agg #[.slice l k h,.int .i64 n,.slice m j i]) (aQ (opsOf p) (aY (opsOf p) (aS p) r).1 (ao 32 ((a.take c).drop e))).1→J N q→gy N p a y (c+1) (c+1) ((aY (opsOf p) (aS p) r).2++Lib.join (aQ (opsOf p) (aY (opsOf p) (aS p) r).1 (ao 32 ((a.take c).drop e))).2 [32]++[10]) q):=R fun q l k h n m j i F h2 h3=>gy.hit (U K) a2 g5 I g F h2 h3;have k6:=((U K) (aY (opsOf p) (aS p) r).1 (ao 32 ((a.take c).drop e)) a2).2;have k1:r.length*100001≤8192*100001:=Nat.mul_le_mul_right _ g9;generalize(aY (opsOf p) (aS p) r).2=T at*;generalize(Lib.join (aQ (opsOf p) (aY (opsOf p) (aS p) r).1 (ao 32 ((a.take c).drop e))).2 [32])=V at*;obtain⟨l2,l4⟩:=jI T V (by omega);obtain⟨l3,c5⟩:=jI (T++V) [10] (by simp only[List.length_append,List.length_cons,List.length_nil];omega);have b7:=R a7;have c0:=R o;have j7:y<wr.heap.size:=(Array.getElem?_eq_some_iff.1 o).1;have i3:=R H;obtain⟨⟨j1,j2,j3,-,-,-⟩,-⟩:=xc o undef undef undef;generalize(ByteArray.mk ((a.take c).drop e).toArray)=l5 at*;generalize m3:(ByteArray.mk V.toArray)=j0 at*;generalize m1:(ByteArray.mk T.toArray)=l6 at*;generalize(ByteArray.mk (T++V).toArray)=i8 at*;replace c5:¬9223372036854775807<i8.size+1:=c5;clear g s z D a7 o a2 g5 I H k6 k1 g2 g9 K;go_wp2_with fail;go_cut[14](fun l0 wx=>l0=.string j0∧Hid (∃l k h n m j i,wx.heap[y]?=some (.cells #[.slice l k h,.int .i64 n,.slice m j i] 44)∧dL y wx (.agg #[.slice l k h,.int .i64 n,.slice m j i]) (aQ (opsOf p) (aY (opsOf p) (aS p) r).1 (ao 32 ((a.take c).drop e))).1∧J N wx));case first=>
          go_region_with(go_at_call 23;refine((U c3) _ ?_).mono ?_;(exact(J.refl _).drew);intro E q j9;obtain⟨l,k,h,n,m,j,i,rfl,e8,g0⟩:=j9.Kf ((U b7).x (.of ((J.refl _).drew))) j7;have H:=(J.refl wr).drew.trans g0;obtain⟨⟨n4,n5,n6,l8,l9,m0⟩,h4⟩:=xc (aw H (U c0)) (.slice l k h) (.int .i64 n) (.slice m j i);have P:=R (And.intro h4 (And.intro (e8.x (tb y q (.slice l k h) (.int .i64 n) (.slice m j i))) H));clear h4 H g0 e8);all_goals go_wp2_with fail
          all_goals go_meet
          all_goals exact⟨rfl,R ⟨_,_,_,_,_,_,_,(U P).1,(U P).2.1,aA.kept ((U i3).trans (U P).2.2) (U i1) (tb _ _ _ _ _)⟩⟩
         case rest=>
          obtain⟨rfl,P⟩:=hcut;clear c3 b7 c0 j1 j2 j3;go_wp2_with fail;go_roundw;case rel=>exact⟨c+1,c+1,T++V++[10],by omega,by rw[List.append_assoc],by go_num,by go_num,R (by obtain⟨l,k,h,n,m,j,i,F,h2,h3⟩:=U P;exact(U i6) _ l k h n m j i F h2 h3)⟩
          case measure=>simp[intOf];omega
        ·have i5:=R ((U D).on g B);have g3:((f.toNat:Int)==10)=false:=by simp only[beq_eq_false_iff_ne,ne_eq];intro E;exact B (UInt8.toNat_inj.1 (by have:(10:UInt8).toNat=10:=rfl;omega))
         generalize f.toNat=c6 at*;clear g s z D B;go_wp2_with fail;go_roundw;case rel=>exact⟨c+1,e,Y,by omega,rfl,rfl,by go_num,i5⟩
         case measure=>simp[intOf];omega
       ·obtain rfl:c=b:=by omega
        have k5:¬(c:Int)<(c:Int):=by omega
        have b6:Hid (Y=(aY (opsOf p) (aS p) b0).2):=R (by have g8:=U D;rw[←U u]at g8;exact g8.last (U i4));have i2:Hid (J w wr):=R (by obtain⟨_,_,_,_,_,_,_,_,_,_,_,_,_,_,A⟩:=U D;exact(U L).trans A);have j8:=U b6;clear D s z K b6;subst j8;go_wp2_with fail;go_ret2;exact⟨rfl,U i2⟩
   ·have c4:Hid (c7=([],2)):=R (by rw[←U Z];unfold kx;rw[if_neg (fun A=>g6 ⟨by have:=U u;omega,by omega⟩)]);generalize Lib.countByte (a.take b) 10=v at*;clear s z Z K Q;have G:=U c4;clear c4;subst G;by_cases h3:(b:Int)<(t:Int)<;>by_cases F:(8192:Int)<(t:Int)
    ·have j4:¬(v:Int)≤40:=by omega
     go_wp2_with fail;go_ret2;exact⟨rfl,U L⟩
    ·have j4:¬(v:Int)≤40:=by omega
     have e2:(40:Int)<(v:Int):=by omega
     go_wp2_with fail;go_ret2;exact⟨rfl,U L⟩
    ·go_wp2_with fail;go_ret2;exact⟨rfl,U L⟩
    ·have e2:(40:Int)<(v:Int):=by omega
     go_wp2_with fail;go_ret2;exact⟨rfl,U L⟩
theorem th:aL aM=0:=by decide+kernel
theorem eB{a:dt}{s b:St}{l:List UInt8}{ls c:List (List UInt8)}(d:aQ a s (ao 32 l)=(b,c)):(aY a s (l::ls)).2=(Lib.join c [32]++[10])++(aY a b ls).2:=by simp only[aY,d]
theorem gA{a:dt}{s b:St}{c l:List (List UInt8)}(d:dU a s c=.inl (b,l))(e:l≠[]):aQ a s c=(b,l):=by unfold aQ;rw[d];simp[e]
theorem pP{a:dt}{s b:St}{c:List (List UInt8)}(d:dU a s c=.inl (b,[])):aQ a s c=(b,[[45]]):=by unfold aQ;rw[d];rfl
theorem pQ{a:dt}{s:St}{z:Int}{b:List (List UInt8)}(c:dU a s b=.inr z):aQ a s b=(s,br z):=by unfold aQ;rw[c]
theorem tI(a:dt)(s:St):dU a s [[111,117,116]]=.inl (s,aP s.out):=rfl
theorem qk(a:dt)(s:St):dU a s [[108,105,110,101]]=.inl (s,aP (a.line s)):=rfl
theorem qj(a:dt)(s:St):dU a s [[107,105,110,100,115]]=.inl (s,aP ((List.range s.I.length).map fun b=>a.kind s b)):=rfl
theorem As(a:dt)(s:St):dU a s [[116,114,105,109]]=.inl (s,aP [dC a.trim]):=rfl
theorem Ag(a:dt)(s:St):dU a s [[97,103,97,105,110]]=.inl (a.JS,[[111,107]]):=rfl
theorem mr(a:dt)(s:St){b:List UInt8}{n:Int}(c:cu b=some n):dU a s [[115,116,101,112],b]=(if(a.run s n).2.2=3 then .inr 3 else .inl ((a.run s n).1,aP [((a.run s n).2.1:Int)]++if(a.run s n).2.2=0 then[]else br (a.run s n).2.2)):=by show(match cu b with|some n=>eV a s [115,116,101,112] n|none=>.inr 1)=_;rw[c];rfl
theorem tH(a:dt)(s:St){b:List UInt8}{n:Int}(c:cu b=some n):dU a s [[104,101,105,103,104,116,115],b]=(if(a.Kg n).2=0 then .inl (s,aP (a.Kg n).1)else .inr (a.Kg n).2):=by show(match cu b with|some n=>eV a s [104,101,105,103,104,116,115] n|none=>.inr 1)=_;rw[c];rfl
def sA:St:=(be aM (aS aM) 6).1
def sB:St:=(be aM sA 500).1
theorem qQ:Lib.itoa 0=[48]:=by simp[Lib.itoa,fL]
theorem qR:Lib.itoa 1=[49]:=by simp[Lib.itoa,fL]
theorem uF:Lib.itoa 2=[50]:=by simp[Lib.itoa,fL]
theorem uG:Lib.itoa 3=[51]:=by simp[Lib.itoa,fL]
theorem uH:Lib.itoa 5=[53]:=by simp[Lib.itoa,fL]
theorem uI:Lib.itoa 6=[54]:=by simp[Lib.itoa,fL]
theorem uJ:Lib.itoa 7=[55]:=by simp[Lib.itoa,fL]
theorem CX:Lib.itoa 8=[56]:=by simp[Lib.itoa,fL]
theorem CT:Lib.itoa 22=[50,50]:=by simp[Lib.itoa,jX,fL]
theorem CU:Lib.itoa 28=[50,56]:=by simp[Lib.itoa,jX,fL]
theorem CY:Lib.itoa 99=[57,57]:=by simp[Lib.itoa,jX,fL]
theorem CV:Lib.itoa 500=[53,48,48]:=by simp[Lib.itoa,jX,fL]
theorem CW:Lib.itoa 501=[53,48,49]:=by simp[Lib.itoa,jX,fL]
theorem En:cu [50]=some 2:=by rw[←uF];exact km (by omega) (by omega)
theorem Eo:cu [51]=some 3:=by rw[←uG];exact km (by omega) (by omega)
theorem vt:cu [53]=some 5:=by rw[←uH];exact km (by omega) (by omega)
theorem Es:cu [54]=some 6:=by rw[←uI];exact km (by omega) (by omega)
theorem Ep:cu [53,48,48]=some 500:=by rw[←CV];exact km (by omega) (by omega)
theorem Er:cu [53,48,49]=some 501:=by rw[←CW];exact km (by omega) (by omega)
theorem Hi:(be aM (aS aM) 6).2=(6,0):=by decide+kernel
theorem Hl:(be aM sA 500).2=(22,0):=by decide+kernel
theorem k0:(List.range (aS aM).I.length).map (fun a=>eP aM (aS aM) a)=[1]:=by decide+kernel
theorem l0:dx aM (aS aM)=[0]:=by decide+kernel
theorem kA:(List.range sA.I.length).map (fun a=>eP aM sA a)=[2,1]:=by decide+kernel
theorem lA:dx aM sA=[1,0]:=by decide+kernel
theorem oA:sA.out=[]:=by decide+kernel
theorem oB:sB.out=[7,8,99]:=by decide+kernel
theorem kB:(List.range sB.I.length).map (fun a=>eP aM sB a)=[0,0]:=by decide+kernel
theorem lB:dx aM sB=[]:=by decide+kernel
theorem h2:bH aM 2=([0,1,2,1],0):=by decide+kernel
theorem h3:(bH aM 3).2=5:=by decide+kernel
theorem tC:dC (eT aM)=28:=by decide+kernel
theorem Gz:(be aM (aS aM) 501).2.2=3:=by decide+kernel
def T1:List UInt8:=[107,105,110,100,115,10,108,105,110,101,10,115,116,101,112,32,54,10,107,105,110,100,115,10,108,105,110,101,10,111,117,116,10,115,116,101,112,32,53,48,48,10,111,117,116,10,107,105,110,100,115,10,108,105,110,101,10,104,101,105,103,104,116,115,32,50,10,104,101,105,103,104,116,115,32,51,10,116,114,105,109,10,97,103,97,105,110,10,115,116,101,112,32,53,48,49,10,115,116,101,112,10,111,117,116,10]
theorem xQ:dj T1=some [[107,105,110,100,115],[108,105,110,101],[115,116,101,112,32,54],[107,105,110,100,115],[108,105,110,101],[111,117,116],[115,116,101,112,32,53,48,48],[111,117,116],[107,105,110,100,115],[108,105,110,101],[104,101,105,103,104,116,115,32,50],[104,101,105,103,104,116,115,32,51],[116,114,105,109],[97,103,97,105,110],[115,116,101,112,32,53,48,49],[115,116,101,112],[111,117,116]]:=by decide+kernel
theorem Hv:ao 32 [107,105,110,100,115]=[[107,105,110,100,115]]:=by decide+kernel
theorem Hw:ao 32 [108,105,110,101]=[[108,105,110,101]]:=by decide+kernel
theorem If:ao 32 [115,116,101,112,32,54]=[[115,116,101,112],[54]]:=by decide+kernel
theorem Ig:ao 32 [107,105,110,100,115]=[[107,105,110,100,115]]:=by decide+kernel
theorem Ih:ao 32 [108,105,110,101]=[[108,105,110,101]]:=by decide+kernel
theorem Ii:ao 32 [111,117,116]=[[111,117,116]]:=by decide+kernel
theorem Ij:ao 32 [115,116,101,112,32,53,48,48]=[[115,116,101,112],[53,48,48]]:=by decide+kernel
theorem Ik:ao 32 [111,117,116]=[[111,117,116]]:=by decide+kernel
theorem Il:ao 32 [107,105,110,100,115]=[[107,105,110,100,115]]:=by decide+kernel
theorem Im:ao 32 [108,105,110,101]=[[108,105,110,101]]:=by decide+kernel
theorem Hx:ao 32 [104,101,105,103,104,116,115,32,50]=[[104,101,105,103,104,116,115],[50]]:=by decide+kernel
theorem Hy:ao 32 [104,101,105,103,104,116,115,32,51]=[[104,101,105,103,104,116,115],[51]]:=by decide+kernel
theorem Hz:ao 32 [116,114,105,109]=[[116,114,105,109]]:=by decide+kernel
theorem Ia:ao 32 [97,103,97,105,110]=[[97,103,97,105,110]]:=by decide+kernel
theorem Ib:ao 32 [115,116,101,112,32,53,48,49]=[[115,116,101,112],[53,48,49]]:=by decide+kernel
theorem Ic:ao 32 [115,116,101,112]=[[115,116,101,112]]:=by decide+kernel
theorem Ie:ao 32 [111,117,116]=[[111,117,116]]:=by decide+kernel
theorem a0:aQ (opsOf aM) (aS aM) (ao 32 [107,105,110,100,115])=(aS aM,[Lib.itoa 1]):=by rw[Hv];exact gA ((qj _ _).trans (by rw[show((List.range (aS aM).I.length).map fun a=>(opsOf aM).kind (aS aM) a)=[1]from k0];rfl)) (by simp)
theorem a1:aQ (opsOf aM) (aS aM) (ao 32 [108,105,110,101])=(aS aM,[Lib.itoa 0]):=by rw[Hw];exact gA ((qk _ _).trans (by rw[show(opsOf aM).line (aS aM)=[0]from l0];rfl)) (by simp)
theorem a2:aQ (opsOf aM) (aS aM) (ao 32 [115,116,101,112,32,54])=(sA,[Lib.itoa 6]):=by rw[If];refine gA ((mr _ _ Es).trans ?_) (by simp);rw[show((opsOf aM).run (aS aM) 6).2=(6,0)from Hi];rfl
theorem a3:aQ (opsOf aM) sA (ao 32 [107,105,110,100,115])=(sA,[Lib.itoa 2,Lib.itoa 1]):=by rw[Ig];exact gA ((qj _ _).trans (by rw[show((List.range sA.I.length).map fun a=>(opsOf aM).kind sA a)=[2,1]from kA];rfl)) (by simp)
theorem a4:aQ (opsOf aM) sA (ao 32 [108,105,110,101])=(sA,[Lib.itoa 1,Lib.itoa 0]):=by rw[Ih];exact gA ((qk _ _).trans (by rw[show(opsOf aM).line sA=[1,0]from lA];rfl)) (by simp)
theorem a5:aQ (opsOf aM) sA (ao 32 [111,117,116])=(sA,[[45]]):=by rw[Ii];exact pP ((tI _ _).trans (by rw[oA];rfl))
theorem a6:aQ (opsOf aM) sA (ao 32 [115,116,101,112,32,53,48,48])=(sB,[Lib.itoa 22]):=by rw[Ij];refine gA ((mr _ _ Ep).trans ?_) (by simp);rw[show((opsOf aM).run sA 500).2=(22,0)from Hl];rfl
theorem a7:aQ (opsOf aM) sB (ao 32 [111,117,116])=(sB,[Lib.itoa 7,Lib.itoa 8,Lib.itoa 99]):=by rw[Ik];exact gA ((tI _ _).trans (by rw[oB];rfl)) (by simp)
theorem a8:aQ (opsOf aM) sB (ao 32 [107,105,110,100,115])=(sB,[Lib.itoa 0,Lib.itoa 0]):=by rw[Il];exact gA ((qj _ _).trans (by rw[show((List.range sB.I.length).map fun a=>(opsOf aM).kind sB a)=[0,0]from kB];rfl)) (by simp)
theorem a9:aQ (opsOf aM) sB (ao 32 [108,105,110,101])=(sB,[[45]]):=by rw[Im];exact pP ((qk _ _).trans (by rw[show(opsOf aM).line sB=[]from lB];rfl))
theorem xT:aQ (opsOf aM) sB (ao 32 [104,101,105,103,104,116,115,32,50])=(sB,[Lib.itoa 0,Lib.itoa 1,Lib.itoa 2,Lib.itoa 1]):=by rw[Hx];refine gA ((tH _ _ En).trans ?_) (by simp);rw[show(opsOf aM).Kg 2=([0,1,2,1],0)from h2];rfl
theorem xU:aQ (opsOf aM) sB (ao 32 [104,101,105,103,104,116,115,32,51])=(sB,br 5):=by rw[Hy];refine pQ ((tH _ _ Eo).trans ?_);rw[show((opsOf aM).Kg 3).2=5 from h3];rfl
theorem a12:aQ (opsOf aM) sB (ao 32 [116,114,105,109])=(sB,[Lib.itoa 28]):=by rw[Hz];exact gA ((As _ _).trans (by rw[show dC (opsOf aM).trim=28 from tC];rfl)) (by simp)
theorem xV:aQ (opsOf aM) sB (ao 32 [97,103,97,105,110])=(aS aM,[[111,107]]):=by rw[Ia];exact gA (Ag _ _) (by simp)
theorem xW:aQ (opsOf aM) (aS aM) (ao 32 [115,116,101,112,32,53,48,49])=(aS aM,br 3):=by rw[Ib];refine pQ ((mr _ _ Er).trans ?_);rw[if_pos (show((opsOf aM).run (aS aM) 501).2.2=3 from Gz)]
theorem xX:aQ (opsOf aM) (aS aM) (ao 32 [115,116,101,112])=(aS aM,br 1):=by rw[Ic];exact pQ rfl
theorem xY:aQ (opsOf aM) (aS aM) (ao 32 [111,117,116])=(aS aM,[[45]]):=by rw[Ie];exact pP rfl
theorem Fy:(aY (opsOf aM) (aS aM) [[107,105,110,100,115],[108,105,110,101],[115,116,101,112,32,54],[107,105,110,100,115],[108,105,110,101],[111,117,116],[115,116,101,112,32,53,48,48],[111,117,116],[107,105,110,100,115],[108,105,110,101],[104,101,105,103,104,116,115,32,50],[104,101,105,103,104,116,115,32,51],[116,114,105,109],[97,103,97,105,110],[115,116,101,112,32,53,48,49],[115,116,101,112],[111,117,116]]).2=[49,10,48,10,54,10,50,32,49,10,49,32,48,10,45,10,50,50,10,55,32,56,32,57,57,10,48,32,48,10,45,10,48,32,49,32,50,32,49,10,101,114,114,111,114,32,53,10,50,56,10,111,107,10,101,114,114,111,114,32,51,10,101,114,114,111,114,32,49,10,45,10]:=by rw[eB a0,eB a1,eB a2,eB a3,eB a4,eB a5,eB a6,eB a7,eB a8,eB a9,eB xT,eB xU,eB a12,eB xV,eB xW,eB xX,eB xY];simp[aY,br,qQ,qR,uF,uG,uH,uI,uJ,CX,CT,CU,CY,Lib.join_cons,Lib.joinTail]
def eR:List Fn:=[⟨0,0,[(0,1),(15,0),(12,0)]⟩]
theorem FE:aL eR=0:=by decide+kernel
theorem FF:bI eR=[102,117,110,99,32,48,32,48,10,112,117,115,104,32,49,10,121,105,101,108,100,10,114,101,116,117,114,110,10]:=by simp[bI,eR,bL,cM,cJ,aJ,qQ,qR,Lib.join_cons,Lib.joinTail]
def T2:List UInt8:=[115,116,101,112,32,53,10,115,116,101,112,32,53,10]
theorem xR:dj T2=some [[115,116,101,112,32,53],[115,116,101,112,32,53]]:=by decide+kernel
theorem xb:ao 32 [115,116,101,112,32,53]=[[115,116,101,112],[53]]:=by decide+kernel
def sC:St:=(be eR (aS eR) 5).1
theorem Hm:(be eR (aS eR) 5).2=(1,7):=by decide+kernel
theorem Hn:(be eR sC 5).2=(0,7):=by decide+kernel
theorem b0:aQ (opsOf eR) (aS eR) (ao 32 [115,116,101,112,32,53])=(sC,[Lib.itoa 1]++br 7):=by rw[xb];refine gA ((mr _ _ vt).trans ?_) (by simp);rw[show((opsOf eR).run (aS eR) 5).2=(1,7)from Hm];rfl
theorem b1:aQ (opsOf eR) sC (ao 32 [115,116,101,112,32,53])=((be eR sC 5).1,[Lib.itoa 0]++br 7):=by rw[xb];refine gA ((mr _ _ vt).trans ?_) (by simp);rw[show((opsOf eR).run sC 5).2=(0,7)from Hn];rfl
theorem Fz:(aY (opsOf eR) (aS eR) [[115,116,101,112,32,53],[115,116,101,112,32,53]]).2=[49,32,101,114,114,111,114,32,55,10,48,32,101,114,114,111,114,32,55,10]:=by rw[eB b0,eB b1];simp[aY,br,qQ,qR,uJ,Lib.join_cons,Lib.joinTail]
theorem sJ:T1.length≤8192∧Lib.countByte T1 10≤40:=by decide+kernel
theorem sK:T2.length≤8192∧Lib.countByte T2 10≤40:=by decide+kernel
theorem zU(w:World)(h:eL w)(i:bm w):Calls prog 7 #[] w fun b c=>b=.returned (.bool true)∧J w c:=by
 have n:Hid (∀a,J w a→Calls prog 24 #[] a fun b c=>∃k m g,b=.returned (.slice k m g)∧aK c (.slice k m g) aM∧J a c):=R fun a _=>(zw a).mono fun _ _⟨f,v,h2,h3⟩=>by obtain⟨k,g,b,_⟩:=id h2.prog;subst b;exact⟨_,_,_,v,h2.prog,h3⟩
 have r:Hid (∀a f,J w a→aK a f aM→Calls prog 9 #[f] a fun b c=>b=.returned (.tuple #[.string ⟨(bI aM).toArray⟩,.int .i64 0])∧J a c):=R fun a f e j=>by have:=Hp a aM f j (h.kept e) (i.kept e);rwa[show pb aM=(bI aM,0)from if_pos th]at this
 have o:Hid (∀a,J w a→Calls prog 5 #[.string ⟨(bI aM).toArray⟩,.string ⟨#[107,105,110,100,115,10,108,105,110,101,10,115,116,101,112,32,54,10,107,105,110,100,115,10,108,105,110,101,10,111,117,116,10,115,116,101,112,32,53,48,48,10,111,117,116,10,107,105,110,100,115,10,108,105,110,101,10,104,101,105,103,104,116,115,32,50,10,104,101,105,103,104,116,115,32,51,10,116,114,105,109,10,97,103,97,105,110,10,115,116,101,112,32,53,48,49,10,115,116,101,112,10,111,117,116,10]⟩] a fun b c=>b=.returned (.tuple #[.string ⟨#[49,10,48,10,54,10,50,32,49,10,49,32,48,10,45,10,50,50,10,55,32,56,32,57,57,10,48,32,48,10,45,10,48,32,49,32,50,32,49,10,101,114,114,111,114,32,53,10,50,56,10,111,107,10,101,114,114,111,114,32,51,10,101,114,114,111,114,32,49,10,45,10]⟩,.int .i64 0])∧J a c):=R fun a e=>by have:=rD a aM T1 _ th (h.kept e) (i.kept e) sJ.1 sJ.2 xQ;rwa[Fy]at this
 have p:Hid (∀a,J w a→Calls prog 5 #[.string ⟨#[102,117,110,99,32,48,32,48,10,112,117,115,104,32,49,10,121,105,101,108,100,10,114,101,116,117,114,110,10]⟩,.string ⟨#[115,116,101,112,32,53,10,115,116,101,112,32,53,10]⟩] a fun b c=>b=.returned (.tuple #[.string ⟨#[49,32,101,114,114,111,114,32,55,10,48,32,101,114,114,111,114,32,55,10]⟩,.int .i64 0])∧J a c):=R fun a e=>by have:=rD a eR T2 _ FE (h.kept e) (i.kept e) sK.1 sK.2 xR;rw[Fz]at this;rwa[FF]at this
 generalize(ByteArray.mk (bI aM).toArray)=y at*;clear h i;go_enter func7,ntmps7;go_wp2_with fail;refine((U n) w (J.refl w)).mono ?_;rintro _ x⟨k,m,g,rfl,j,l⟩;have d:=R l;have q:=R ((U r) x _ l j);clear j l n r;go_wp2_with fail;refine(U q).mono ?_;rintro _ z⟨rfl,s⟩;replace d:=R ((U d).trans s);clear s q;go_wp2_with fail;refine((U o) _ (U d)).mono ?_;rintro _ A⟨rfl,t⟩;replace d:=R ((U d).trans t);clear t o;go_wp2_with fail;refine((U p) _ (U d)).mono ?_;rintro _ B⟨rfl,u⟩;replace d:=R ((U d).trans u);clear u p;go_wp2_with fail;go_ret;exact⟨rfl,U d⟩
