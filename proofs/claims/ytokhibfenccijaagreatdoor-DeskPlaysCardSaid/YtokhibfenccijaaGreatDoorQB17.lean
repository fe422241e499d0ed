import Derived.Test.YtokhibfenccijaaGreatDoorQB16
set_option maxRecDepth 100000
set_option maxHeartbeats 8000000
namespace Go.Proofs.YtokhibfenccijaaGreatDoor
open Go.Proofs.Tryz
open Go.RowKit
theorem gH{w:World}{base:Nat}{e:TypeId}{h:Nat}{v:Value}{n:Nat}{xs:List Value}(d:w.ownsRow base e h v n xs)(r:0<n):∃b c,v=.slice (some ⟨b,0,none⟩) n c∧n≤c∧(∀a f,xs[a]?=some f→w.cell? ⟨b,a,none⟩=some f)∧(∀a,w.frozen? ⟨b,a,none⟩=false)∧base≤b:=by
 rcases d.2 with⟨_,m⟩|⟨b,c,l,rfl,i,q,k,o,p,s⟩;·omega
 ·refine⟨b,c,rfl,k,fun a f g=>?_,fun a=>d.frozenAt a,i⟩;have j:a<n*h:=by rw[←d.1];exact(List.getElem?_eq_some_iff.1 g).1
  rw[d.cellAt a j];exact g
theorem Own.JL{base:Nat}{w:World}{V:Key→Value}{s:St}(g:Own base w V s){i:Nat}(m:i<s.I.length):∃a b,V .I=.slice (some ⟨a,0,none⟩) s.I.length b∧s.I.length≤b∧w.cell? ⟨a,i*2,none⟩=some (V (.U i))∧w.cell? ⟨a,i*2+1,none⟩=some (.int .i64 (aa s i).caller)∧(∀n,w.frozen? ⟨a,n,none⟩=false)∧base≤a:=by obtain⟨q,h,h2⟩:=g.piece .I trivial;obtain⟨f,d,e,k,c,l,j⟩:=gH h (by omega);obtain⟨o,p⟩:=h2 i m;exact⟨f,d,e,k,c _ _ o,c _ _ p,l,j⟩
theorem Own.fr{base:Nat}{w:World}{V:Key→Value}{s:St}(e:Own base w V s){i j:Nat}(l:i<s.I.length)(m:j<(aa s i).U.length):∃a b,V (.U i)=.slice (some ⟨a,0,none⟩) (aa s i).U.length b∧(aa s i).U.length≤b∧w.cell? ⟨a,j*4,none⟩=some (.int .i64 (ae s i j).fn)∧w.cell? ⟨a,j*4+1,none⟩=some (.int .i64 (ae s i j).at_)∧w.cell? ⟨a,j*4+2,none⟩=some (V (.locals i j))∧w.cell? ⟨a,j*4+3,none⟩=some (V (.stack i j))∧(∀r,w.frozen? ⟨a,r,none⟩=false)∧base≤a:=by obtain⟨t,f,h2⟩:=e.piece (.U i) l;obtain⟨a,b,d,h,c,k,g⟩:=gH f (by omega);obtain⟨n,o,p,q⟩:=h2 j m;exact⟨a,b,d,h,c _ _ n,c _ _ o,c _ _ p,c _ _ q,k,g⟩
theorem Own.JN{base:Nat}{w:World}{V:Key→Value}{s:St}(a:Own base w V s){i j:Nat}(b:i<s.I.length)(c:j<(aa s i).U.length):w.ownsRow base 3 1 (V (.stack i j)) (ae s i j).stack.length (ints (ae s i j).stack):=a.piece (.stack i j) ⟨b,c⟩
theorem Own.loc{base:Nat}{w:World}{V:Key→Value}{s:St}(a:Own base w V s){i j:Nat}(b:i<s.I.length)(c:j<(aa s i).U.length):w.ownsRow base 3 1 (V (.locals i j)) (ae s i j).locals.length (ints (ae s i j).locals):=a.piece (.locals i j) ⟨b,c⟩
theorem ag.same{base b:Nat}{w w':World}{V:Key→Value}{s:St}(a:ag base w b V s)(c:w'.heap=w.heap):ag base w' b V s:=⟨by rw[c];exact a.var,a.own.same (fun e d _ _=>by rw[c]),a.off,a.low⟩
theorem ag.alloc{base b:Nat}{w:World}{V:Key→Value}{s:St}(a:ag base w b V s)(o:Obj):ag base (w.alloc o) b V s:=⟨by rw[Below.heap_alloc w o b (lt_of_block a.var)];exact a.var,a.own.alloc o,a.off,a.low⟩
theorem ag.cells{base a:Nat}{w:World}{V:Key→Value}{s:St}(c:ag base w a V s):w.cell? ⟨a,0,none⟩=some (V .I)∧w.cell? ⟨a,1,none⟩=some (.int .i64 s.now)∧w.cell? ⟨a,2,none⟩=some (V .out)∧∀b,w.frozen? ⟨a,b,none⟩=false:=by have d:=c.var;refine⟨?_,?_,?_,fun b=>?_⟩<;>simp[World.cell?,World.frozen?,d]
theorem ag.Kk{base c:Nat}{w:World}{V:Key→Value}{s:St}(b:ag base w c V s)(n:Int):ag base (w.setCell ⟨c,1,none⟩ (.int .i64 n)) c V {s with now:=n}:=by
 refine⟨?_,(b.own.JW (a:=⟨c,1,none⟩) b.off _).now n,?_,b.low⟩;·have:=b.var;simp[World.setCell,Array.getElem?_modify,this]
 ·intro d e;exact b.off d (by cases d using Key.by<;>exact e)
theorem ag.JO{base b:Nat}{w w':World}{V a:Key→Value}{s c:St}(d:ag base w b V s)(h:Own base w' a c)(e:w'.heap[b]?=w.heap[b]?)(f:a .I=V .I)(j:a .out=V .out)(g:c.now=s.now)(i:Own.off a c b):ag base w' b a c:=⟨by rw[e,d.var,f,j,g],h,i,d.low⟩
theorem ag.Kb{base h:Nat}{w:World}{V:Key→Value}{s:St}(b:ag base w h V s){i g cap:Nat}(l:i<s.I.length)(j:V .I=.slice (some ⟨g,0,none⟩) s.I.length cap)(c:Int):ag base (w.setCell ⟨g,i*2+1,none⟩ (.int .i64 c)) h V (ak s i {aa s i with caller:=c})∧Below base w (w.setCell ⟨g,i*2+1,none⟩ (.int .i64 c)):=by
 have k:(V .I).ownBlock=some g:=by rw[j];rfl
 have n:∀a,live (ak s i {aa s i with caller:=c}) a→live s a:=by
  have m:∀f,(aa (ak s i {aa s i with caller:=c}) f).U=(aa s f).U:=fun f=>by
   by_cases d:i=f;·subst d;rw[bV _ l]
   ·rw[cS _ d]
  intro a e;cases a using Key.by<;>simp only[live,bj,m]at e⊢<;>exact e
 refine⟨b.JO (b.own.Kb l j c) (Below.heap_setCell _ _ _ _ (fun d=>b.off .I trivial (by rw[k];exact congrArg some d.symm))) rfl rfl rfl (fun a e=>b.off a (n a e)),Below.setCell (Below.refl _ w) ((b.own.piece .I trivial).block g k).1 _⟩
theorem ag.setAt{base f:Nat}{w:World}{V:Key→Value}{s:St}(b:ag base w f V s){i j g cap:Nat}(c:i<s.I.length)(l:j<(aa s i).U.length)(h:V (.U i)=.slice (some ⟨g,0,none⟩) (aa s i).U.length cap)(a:Int):ag base (w.setCell ⟨g,j*4+1,none⟩ (.int .i64 a)) f V (cd s i j {ae s i j with at_:=a})∧Below base w (w.setCell ⟨g,j*4+1,none⟩ (.int .i64 a)):=by
 have k:(V (.U i)).ownBlock=some g:=by rw[h];rfl
 have m:=b.own.Kz (w1:=w) c l h (V (.stack i j)) {ae s i j with at_:=a} 1 (.int .i64 a) (by omega) (fun _ _ _=>rfl) (b.own.JN c l) (.inl rfl) rfl rfl rfl rfl rfl;have o:aC V (.stack i j) (V (.stack i j))=V:=by
  funext e;by_cases d:e=.stack i j;·subst d;rw[cj]
  ·rw[aB V _ d]
 rw[o]at m;exact⟨b.JO m (Below.heap_setCell _ _ _ _ (fun d=>b.off (.U i) c (by rw[k];exact congrArg some d.symm))) rfl rfl rfl (fun e n=>b.off e ((fy _ c e).1 n)),Below.setCell (Below.refl _ w) ((b.own.piece (.U i) c).block g k).1 _⟩
theorem ag.Kh{base d:Nat}{w:World}{V:Key→Value}{s:St}(a:ag base w d V s){i j g cap q:Nat}(b:i<s.I.length)(c:j<(aa s i).U.length)(e:V (.locals i j)=.slice (some ⟨g,0,none⟩) (ae s i j).locals.length cap)(z:Int):ag base (w.setCell ⟨g,q,none⟩ (.int .i64 z)) d V (cd s i j {ae s i j with locals:=(ae s i j).locals.set q z})∧Below base w (w.setCell ⟨g,q,none⟩ (.int .i64 z)):=by
 have f:(V (.locals i j)).ownBlock=some g:=by rw[e];rfl
 exact⟨a.JO (a.own.Kh b c e z) (Below.heap_setCell _ _ _ _ (fun k=>a.off (.locals i j) ⟨b,c⟩ (by rw[f];exact congrArg some k.symm))) rfl rfl rfl (fun h l=>a.off h ((fy _ b h).1 l)),Below.setCell (Below.refl _ w) ((a.own.piece (.locals i j) ⟨b,c⟩).block g f).1 _⟩
theorem ag.Ki{base f:Nat}{w:World}{V:Key→Value}{s:St}(d:ag base w f V s){i gF capF g cap:Nat}(m:i<s.I.length)(h:V .I=.slice (some ⟨gF,0,none⟩) s.I.length capF)(k:V (.U i)=.slice (some ⟨g,0,none⟩) (aa s i).U.length cap):ag base (w.setCell ⟨gF,i*2,none⟩ (.slice (some ⟨g,0,none⟩) ((aa s i).U.length-1) cap)) f (aC V (.U i) (.slice (some ⟨g,0,none⟩) ((aa s i).U.length-1) cap)) (ak s i {aa s i with U:=(aa s i).U.dropLast})∧Below base w (w.setCell ⟨gF,i*2,none⟩ (.slice (some ⟨g,0,none⟩) ((aa s i).U.length-1) cap)):=by
 have j:(V .I).ownBlock=some gF:=by rw[h];rfl
 have p:(V (.U i)).ownBlock=some g:=by rw[k];rfl
 refine⟨d.JO (d.own.Ki m h k) (Below.heap_setCell _ _ _ _ (fun a=>d.off .I trivial (by rw[j];exact congrArg some a.symm))) (aB V _ (by simp)) (aB V _ (by simp)) rfl (fun e c a=>?_),Below.setCell (Below.refl _ w) ((d.own.piece .I trivial).block gF j).1 _⟩;have o:live s e:=by
  have l:∀b,(aa (ak s i {aa s i with U:=(aa s i).U.dropLast}) b).U.length≤(aa s b).U.length:=fun b=>by
   by_cases a:i=b;·subst a;rw[bV _ m];simp
   ·rw[cS _ a];exact Nat.le_refl _
  cases e using Key.by with
  |fibers=>trivial
  |out=>trivial
  |frames b=>simpa only[live,bj]using c
  |locals b q=>simp only[live,bj]at c⊢;exact⟨c.1,Nat.lt_of_lt_of_le c.2 (l b)⟩
  |stack b q=>simp only[live,bj]at c⊢;exact⟨c.1,Nat.lt_of_lt_of_le c.2 (l b)⟩
 by_cases n:e=.U i;·subst n;rw[cj]at a;exact d.off _ o (by rw[p];exact a)
 ·rw[aB V _ n]at a;exact d.off e o a
theorem na(s:St)(i:Nat):(aa s i).top=ae s i ((aa s i).U.length-1):=by unfold Fb.top ae;rw[List.getLast?_eq_getElem?];simp[List.getD]
theorem gj(s:St)(i:Nat)(g:Fr→Fr):s.JT (i:Int) g=cd s i ((aa s i).U.length-1) (g (ae s i ((aa s i).U.length-1))):=by unfold St.JT St.JO Fb.JT cd ak St.JL;rw[Int.toNat_natCast];show _={s with I:=_};rw[←na s i];rfl
structure aH(s:St)(i:Nat):Prop where
 lt:i<s.I.length
 fr:0<(aa s i).U.length
 JM:(aa s i).U.length≤1000
 st:(ae s i ((aa s i).U.length-1)).stack.length≤1000
theorem ez(s:St)(i:Nat):s.JL (i:Int)=aa s i:=by unfold St.JL aa;rw[Int.toNat_natCast]
theorem fA(s:St)(i:Nat)(g:Fb→Fb):s.JO (i:Int) g=ak s i (g (aa s i)):=by unfold St.JO;rw[ez,Int.toNat_natCast];rfl
theorem eG{s:St}{i:Nat}(a:s.now=i):af s=cd s i ((aa s i).U.length-1) {ae s i ((aa s i).U.length-1)with stack:=(ae s i ((aa s i).U.length-1)).stack.dropLast}:=by unfold af;rw[a,gj]
theorem lN{s:St}{i j k:Nat}(f:Fr)(a:i≠k):aa (cd s i j f) k=aa s k:=cS _ a
theorem aH.other{s c:St}{k:Nat}(a:aH s k)(f:c.I.length=s.I.length)(b:aa c k=aa s k):aH c k:=by
 have e:∀d,ae c k d=ae s k d:=fun d=>by unfold ae;rw[b]
 exact⟨by rw[f];exact a.lt,by rw[b];exact a.fr,by rw[b];exact a.JM,by rw[e,b];exact a.st⟩
def aj(s:St)(i a:Nat):St:=cd s i ((aa s i).U.length-1) {ae s i ((aa s i).U.length-1)with at_:=(a:Int)+1}
theorem pa{s:St}{i:Nat}(b:s.now=i)(a:Int):setAt s a=cd s i ((aa s i).U.length-1) {ae s i ((aa s i).U.length-1)with at_:=a}:=by unfold setAt;rw[b,gj]
theorem jf{s:St}{i:Nat}(a:s.now=i):s.top=ae s i ((aa s i).U.length-1):=by unfold St.top St.JL;rw[a,Int.toNat_natCast,show s.I.getD i Fb.zero=aa s i from rfl,na]
theorem ff{s:St}{i:Nat}(j:s.now=i)(c:aH s i)(b:Nat):(aj s i b).now=i∧(aj s i b).I.length=s.I.length∧(aj s i b).out=s.out∧(∀a,(aa (aj s i b) a).caller=(aa s a).caller)∧(∀a,(aa (aj s i b) a).U.length=(aa s a).U.length)∧ae (aj s i b) i ((aa s i).U.length-1)={ae s i ((aa s i).U.length-1)with at_:=(b:Int)+1}∧(∀a,a≠i→aa (aj s i b) a=aa s a)∧aH (aj s i b) i:=by
 have g:(aa s i).U.length-1<(aa s i).U.length:=by have:=c.fr;omega
 have e:ae (aj s i b) i ((aa s i).U.length-1)={ae s i ((aa s i).U.length-1)with at_:=(b:Int)+1}:=fp _ c.lt g;have d:∀a,(aa (aj s i b) a).U.length=(aa s a).U.length:=fun a=>gi _ c.lt a;have h2:(aj s i b).I.length=s.I.length:=bj _ _ _;refine⟨j,h2,rfl,fun a=>jc _ c.lt a,d,e,fun a h=>lN _ (fun f=>h f.symm),⟨by rw[h2];exact c.lt,by rw[d];exact c.fr,by rw[d];exact c.JM,?_⟩⟩;rw[d,e];exact c.st
theorem rk{s:St}{i:Nat}(a k:Nat)(d:k≠i)(c:aH s k):aH (aj s i a) k:=c.other (bj _ _ _) (lN _ (fun b=>d b.symm))
theorem lr{s:St}{i:Nat}(b:aH s i)(a t q:Nat):(ae (aj s i a) t q).stack=(ae s t q).stack∧(ae (aj s i a) t q).locals=(ae s t q).locals∧(ae (aj s i a) t q).fn=(ae s t q).fn:=by
 have d:(aa s i).U.length-1<(aa s i).U.length:=by have:=b.fr;omega
 unfold aj;by_cases c:i=t∧(aa s i).U.length-1=q;·obtain⟨rfl,rfl⟩:=c;rw[fp _ b.lt d];exact⟨rfl,rfl,rfl⟩
 ·rw[ic _ b.lt c];exact⟨rfl,rfl,rfl⟩
theorem tJ{p:List Fn}{s:St}{i f b:Nat}{c a:Int}(d:s.now=i)(j:(ae s i ((aa s i).U.length-1)).fn=f)(g:(ae s i ((aa s i).U.length-1)).at_=b)(m:(codeOf p f).getD b (0,0)=(c,a)):aU p s=(if c=0 then(aO (aj s i b) i a,0)else if c=1 then(af (aj s i b),0)else if c=2 then(aO (aj s i b) i ((aj s i b).top.locals.getD a.toNat 0),0)else if c=3 then((af (aj s i b)).JT i fun e=>{e with locals:=e.locals.set a.toNat (aq (aj s i b))},0)else if c=9 then(setAt (aj s i b) a,0)else if c=10 then(if aq (aj s i b)=0 then setAt (af (aj s i b)) a else af (aj s i b),0)else if c=11 then fK p (aj s i b) a else if c=12 then ek (aj s i b)else if c=13 then eC p (aj s i b) a else if c=14 then eS (aj s i b)else if c=15 then eI (aj s i b)else if c=16 then cm (af (aj s i b)) (aq (aj s i b))else(aO (af (af (aj s i b))) i (dq c (aq (af (aj s i b))) (aq (aj s i b))),0)):=by
 unfold aU;have h:=jf d;have l:setAt s (s.top.at_+1)=aj s i b:=by rw[pa d,h,g];rfl
 have k:(aj s i b).now=i:=d;simp only[];rw[l,h,j,g,Int.toNat_natCast,Int.toNat_natCast,m,k]
def lk(a:Int):Nat:=if a=0∨a=2∨a=9∨a=11∨a=13 then 0 else if a=1∨a=3∨a=10∨a=12∨a=15∨a=16 then 1 else 2
def opAt(p:List Fn)(f:Fr):Int×Int:=(codeOf p f.fn.toNat).getD f.at_.toNat (0,0)
def oe(p:List Fn)(f:Fr):Prop:=lk (opAt p f).1≤f.stack.length∧((opAt p f).1=2∨(opAt p f).1=3→0≤(opAt p f).2∧(opAt p f).2.toNat<f.locals.length)∧((opAt p f).1=11→0≤(opAt p f).2∧(opAt p f).2.toNat<p.length∧0≤(p.getD (opAt p f).2.toNat Fn.zero).args∧(p.getD (opAt p f).2.toNat Fn.zero).args≤(p.getD (opAt p f).2.toNat Fn.zero).locals∧(p.getD (opAt p f).2.toNat Fn.zero).locals≤1000∧(p.getD (opAt p f).2.toNat Fn.zero).args.toNat≤f.stack.length)∧((opAt p f).1=13→0≤(opAt p f).2∧(opAt p f).2.toNat<p.length∧0≤(p.getD (opAt p f).2.toNat Fn.zero).locals∧(p.getD (opAt p f).2.toNat Fn.zero).locals≤1000)
def mg(p:List Fn)(s:St):Prop:=(0≤s.now∧s.now.toNat<s.I.length∧s.I.length≤5∧s.out.length≤30)∧(∀b∈s.I,(b.U.length≤6∧-1≤b.caller∧b.caller<s.I.length)∧∀c∈b.U,c.locals.length≤1000∧c.stack.length≤1000)∧0<(aa s s.now.toNat).U.length∧(0≤(aa s s.now.toNat).caller→(aa s s.now.toNat).caller≠s.now∧0<(aa s (aa s s.now.toNat).caller.toNat).U.length)∧((cB s).isSome=true∧s.now∈(cB s).getD [])∧(∀a,a<s.I.length→(a:Int)∉(cB s).getD []→0<(aa s a).U.length→(ae s a ((aa s a).U.length-1)).at_=0→0<(ae s a ((aa s a).U.length-1)).locals.length)∧(0≤s.top.fn∧s.top.fn.toNat<p.length∧0≤s.top.at_∧s.top.at_.toNat<(codeOf p s.top.fn.toNat).length∧(codeOf p s.top.fn.toNat).length≤1000)∧oe p s.top
theorem ky{s:St}(i:Nat)(a:i<s.I.length):aa s i∈s.I:=by
 have:aa s i=s.I[i]:=by simp[aa,List.getD,a]
 rw[this];exact List.getElem_mem a
theorem qu{s:St}(i j:Nat)(a:j<(aa s i).U.length):ae s i j∈(aa s i).U:=by
 have:ae s i j=(aa s i).U[j]:=by simp[ae,List.getD,a]
 rw[this];exact List.getElem_mem a
theorem wj(s:St)(v:Int)(a:(cm s v).2≠0):(cm s v).1=St.zero:=by
 unfold cm at a⊢;split;·rfl
 ·rename_i b;rw[if_neg b]at a;exact absurd rfl a
theorem Cn(s:St)(a:(ek s).2≠0):(ek s).1=St.zero:=by
 unfold ek at a⊢;simp only at a⊢;split
 ·rename_i b;rw[if_pos b]at a;split;·rename_i h2;rw[if_pos h2]at a;exact wj _ _ a
  ·rename_i h2;rw[if_neg h2]at a;exact absurd rfl a
 ·rename_i b;rw[if_neg b]at a;exact absurd rfl a
theorem GS(s:St)(a:(eS s).2≠0):(eS s).1=St.zero:=by
 unfold eS at a⊢;simp only at a⊢;split
 ·rename_i b;rw[if_pos b]at a;split;·rfl
  ·rename_i h2;rw[if_neg h2]at a;split;·rename_i h3;rw[if_pos h3]at a;exact absurd rfl a
   ·rename_i h3;rw[if_neg h3]at a;exact absurd rfl a
 ·rfl
theorem yA(p:List Fn)(s:St)(f:Int)(a:(fK p s f).2≠0):(fK p s f).1=St.zero:=by
 unfold fK at a⊢;simp only at a⊢;split;·rfl
 ·rename_i b;rw[if_neg b]at a;exact absurd rfl a
theorem JK(s:St)(a:(eI s).2≠0):(eI s).1=St.zero:=by
 unfold eI at a⊢;simp only at a⊢;split;·rfl
 ·rename_i b;rw[if_neg b]at a;exact absurd rfl a
theorem DE(p:List Fn)(s:St)(f:Int)(a:(eC p s f).2≠0):(eC p s f).1=St.zero:=by
 unfold eC at a⊢;split;·rfl
 ·rename_i b;rw[if_neg b]at a;exact absurd rfl a
theorem tL{p:List Fn}{s:St}(a:(aU p s).2≠0):(aU p s).1=St.zero:=by
 unfold aU at a⊢;simp only at a⊢;generalize(codeOf p s.top.fn.toNat).getD s.top.at_.toNat (0,0)=b at a⊢;generalize setAt s (s.top.at_+1)=n at a⊢;by_cases k0:b.1=0;·rw[if_pos k0]at a;exact absurd rfl a
 rw[if_neg k0]at a⊢;by_cases c:b.1=1;·rw[if_pos c]at a;exact absurd rfl a
 rw[if_neg c]at a⊢;by_cases k:b.1=2;·rw[if_pos k]at a;exact absurd rfl a
 rw[if_neg k]at a⊢;by_cases l:b.1=3;·rw[if_pos l]at a;exact absurd rfl a
 rw[if_neg l]at a⊢;by_cases m:b.1=9;·rw[if_pos m]at a;exact absurd rfl a
 rw[if_neg m]at a⊢;by_cases d:b.1=10;·rw[if_pos d]at a;exact absurd rfl a
 rw[if_neg d]at a⊢;by_cases e:b.1=11;·rw[if_pos e]at a⊢;exact yA _ _ _ a
 rw[if_neg e]at a⊢;by_cases f:b.1=12;·rw[if_pos f]at a⊢;exact Cn _ a
 rw[if_neg f]at a⊢;by_cases g:b.1=13;·rw[if_pos g]at a⊢;exact DE _ _ _ a
 rw[if_neg g]at a⊢;by_cases h:b.1=14;·rw[if_pos h]at a⊢;exact GS _ a
 rw[if_neg h]at a⊢;by_cases i:b.1=15;·rw[if_pos i]at a⊢;exact JK _ a
 rw[if_neg i]at a⊢;by_cases j:b.1=16;·rw[if_pos j]at a⊢;exact wj _ _ a
 rw[if_neg j]at a;exact absurd rfl a
def mT(p:List Fn):Nat→St→Prop
 |0,_=>True
 |b+1,a=>a.now<0∨(mg p a∧Small (aU p a).1∧((aU p a).2=0→mT p b (aU p a).1))
theorem kt(p:List Fn)(k:Nat)(s:St)(a:k=0∨s.now<0):cC p k s=(s,0,0):=by
 cases k with
 |zero=>rfl
 |succ k=>
  rcases a with a|a;·cases a
  ·unfold cC;rw[if_pos a]
theorem rR(p:List Fn)(k:Nat)(s:St)(a:¬s.now<0)(b:(aU p s).2≠0):cC p (k+1) s=(s,0,(aU p s).2):=by
 unfold cC;have:eE p s=aU p s:=by unfold eE;rw[if_neg a]
 rw[if_neg a,this,if_neg b]
theorem rS(p:List Fn)(k:Nat)(s:St)(a:¬s.now<0)(b:(aU p s).2=0):cC p (k+1) s=((cC p k (aU p s).1).1,(cC p k (aU p s).1).2.1+1,(cC p k (aU p s).1).2.2):=by
 conv=>lhs;unfold cC
 have:eE p s=aU p s:=by unfold eE;rw[if_neg a]
 rw[if_neg a,this,if_pos b]
theorem ld{fs fs':List Fb}(b:∀n,bw fs n=bw fs' n):∀(k:Nat)(n:Int)(a:List Int),bt fs k n a=bt fs' k n a
 |0,_,_=>rfl
 |k+1,n,a=>by unfold bt;rw[b n,ld b k]
def bY(s:St)(i t:Nat):St:=cd s i ((aa s i).U.length-1) {ae s i ((aa s i).U.length-1)with stack:=(ae s i ((aa s i).U.length-1)).stack.take ((ae s i ((aa s i).U.length-1)).stack.length-t)}
theorem rV{α:Type}(l:List α)(i:Nat)(d:α)(b:i<l.length):l.set i (l.getD i d)=l:=by
 apply List.ext_getElem;·simp
 ·intro e c h2;rw[List.getElem_set];split;·rename_i a;subst a;simp[List.getD,b]
  ·rfl
theorem IN{s:St}{i:Nat}(a:aH s i):bY s i 0=s:=by
 unfold bY cd ak;rw[Nat.sub_zero,List.take_length];have b:(aa s i).U.set ((aa s i).U.length-1) (ae s i ((aa s i).U.length-1))=(aa s i).U:=rV _ _ _ (by have:=a.fr;omega);have h2:({aa s i with U:=(aa s i).U.set ((aa s i).U.length-1) {ae s i ((aa s i).U.length-1)with stack:=(ae s i ((aa s i).U.length-1)).stack}}:Fb)=aa s i:=by show({aa s i with U:=(aa s i).U.set ((aa s i).U.length-1) (ae s i ((aa s i).U.length-1))}:Fb)=aa s i;rw[b]
 rw[h2];have h3:s.I.set i (aa s i)=s.I:=rV _ _ _ a.lt;rw[h3]
theorem pj{s:St}{i:Nat}(a:aH s i)(t:Nat):(bY s i t).I.length=s.I.length∧(bY s i t).now=s.now∧(bY s i t).out=s.out∧(aa (bY s i t) i).U.length=(aa s i).U.length∧(ae (bY s i t) i ((aa s i).U.length-1)).stack=(ae s i ((aa s i).U.length-1)).stack.take ((ae s i ((aa s i).U.length-1)).stack.length-t)∧aH (bY s i t) i:=by
 have e:(aa s i).U.length-1<(aa s i).U.length:=by have:=a.fr;omega
 have d:(ae (bY s i t) i ((aa s i).U.length-1)).stack=(ae s i ((aa s i).U.length-1)).stack.take ((ae s i ((aa s i).U.length-1)).stack.length-t):=by unfold bY;rw[fp _ a.lt e]
 have c:(bY s i t).I.length=s.I.length:=bj _ _ _;have b:(aa (bY s i t) i).U.length=(aa s i).U.length:=gi _ a.lt i;refine⟨c,rfl,rfl,b,d,⟨by rw[c];exact a.lt,by rw[b];exact a.fr,by rw[b];exact a.JM,?_⟩⟩;rw[b,d,List.length_take];have:=a.st;omega
theorem Gx{s:St}{i:Nat}(l:s.now=i)(b:aH s i){t:Nat}(q:t<(ae s i ((aa s i).U.length-1)).stack.length):af (bY s i t)=bY s i (t+1)∧aq (bY s i t)=(ae s i ((aa s i).U.length-1)).stack.getD ((ae s i ((aa s i).U.length-1)).stack.length-t-1) 0:=by
 obtain⟨n,e,o,c,f,p⟩:=pj b t;have j:(aa s i).U.length-1<(aa s i).U.length:=by have:=b.fr;omega
 have d:(bY s i t).now=i:=by rw[e];exact l
 constructor
 ·rw[eG d,c];have h:ae (bY s i t) i ((aa s i).U.length-1)={ae s i ((aa s i).U.length-1)with stack:=(ae s i ((aa s i).U.length-1)).stack.take ((ae s i ((aa s i).U.length-1)).stack.length-t)}:=by unfold bY;rw[fp _ b.lt j]
  rw[h];generalize k:(ae s i ((aa s i).U.length-1)).stack=a at*;have g:(a.take (a.length-t)).dropLast=a.take (a.length-(t+1)):=by rw[List.dropLast_eq_take,List.length_take,List.take_take];congr 1;omega
  simp only[g];unfold bY;rw[k];unfold cd ak;simp only;have m:aa {s with I:=s.I.set i {aa s i with U:=(aa s i).U.set ((aa s i).U.length-1) {ae s i ((aa s i).U.length-1)with stack:=a.take (a.length-t)}}} i={aa s i with U:=(aa s i).U.set ((aa s i).U.length-1) {ae s i ((aa s i).U.length-1)with stack:=a.take (a.length-t)}}:=bV (s:=s) _ b.lt;rw[m];simp only[List.set_set]
 ·unfold aq St.top;rw[d,ez,na,c,f,List.getLast?_eq_getElem?,List.length_take];generalize(ae s i ((aa s i).U.length-1)).stack=a at*;rw[Nat.min_eq_left (by omega),List.getElem?_take,if_pos (by omega)];rfl
theorem td{p:List Fn}{s:St}{i a a2 d:Nat}(b:s.now=i)(h:aH s i)(f:(p.getD a Fn.zero).args=a2)(g:(p.getD a Fn.zero).locals=d):fK p s a=if(aa s i).U.length=6 then(St.zero,(2:Int))else(ak (bY s i a2) i {aa (bY s i a2) i with U:=(aa (bY s i a2) i).U++[⟨a,0,(ae s i ((aa s i).U.length-1)).stack.drop ((ae s i ((aa s i).U.length-1)).stack.length-a2)++List.replicate (d-((ae s i ((aa s i).U.length-1)).stack.drop ((ae s i ((aa s i).U.length-1)).stack.length-a2)).length) 0,[]⟩]},0):=by
 have k:=jf b;have j:(s.JT s.now fun c=>{c with stack:=c.stack.take (c.stack.length-a2)})=bY s i a2:=by rw[b,gj];rfl
 obtain⟨l,m,n,e,o,q⟩:=pj h a2;unfold fK;simp only[Int.toNat_natCast,f];rw[j,b,ez,fA,e,k];unfold dM;rw[Int.toNat_natCast,g,Int.toNat_natCast]
theorem ag.kept{base b:Nat}{w w':World}{V:Key→Value}{s:St}(a:ag base w b V s)(d:J w w'):ag base w' b V s:=⟨(d.block b (lt_of_block a.var)).trans a.var,a.own.same (fun g c f e=>d.block c ((a.own.piece g f).block c e).2),a.off,a.low⟩
theorem ag.below{base b:Nat}{w w':World}{V:Key→Value}{s:St}(a:ag base w b V s)(c:J w w'):Below base w w':=Below.mono c (by have:=a.low;have:=lt_of_block a.var;omega)
structure fC(base:Nat)(w:World)(s:St)(i h l n g b d f e j:Nat)(k a:Int):Prop where
 now:s.now=i
 runs:aH s i
 fn:(ae s i ((aa s i).U.length-1)).fn=g
 at_:(ae s i ((aa s i).U.length-1)).at_=b
 fin:g<n
 KZ:b<e
 Kv:e≤1000
 cells:∀c,Below base w c→c.cell? ⟨h,l+g*3+2,none⟩=some (.slice (some ⟨d,f,none⟩) e j)∧c.cell? ⟨d,f+b*2,none⟩=some (.int .i64 k)∧c.cell? ⟨d,f+b*2+1,none⟩=some (.int .i64 a)
theorem lT(z:Int):wrap64 z=iK z:=by unfold wrap64 iK;rw[Int.bmod_def];omega
def aN(H:List Int):Nat→Nat
 |0=>0
 |a+1=>if 0≤H.getD a 0 then aN H a+1 else aN H a
def pick{α:Type}(H:List Int)(f:Nat→α):Nat→List α
 |0=>[]
 |a+1=>if 0≤H.getD a 0 then pick H f a++[f a]else pick H f a
def bX(H:List Int)(x:Int×Int):Int×Int:=if x.1=9∨x.1=10 then(x.1,(aN H x.2.toNat:Nat))else x
def dJ(H:List Int)(c:List (Int×Int)):List (Int×Int):=pick H (fun a=>bX H (c.getD a (0,0))) H.length
def ki(H:List Int):List Int:=pick H (fun a=>H.getD a 0) H.length
theorem kn{α:Type}(H:List Int)(f:Nat→α):∀a,(pick H f a).length=aN H a
 |0=>rfl
 |a+1=>by
  unfold pick aN;split;·simp[kn H f a]
  ·exact kn H f a
theorem vT(H:List Int):∀{n m:Nat},n≤m→aN H n≤aN H m
 |n,0,a=>by
  obtain rfl:n=0:=by omega
  exact Nat.le_refl _
 |n,m+1,a=>by
  rcases Nat.lt_or_eq_of_le a with b|rfl
  ·have:=vT H (n:=n) (m:=m) (by omega);conv=>rhs;unfold aN
   split<;>omega
  ·exact Nat.le_refl _
theorem ja(H:List Int):∀a,aN H a≤a
 |0=>Nat.le_refl _
 |a+1=>by have:=ja H a;unfold aN;split<;>omega
theorem jE{H:List Int}{k:Nat}(a:0≤H.getD k 0):aN H (k+1)=aN H k+1:=by
 conv=>lhs;unfold aN
 rw[if_pos a]
theorem oz{H:List Int}{k n:Nat}(a:0≤H.getD k 0)(b:k<n):aN H k<aN H n:=by have:=vT H (n:=k+1) (m:=n) b;rw[jE a]at this;omega
theorem rA{α:Type}{H:List Int}(f:Nat→α){k:Nat}(a:0≤H.getD k 0):∀{n:Nat},k<n→(pick H f n)[aN H k]?=some (f k)
 |0,b=>by omega
 |n+1,b=>by
  unfold pick;rcases Nat.lt_or_eq_of_le (Nat.lt_succ_iff.1 b)with c|rfl
  ·have d:=rA f a c;split;·rw[List.getElem?_append_left (by rw[kn];exact oz a c)];exact d
   ·exact d
  ·rw[if_pos a,List.getElem?_append_right (by rw[kn];exact Nat.le_refl _),kn];simp
theorem oC{H:List Int}:∀{n i:Nat},i<aN H n→∃a,a<n∧0≤H.getD a 0∧aN H a=i
 |0,i,b=>by simp[aN]at b
 |n+1,i,b=>by
  by_cases e:0≤H.getD n 0
  ·rw[jE e]at b;by_cases g:i=aN H n;·exact⟨n,by omega,e,g.symm⟩
   ·obtain⟨a,f,c,d⟩:=oC (H:=H) (n:=n) (i:=i) (by omega);exact⟨a,by omega,c,d⟩
  ·conv at b=>rhs;unfold aN
   rw[if_neg e]at b;obtain⟨a,f,c,d⟩:=oC b;exact⟨a,by omega,c,d⟩
def Alike(p q:List Fn):Prop:=q.length=p.length∧∀a,(q.getD a Fn.zero).args=(p.getD a Fn.zero).args∧(q.getD a Fn.zero).locals=(p.getD a Fn.zero).locals
theorem Alike.Ke{p q:List Fn}(b:Alike p q)(c a:Int):ct q c a=ct p c a:=by unfold ct;rw[b.1,(b.2 a.toNat).1]
theorem Alike.Kr{p q:List Fn}(a:Alike p q)(x:Int×Int)(z:Int):dd q x z=dd p x z:=by unfold Proofs.YtokhibfenccijaaGreatDoor.dd;rw[a.Ke]
theorem AY(p:List Fn)(H:List Int)(x:Int×Int)(b:0≤x.1)(c:x.1<17):ct p (bX H x).1 (bX H x).2=ct p x.1 x.2:=by
 unfold bX;split
 ·rename_i d;have a:x.1≠11:=by omega
  unfold ct;simp only[b,c,a,and_self,if_true,if_false]
 ·rfl
theorem vm(H:List Int)(x:Int×Int):(bX H x).1=x.1:=by unfold bX;split<;>rfl
theorem sY(p:List Fn)(H:List Int)(x:Int×Int)(a:0≤x.1)(b:x.1<17)(z:Int):dd p (bX H x) z=dd p x z:=by unfold dd;rw[AY p H x a b,vm]
theorem vq{H:List Int}{k:Nat}(b:0≤H.getD k 0)(x:Int×Int):bx (bX H x) (aN H k)=(bx x k).map (aN H):=by
 unfold bx;rw[vm];split;·rfl
 ·split;·rename_i a;simp[bX,a]
  ·split;·rename_i a;simp[bX,a,jE b]
   ·simp[jE b]
theorem rl{p:List Fn}{c:List (Int×Int)}{H:List Int}(e:Cons p c H)(l:du p c){k:Nat}(g:k<c.length)(n:0≤H.getD k 0){x:Int×Int}(a:c[k]?=some x){j:Nat}(f:j∈bx x k):j<c.length∧0≤H.getD j 0:=by
 obtain⟨m,o,b,h,i⟩:=e.done k g (by omega);obtain rfl:x=m:=by rw[a]at b;exact Option.some.inj b
 obtain⟨d,h2⟩:=i j f;exact⟨d,by rw[h2];exact(gC l (List.mem_of_getElem? a) h).1⟩
theorem iq(H:List Int)(c:List (Int×Int)):(dJ H c).length=aN H H.length:=kn H _ _
theorem Dt(H:List Int):(ki H).length=aN H H.length:=kn H _ _
theorem sg{p:List Fn}{c:List (Int×Int)}{H:List Int}(a:Cons p c H){k:Nat}(b:k<c.length)(d:0≤H.getD k 0){x:Int×Int}(e:c[k]?=some x):(dJ H c)[aN H k]?=some (bX H x):=by unfold dJ;rw[rA _ d (by rw[a.len];exact b)];simp[List.getD,e]
theorem nW{p:List Fn}{c:List (Int×Int)}{H:List Int}(a:Cons p c H){k:Nat}(b:k<c.length)(d:0≤H.getD k 0):(ki H).getD (aN H k) 0=H.getD k 0:=by unfold ki;rw[List.getD_eq_getElem?_getD,rA _ d (by rw[a.len];exact b)];rfl
def fe(p:List Fn)(k:Nat):List Int:=(bG p (codeOf p k)).getD []
def dQ(p:List Fn)(k:Nat):Fn:=⟨(p.getD k Fn.zero).args,(p.getD k Fn.zero).locals,dJ (fe p k) (codeOf p k)⟩
def ej(p:List Fn):List Fn:=(List.range p.length).map (dQ p)
theorem pv{p:List Fn}{k:Nat}(a:k<p.length):(ej p).getD k Fn.zero=dQ p k:=by simp[ej,List.getD,a]
theorem Jk(p:List Fn):Alike p (ej p):=by
 refine⟨by simp[ej],fun b=>?_⟩;by_cases a:b<p.length;·rw[pv a];exact⟨rfl,rfl⟩
 ·simp[List.getD,a,ej]
theorem Jm{p q:List Fn}(d:Alike p q){g g':Fn}{H:List Int}(e:Cons p g.code H)(u:∀a,a∈g.code→bu p g a=0)(B:g'.locals=g.locals)(l:g'.code=dJ H g.code){y:Int×Int}(E:y∈g'.code):bu q g' y=0:=by
 obtain⟨F,m⟩:=List.getElem?_of_mem E;have C:F<aN H H.length:=by rw[←iq H g.code,←l];exact(List.getElem?_eq_some_iff.1 m).1
 obtain⟨w,h,v,rfl⟩:=oC C;rw[e.len]at h;obtain⟨a,o⟩:∃a,g.code[w]?=some a:=⟨_,List.getElem?_eq_getElem h⟩;rw[l,sg e h v o]at m;obtain rfl:=Option.some.inj m;have j:=u a (List.mem_of_getElem? o);obtain⟨r,s,t⟩:=ei j;have z:du p g.code:=⟨g,rfl,u⟩;by_cases f:a.1=9∨a.1=10
 ·have n:bX H a=(a.1,((aN H a.2.toNat:Nat):Int)):=by unfold bX;rw[if_pos f]
  have c:bA a.1.toNat=3:=by rcases f with b|b<;>rw[b]<;>rfl
  rw[c]at t;have K:=cZ.1 (show aX a.2 g.code.length=true from t);have A:a.2.toNat∈bx a w:=by
   unfold bx;rcases f with b|b;·rw[if_neg (by omega),if_pos b];simp
   ·rw[if_neg (by omega),if_neg (by omega),if_pos b];simp
  obtain⟨G,I⟩:=rl e z h v o A;have:=oz I (n:=H.length) (by rw[e.len];exact G);unfold bu;rw[n];simp only;rw[if_pos ⟨r,s⟩,c,if_pos,if_neg (by omega)];show aX ((aN H a.2.toNat:Nat):Int) g'.code.length=true;rw[cZ,l,iq];omega
 ·have n:bX H a=a:=by unfold bX;rw[if_neg f]
  rw[n];have c:bA a.1.toNat≠3:=by
   have i:a.1.toNat≠9∧a.1.toNat≠10∧a.1.toNat<17:=by omega
   generalize a.1.toNat=x at i;have:∀k,k<17→k≠9→k≠10→bA k≠3:=by decide
   exact this x i.2.2 i.1 i.2.1
  unfold bu at j⊢;rw[if_pos ⟨r,s⟩]at j⊢;have D:bZ q g' (bA a.1.toNat) a.2=bZ p g (bA a.1.toNat) a.2:=by unfold bZ;rw[if_neg c,if_neg c,B,d.1,(d.2 a.2.toNat).1,(d.2 a.2.toNat).2]
  rw[D,(d.2 a.2.toNat).1];exact j
theorem Jl{p q:List Fn}(y:Alike p q){c:List (Int×Int)}{H:List Int}(b:Cons p c H)(C:dK p c H)(v:du p c):Cons q (dJ H c) (ki H)∧dK q (dJ H c) (ki H):=by
 have X:∀a,a<c.length→H.getD a 0≠-1→0≤H.getD a 0:=fun a f r=>by
  rcases C a f with j|j;·exact absurd j r
  ·exact j.1
 have w:0≤H.getD 0 0:=by rw[b.first];exact Int.le_refl _
 have B:∀d,d∈c→0≤d.1∧d.1<17:=fun d e=>by obtain⟨W,rfl,O⟩:=v;obtain⟨h,i,_⟩:=ei (O d e);exact⟨h,i⟩
 have z:∀k,k<(dJ H c).length→∃a,a<c.length∧0≤H.getD a 0∧aN H a=k:=fun k l=>by rw[iq]at l;obtain⟨a,h,i,I⟩:=oC l;exact⟨a,by rw[←b.len];exact h,i,I⟩
 have P:∀a g,Reach p c a g→a<c.length∧H.getD a 0=g∧0≤g∧Reach q (dJ H c) (aN H a) g:=by
  intro a g T;refine T (fun a g=>a<c.length∧H.getD a 0=g∧0≤g∧Reach q (dJ H c) (aN H a) g) ⟨b.pos,b.first,Int.le_refl _,Reach.zero _ _⟩ ?_;rintro a j d s E⟨x,h2,h3,K⟩e o t;obtain⟨V,S,D,u,r⟩:=b.done a x (by omega);obtain rfl:d=V:=by rw[e]at D;exact Option.some.inj D
  rw[h2]at u;obtain rfl:s=S:=by rw[o]at u;exact Option.some.inj u
  obtain⟨L,M⟩:=r E t;refine⟨L,M,(gC v (List.mem_of_getElem? e) o).1,?_⟩;refine K.step (sg b x (by omega) e) ?_ (m:=s) ?_;·obtain⟨h,i⟩:=B d (List.mem_of_getElem? e);rw[y.Kr,sY p H d h i];exact o
  ·rw[vq (by omega) d];exact List.mem_map_of_mem t
 refine⟨⟨?_,?_,?_,?_⟩,?_⟩;·rw[Dt,iq]
 ·rw[iq];have:=oz w (n:=H.length) (by rw[b.len];exact b.pos);omega
 ·have:=nW b b.pos w;rw[show aN H 0=0 from rfl]at this;rw[this];exact b.first
 ·intro k l _;obtain⟨a,f,m,rfl⟩:=z k l;obtain⟨d,s,e,o,r⟩:=b.done a f (by omega);obtain⟨h,i⟩:=B d (List.mem_of_getElem? e);refine⟨bX H d,s,sg b f m e,?_,?_⟩;·rw[nW b f m,y.Kr,sY p H d h i];exact o
  ·rw[vq m d];intro E t;obtain⟨Q,A,rfl⟩:=List.mem_map.1 t;obtain⟨F,G⟩:=rl b v f m e A;refine⟨?_,?_⟩;·rw[iq];exact oz G (by rw[b.len];exact F)
   ·rw[nW b F G];exact(r Q A).2
 ·intro k l;obtain⟨a,f,m,rfl⟩:=z k l;right;rw[nW b f m];rcases C a f with j|⟨j,N⟩;·omega
  ·exact⟨j,(P a _ N).2.2.2⟩
theorem CD{p:List Fn}{c:List (Int×Int)}(e:du p c){H:List Int}(a:Cons p c H)(b:dK p c H):bG p c=some H:=by
 obtain⟨f,i,_⟩:=rM a (c.length+1) _ (rZ a).1;have d:bG p c=some f:=by unfold bG;rw[if_neg (by have:=a.pos;omega)];exact i
 obtain⟨g,h⟩:=iV e d;rw[d,qc e a b g h]
theorem vJ{p:List Fn}{g:Fn}:∀{c:List (Int×Int)},(∀a,a∈c→bu p g a=0)→dY p g c=0
 |[],_=>rfl
 |a::c,b=>by unfold dY;rw[if_pos (b a (by simp))];exact vJ fun e d=>b e (by simp[d])
theorem mR{p:List Fn}(a:aL p=0){k:Nat}(e:k<p.length):bG p (codeOf p k)=some (fe p k):=by
 unfold aL at a;split at a;·cases a
 ·split at a;·cases a
  ·split at a;·cases a
   ·split at a
    ·have:=my a k (by omega) (by omega);unfold eh at this;unfold fe;split at this;·rename_i d c;rw[c];rfl
     ·cases this
    ·rename_i b;exact absurd a b
theorem qp{e:Nat→Int}:∀(n k:Nat),(∀a,k≤a→a<k+n→e a=0)→dn e k n=0
 |0,_,_=>rfl
 |n+1,k,b=>by unfold dn;rw[if_pos (b k (Nat.le_refl k) (by omega))];exact qp n (k+1) fun a c h2=>b a (by omega) (by omega)
theorem Jn{p:List Fn}(c:aL p=0):aL (ej p)=0∧∀a,a<p.length→bG (ej p) (codeOf (ej p) a)=some (ki (fe p a)):=by
 obtain⟨A,B,r⟩:=fO c;have d:=Jk p;have b:∀a,a<p.length→bo (ej p) a=0∧bG (ej p) (codeOf (ej p) a)=some (ki (fe p a)):=by
  intro a b;obtain⟨e,z,l,u,w,n⟩:=gN (r a b);obtain rfl:a=e:=by omega
  have s:=mR c b;have j:du p (codeOf p a):=⟨p.getD a Fn.zero,rfl,gh n⟩;obtain⟨f,x⟩:=iV j s;have h:codeOf (ej p) a=dJ (fe p a) (codeOf p a):=by unfold codeOf;rw[pv b];rfl
  have m:∀i,i∈(dQ p a).code→bu (ej p) (dQ p a) i=0:=fun i y=>Jm (g:=p.getD a Fn.zero) (g':=dQ p a) d f (gh n) rfl rfl y;have k:du (ej p) (codeOf (ej p) a):=⟨dQ p a,h.symm,by rw[h];exact m⟩;obtain⟨o,q⟩:=Jl d f x j;refine⟨?_,?_⟩
  ·unfold bo;rw[if_pos ⟨by omega,by rw[d.1];omega⟩];simp only[Int.toNat_natCast];rw[pv b,if_neg,if_pos,vJ m];·exact w
   ·show¬24<(dJ (fe p a) (codeOf p a)).length;rw[iq,f.len];have:=ja (fe p a) (codeOf p a).length;have:(codeOf p a).length≤24:=u;omega
  ·rw[h]at k⊢;exact CD k o q
 refine⟨?_,fun a t=>(b a t).2⟩;unfold aL;rw[d.1,if_neg (by omega),if_neg (by omega),if_neg,if_pos];·exact qp _ _ fun e _ l=>by unfold eh;rw[(b e (by omega)).2]
 ·exact qp _ _ fun e _ l=>(b e (by omega)).1
 ·rw[(d.2 0).1];intro v;unfold aL at c;rw[if_neg (by omega),if_neg (by omega),if_pos v]at c;cases c
theorem wG{p:List Fn}(a:aL p=0){k:Nat}(c:k<p.length):du p (codeOf p k):=by obtain⟨_,_,b⟩:=fO a;obtain⟨_,_,d⟩:=pX (b k c);exact⟨p.getD k Fn.zero,rfl,fun f e=>gh d f e⟩
theorem kT{p:List Fn}(a:aL p=0){k:Nat}(b:k<p.length):Cons p (codeOf p k) (bd p k)∧dK p (codeOf p k) (bd p k):=iV (wG a b) (mR a b)
theorem qG{p:List Fn}(b:aL p=0){k:Nat}(c:k<p.length)(a:Nat):-1≤(bd p k).getD a 0∧(bd p k).getD a 0≤8:=by
 by_cases e:a<(bd p k).length
 ·obtain⟨f,i⟩:=kT b c;rcases i a (by rw[←f.len];exact e)with l|⟨m,h⟩;·omega
  ·have:=h (fun _ d=>d≤8) (by omega) (fun o d r q n _ j g _=>(gC (wG b c) (List.mem_of_getElem? j) g).2);exact⟨by omega,this⟩
 ·simp[List.getD,List.getElem?_eq_none (by omega:(bd p k).length≤a)]
theorem yo{p:List Fn}(f:aL p=0):lV p:=by
 intro a l e b h;by_cases i:a<p.length
 ·obtain⟨_,_,g⟩:=fO f;obtain⟨_,_,k⟩:=pX (g a i);obtain⟨_,_,d⟩:=ei (gh k e (List.mem_of_getElem? b));have j:bA e.1.toNat=0:=by rcases h with c|c<;>rw[c]<;>rfl
  rw[j]at d;simpa[bZ]using d
 ·have:codeOf p a=[]:=by unfold codeOf;simp[List.getD,List.getElem?_eq_none (by omega:p.length≤a),Fn.zero]
  rw[this]at b;simp at b
theorem im{p:List Fn}{s:St}(a:ba p s=0):aL p=0∧dX s=0∧iT p s=true:=by
 unfold ba at a;split at a
 ·rename_i b;split at a
  ·rename_i h2;split at a;·rename_i h3;exact⟨b,h2,h3⟩
   ·cases a
  ·rename_i h2;exact absurd a h2
 ·rename_i b;exact absurd a b
theorem oH{p:List Fn}{s:St}(d:ba p s=0):∃b,cB s=some b∧∀a,a<s.I.length→eA p (aa s a) (decide ((a:Int)∈b)) (decide ((a:Int)=s.now))=true:=by
 obtain⟨_,_,h3⟩:=im d;unfold iT at h3;cases c:cB s with
 |none=>rw[c]at h3;cases h3
 |some b=>rw[c]at h3;simp only[Bool.and_eq_true]at h3;refine⟨b,rfl,fun a e=>?_⟩;have:=gM.1 h3.2 a e;simp only[Bool.and_eq_true]at this;exact this.1
theorem uQ{p:List Fn}:∀(l:List Fr)(j:Nat),de p l=true→j+1<l.length→((l.getD j Fr.zero).stack.length:Int)=aZ p (l.getD j Fr.zero)-1
 |[],j,_,b=>by simp at b
 |[e],j,_,b=>by simp at b
 |e::f::d,0,a,_=>by simp only[de,Bool.and_eq_true]at a;obtain⟨c,_⟩:=a;unfold cH at c;simp only[Bool.and_eq_true,decide_eq_true_eq]at c;exact c.1.2
 |e::f::d,j+1,a,b=>by simp only[de,Bool.and_eq_true]at a;exact uQ (f::d) j a.2 (by simpa using b)
theorem iC{p:List Fn}{x:Fr}(a:bK p x=true):(0≤x.fn∧x.fn<p.length)∧(x.locals.length:Int)=(p.getD x.fn.toNat Fn.zero).locals∧(0≤x.at_∧x.at_<(codeOf p x.fn.toNat).length)∧0≤aZ p x:=by unfold bK at a;simp only[Bool.and_eq_true,decide_eq_true_eq]at a;obtain⟨b,h2,h3,c⟩:=a;exact⟨cZ.1 b,h2,cZ.1 h3,c⟩
theorem wH{p:List Fn}{s:St}(f:ba p s=0){k j:Nat}(q:k<s.I.length)(c:j<(aa s k).U.length):bK p (ae s k j)=true∧(ae s k j).stack.length≤8:=by
 obtain⟨t,_,_⟩:=im f;obtain⟨z,_,i⟩:=oH f;have d:=i k q;unfold eA at d;cases e:(aa s k).U.getLast? with
 |none=>have:=List.getLast?_eq_none_iff.1 e;rw[this]at c;simp at c
 |some w=>
  rw[e]at d;simp only[Bool.and_eq_true]at d;obtain⟨l,b⟩:=d;obtain⟨h,o⟩:=(mD p _).1 l;have g:bK p (ae s k j)=true:=jP h c;refine⟨g,?_⟩;obtain⟨⟨A,B⟩,_,_,C⟩:=iC g;have r:=(qG t (k:=(ae s k j).fn.toNat) (by omega) (ae s k j).at_.toNat).2;have y:aZ p (ae s k j)≤8:=r;by_cases n:j+1<(aa s k).U.length;·have:=uQ _ j o n;have h2:((ae s k j).stack.length:Int)=aZ p (ae s k j)-1:=this;omega
  ·have u:w=ae s k j:=by
    rw[List.getLast?_eq_getElem?]at e;have m:j=(aa s k).U.length-1:=by omega
    unfold ae;rw[m];simp[List.getD,e]
   subst u;split at b;·have:=of_decide_eq_true b;omega
   ·split at b;·unfold eU at b;simp only[Bool.and_eq_true,decide_eq_true_eq]at b;have:=b.1.2;omega
    ·simp only[Bool.and_eq_true,Bool.or_eq_true]at b;rcases b.2 with a|a
     ·unfold dH at a;split at a
      ·rename_i x v;simp only[Bool.and_eq_true,decide_eq_true_eq]at a;have:ae s k j=x:=by unfold ae;rw[v]at c⊢;simp at c;rw[c];rfl
       rw[this,a.1.2.2];omega
      ·cases a
     ·unfold eU at a;simp only[Bool.and_eq_true,decide_eq_true_eq]at a;have:=a.1.2;omega
def Path(fs:List Fb):Int→List Int→Prop
 |b,[]=>b=-1
 |b,a::c=>b=a∧0≤a∧a<fs.length∧Path fs (bw fs a) c
theorem vS{fs:List Fb}(g:∀c,c∈fs→-1≤c.caller∧c.caller<fs.length):∀(k:Nat)(n:Int)(b l:List Int),bt fs k n b=some l→-1≤n→n<fs.length→b.Nodup→∃d,l=b++d∧Path fs n d∧l.Nodup
 |0,_,_,_,a,_,_,_=>by cases a
 |k+1,n,b,l,a,r,h2,i=>by
  unfold bt at a;split at a;·obtain rfl:=Option.some.inj a;exact⟨[],by simp,by show n=-1;omega,i⟩
  ·split at a;·cases a
   ·rename_i s o;have h:-1≤bw fs n∧bw fs n<fs.length:=g _ (List.mem_of_getElem? (aD fs n.toNat Fb.zero (by omega)));obtain⟨d,e,p,m⟩:=vS g k _ _ l a h.1 h.2 (by rw[List.nodup_append];refine⟨i,by simp,fun q j c f e=>?_⟩;simp only[List.mem_singleton]at f;subst f e;exact o j);exact⟨n::d,by rw[e];simp,⟨rfl,by omega,h2,p⟩,m⟩
theorem vd{fs:List Fb}:∀(k:Nat)(n:Int)(a b:List Int),Path fs n b→(a++b).Nodup→b.length<k→bt fs k n a=some (a++b)
 |0,_,_,_,_,_,d=>by omega
 |k+1,n,a,[],c,_,_=>by have:n=-1:=c;unfold bt;rw[if_pos (by omega)];simp
 |k+1,n,a,j::b,c,e,f=>by obtain⟨rfl,i,_,h⟩:=c;have g:n∉a:=fun d=>(List.nodup_append.1 e).2.2 n d n (by simp) rfl;unfold bt;rw[if_neg (by omega),if_neg g];have:=vd k (bw fs n) (a++[n]) b h (by simpa using e) (by simpa using f);simpa using this
theorem Path.inside{fs:List Fb}:∀{n:Int}{l:List Int},Path fs n l→∀a,a∈l→0≤a∧a<fs.length
 |_,[],_,a,b=>by cases b
 |_,f::e,⟨_,c,d,h2⟩,a,b=>by
  rcases List.mem_cons.1 b with rfl|b;·exact⟨c,d⟩
  ·exact h2.inside a b
theorem Path.congr{fs fs':List Fb}(f:fs.length≤fs'.length):∀{n:Int}{l:List Int},Path fs n l→(∀a,a∈l→bw fs' a=bw fs a)→Path fs' n l
 |_,[],c,_=>c
 |_,h::i,⟨d,e,h2,h3⟩,b=>⟨d,e,by omega,by rw[b h (by simp)];exact h3.congr f (fun a g=>b a (List.mem_cons_of_mem _ g))⟩
theorem Path.range{fs:List Fb}{n:Int}{l:List Int}(a:Path fs n l):-1≤n∧(n<fs.length∨n=-1):=by
 cases l with
 |nil=>have:n=-1:=a;omega
 |cons e d=>obtain⟨rfl,b,c,_⟩:=a;omega
theorem Path.next{fs:List Fb}:∀{n:Int}{l:List Int},Path fs n l→∀a,a∈l→(bw fs a=-1∧l.getLast?=some a)∨(bw fs a∈l)
 |_,[],_,a,b=>by cases b
 |_,h::d,⟨_,_,_,h3⟩,a,b=>by
  rcases List.mem_cons.1 b with rfl|b
  ·cases d with
   |nil=>exact .inl ⟨h3,rfl⟩
   |cons g f=>obtain⟨c,_⟩:=h3;right;rw[c];simp
  ·rcases h3.next a b with⟨c,e⟩|c
   ·refine .inl ⟨c,?_⟩;cases d with
    |nil=>cases b
    |cons g f=>rw[List.getLast?_cons_cons];exact e
   ·exact .inr (List.mem_cons_of_mem _ c)
structure Good(p:List Fn)(s:St)(l:List Int):Prop where
 prog:aL p=0
 n5:s.I.length≤5
 Km:s.out.length≤30
 f6:∀a,a<s.I.length→(aa s a).U.length≤6
 path:Path s.I s.now l
 nodup:l.Nodup
 last:l=[]∨l.getLast?=some 0
 pos:0<s.I.length
 main:(0:Int)∉l→(aa s 0).U=[]
 each:∀a,a<s.I.length→eA p (aa s a) (decide ((a:Int)∈l)) (decide ((a:Int)=s.now))=true
theorem od{s:St}{b:Fb}(d:b∈s.I):∃a,a<s.I.length∧aa s a=b:=by obtain⟨a,c,rfl⟩:=List.getElem_of_mem d;exact⟨a,c,by simp[aa,List.getD,c]⟩
theorem rI{p:List Fn}{s:St}(g:ba p s=0):∃e,cB s=some e∧Good p s e:=by
 obtain⟨w,r,b⟩:=im g;obtain⟨e,c,n⟩:=oH g;obtain⟨k,j,l,h,⟨t,u⟩,m⟩:=ik r;have a:=c;unfold cB at a;cases d:bt s.I (s.I.length+1) s.now []with
 |none=>rw[d]at a;cases a
 |some z=>
  rw[d]at a;simp only at a;split at a
  ·rename_i q;obtain rfl:=Option.some.inj a;obtain⟨A,f,x,v⟩:=vS m _ _ _ _ d t u List.nodup_nil;rw[List.nil_append]at f;subst f;refine⟨_,c,w,k,j,fun y o=>l _ (ky y o),x,v,q,h,fun i=>?_,n⟩;unfold iT at b;rw[c]at b;simp only[Bool.and_eq_true]at b;have:=gM.1 b.2 0 h;simp only[Bool.and_eq_true,decide_true,Bool.true_and]at this;have h2:=this.2;rw[decide_eq_false i]at h2;have h3:(s.I.getD 0 Fb.zero).U.isEmpty=true:=by simpa using h2
   exact List.isEmpty_iff.1 h3
  ·cases a
theorem Bn{p:List Fn}{b:Fb}{c:Bool}(a:eA p b false c=true)(d:c=false):b.caller=-1:=by
 subst d;unfold eA at a;split at a;·simpa using a
 ·simp only[Bool.and_eq_true,Bool.false_eq_true,if_false,decide_eq_true_eq]at a;exact a.2.1
theorem Good.head{p:List Fn}{s:St}{l:List Int}(c:Good p s l)(e:0≤s.now):∃a,l=s.now::a:=by
 have b:=c.path;cases l with
 |nil=>have:s.now=-1:=b;omega
 |cons f a=>obtain⟨d,_⟩:=b;exact⟨a,by rw[d]⟩
theorem Good.Ka{p:List Fn}{s:St}{l:List Int}(a:Good p s l)(b:0≤s.now):s.now∈l:=by obtain⟨c,rfl⟩:=a.head b;simp
theorem Good.off{p:List Fn}{s:St}{l:List Int}(a:Good p s l){k:Nat}(d:k<s.I.length)(b:(k:Int)∉l):(aa s k).caller=-1:=by have:=a.each k d;rw[decide_eq_false b]at this;refine Bn this (decide_eq_false fun c=>b ?_);rw[c];exact a.Ka (by omega)
theorem Good.caller{p:List Fn}{s:St}{l:List Int}(b:Good p s l){k:Nat}(d:k<s.I.length):-1≤(aa s k).caller∧(aa s k).caller<s.I.length:=by
 by_cases c:(k:Int)∈l
 ·rcases b.path.next _ c with⟨a,_⟩|a;·have:(aa s k).caller=-1:=a;omega
  ·have e:=b.path.inside _ a;have:bw s.I (k:Int)=(aa s k).caller:=rfl;omega
 ·have:=b.off d c;omega
theorem Good.line{p:List Fn}{s:St}{l:List Int}(a:Good p s l):bt s.I (s.I.length+1) s.now []=some l∧cB s=some l:=by
 have c:l.length≤s.I.length:=ju a.nodup a.path.inside;have b:bt s.I (s.I.length+1) s.now []=some l:=by have:=vd (fs:=s.I) (s.I.length+1) s.now [] l a.path (by simpa using a.nodup) (by omega);simpa using this
 refine⟨b,?_⟩;unfold cB;rw[b];simp only;rw[if_pos a.last]
theorem Good.KW{p:List Fn}{s:St}{l:List Int}(a:Good p s l):dX s=0:=by
 have g:=a.path.range;unfold dX;rw[if_pos ⟨a.n5,a.Km⟩,if_pos,if_pos a.pos,if_pos,if_pos];·rw[List.all_eq_true];intro e b;obtain⟨d,c,rfl⟩:=od b;have:=a.caller c;rw[iX];omega
 ·rw[iX];have:=a.pos;rcases g.2 with f|f<;>omega
 ·rw[List.all_eq_true];intro e b;obtain⟨d,c,rfl⟩:=od b;exact decide_eq_true (a.f6 d c)
theorem uz{p:List Fn}{s:St}{l:List Int}(a:Good p s l):ba p s=0:=by
 unfold ba;rw[if_pos a.prog,if_pos a.KW,if_pos];unfold iT;rw[a.line.2];simp only[Bool.and_eq_true];have d:(0:Int)∉l→(s.I.getD 0 Fb.zero).U.isEmpty=true:=fun b=>List.isEmpty_iff.2 (a.main b);constructor
 ·by_cases g:s.now=-1
  ·have:l=[]:=by
    have h:=a.path;cases l with
    |nil=>rfl
    |cons k j=>obtain⟨i,h2,_⟩:=h;omega
   rw[d (by rw[this];simp)];simp
  ·rw[decide_eq_false g];rfl
 ·rw[gM];intro e f;simp only[Bool.and_eq_true];refine⟨a.each e f,?_⟩;by_cases b:e=0
  ·by_cases c:(0:Int)∈l;·rw[decide_eq_true c];simp
   ·rw[d c];simp
  ·rw[decide_eq_false b];rfl
theorem mJ{p:List Fn}:∀(l:List Fr)(u t:Fr),de p (l++[u,t])=(de p (l++[u])&&cH p u (11,t.fn))
 |[],u,t=>by simp[de]
 |[a],u,t=>by simp[de]
 |a::b::l,u,t=>by have:=mJ (p:=p) (b::l) u t;simp only[List.cons_append,de]at this⊢;rw[this,Bool.and_assoc]
theorem Dh{p:List Fn}(l:List Fr)(t t':Fr)(a:t'.fn=t.fn):de p (l++[t'])=de p (l++[t]):=by
 rcases List.eq_nil_or_concat l with rfl|⟨b,c,rfl⟩;·rfl
 ·simp only[List.concat_eq_append,List.append_assoc,List.cons_append,List.nil_append];rw[mJ,mJ,a]
def ec(p:List Fn)(fs:List Fr)(t:Fr):Prop:=(∀a,a∈fs→bK p a=true)∧bK p t=true∧de p (fs++[t])=true
theorem ec.bool{p:List Fn}{fs:List Fr}{t:Fr}:iD p (fs++[t])=true↔ec p fs t:=by rw[mD];unfold ec;simp only[List.all_append,List.all_cons,List.all_nil,Bool.and_true,Bool.and_eq_true,List.all_eq_true];exact and_assoc
theorem ec.JO{p:List Fn}{fs:List Fr}{t t':Fr}(a:ec p fs t)(c:bK p t'=true)(b:t'.fn=t.fn):ec p fs t':=⟨a.1,c,by rw[Dh _ _ _ b];exact a.2.2⟩
theorem ec.push{p:List Fn}{fs:List Fr}{t u:Fr}(b:ec p fs t)(e:cH p t (11,u.fn)=true)(d:bK p u=true):ec p (fs++[t]) u:=by
 refine⟨fun c a=>?_,d,?_⟩
 ·rcases List.mem_append.1 a with a|a;·exact b.1 c a
  ·rw[List.mem_singleton.1 a];exact b.2.1
 ·rw[List.append_assoc];show de p (fs++[t,u])=true;rw[mJ,b.2.2,e];rfl
theorem ec.pop{p:List Fn}{fs:List Fr}{t u:Fr}(d:ec p (fs++[t]) u):ec p fs t∧cH p t (11,u.fn)=true:=by obtain⟨b,_,h3⟩:=d;rw[List.append_assoc]at h3;have a:de p (fs++[t,u])=true:=h3;rw[mJ,Bool.and_eq_true]at a;exact⟨⟨fun c e=>b c (by simp[e]),b t (by simp),a.1⟩,a.2⟩
theorem iy{p:List Fn}{fs:List Fr}{t:Fr}{c:Int}{a b:Bool}:eA p ⟨fs++[t],c⟩ a b=true↔ec p fs t∧(if b=true then(t.stack.length:Int)=aZ p t else if a=true then eU p t 14 0=true else c=-1∧(dH p ⟨fs++[t],c⟩=true∨eU p t 15 0=true)):=by unfold eA;simp only[List.getLast?_append,List.getLast?_singleton,Option.some_or,Bool.and_eq_true,ec.bool];cases b<;>cases a<;>simp
theorem qo{p:List Fn}{c:Int}{a b:Bool}:eA p ⟨[],c⟩ a b=true↔a=false∧c=-1:=by unfold eA;simp
theorem Fb.form(b:Fb):b=⟨[],b.caller⟩∨∃c d,b=⟨c++[d],b.caller⟩:=by
 rcases List.eq_nil_or_concat b.U with a|⟨c,d,a⟩;·left;rw[←a]
 ·right;exact⟨c,d,by rw[List.concat_eq_append]at a;rw[←a]⟩
theorem Good.on{p:List Fn}{s:St}{l:List Int}(b:Good p s l){k:Nat}(c:(k:Int)∈l):∃d e,aa s k=⟨d++[e],(aa s k).caller⟩:=by
 rcases Fb.form (aa s k)with a|a;·have:=b.each k (by have:=b.path.inside _ c;omega);rw[a,qo,decide_eq_true c]at this;cases this.1
 ·exact a
