import Derived.Test.YtokhibfenccijaaGreatDoorQB17
set_option maxRecDepth 100000
set_option maxHeartbeats 8000000
namespace Go.Proofs.YtokhibfenccijaaGreatDoor
open Go.Proofs.Tryz
theorem ea(s:St)(n:Nat)(a b:Fb):ak (ak s n a) n b=ak s n b:=by simp[ak]
structure eY(s:St)(n:Nat)(fs:List Fr)(t:Fr)(c:Int):Prop where
 lt:n<s.I.length
 eq:aa s n=⟨fs++[t],c⟩
theorem eY.set{s:St}{n:Nat}{fs:List Fr}{t:Fr}{c:Int}(a:eY s n fs t c)(gs:List Fr)(u:Fr)(d:Int):eY (ak s n ⟨gs++[u],d⟩) n gs u d:=⟨by rw[bj];exact a.lt,bV _ a.lt⟩
theorem lP{s:St}{n:Nat}{fs:List Fr}{t:Fr}{c:Int}(a:eY s n fs t c)(g:Fr→Fr):s.JT (n:Int) g=ak s n ⟨fs++[g t],c⟩:=by unfold St.JT;rw[fA,a.eq];unfold Fb.JT Fb.top;simp
theorem jJ{s:St}{n:Nat}{fs:List Fr}{t:Fr}{c:Int}(a:eY s n fs t c)(b:s.now=n):s.top=t:=by unfold St.top;rw[b,ez,a.eq];simp[Fb.top]
def Fr.JN(t:Fr)(l:List Int):Fr:=⟨t.fn,t.at_,t.locals,l⟩
theorem jG{s:St}{n:Nat}{fs:List Fr}{t:Fr}{c:Int}(a:eY s n fs t c)(v:Int):aO s n v=ak s n ⟨fs++[t.JN (t.stack++[v])],c⟩:=lP a _
theorem iF{s:St}{n:Nat}{fs:List Fr}{t:Fr}{c:Int}(a:eY s n fs t c)(b:s.now=n):af s=ak s n ⟨fs++[t.JN t.stack.dropLast],c⟩:=by unfold af;rw[b,lP a];rfl
theorem rU{s:St}{n:Nat}{fs:List Fr}{t:Fr}{c:Int}(b:eY s n fs t c)(d:s.now=n)(a:Int):setAt s a=ak s n ⟨fs++[{t with at_:=a}],c⟩:=by unfold setAt;rw[d,lP b]
theorem kg{s:St}{n:Nat}{fs:List Fr}{t:Fr}{c:Int}(a:eY s n fs t c)(b:s.now=n):aq s=t.stack.getLast?.getD 0:=by unfold aq;rw[jJ a b]
structure Op(p:List Fn)(s:St)(n:Nat)(fs:List Fr)(t:Fr)(c:Int)(kd a:Int):Prop where
 JR:eY s n fs t c
 now:s.now=n
 op:(codeOf p t.fn.toNat).getD t.at_.toNat (0,0)=(kd,a)
def Fr.on(t:Fr):Fr:=⟨t.fn,t.at_+1,t.locals,t.stack⟩
section
variable {p:List Fn}{s:St}{n:Nat}{fs:List Fr}{t:Fr}{c:Int}{kd a:Int}
theorem Op.next(b:Op p s n fs t c kd a):setAt s (s.top.at_+1)=ak s n ⟨fs++[t.on],c⟩:=by rw[rU b.JR b.now,jJ b.JR b.now];rfl
theorem ix(d:Op p s n fs t c kd a){b:St}(e:ak s n ⟨fs++[t.on],c⟩=b):aU p s=(if kd=0 then(aO b n a,0)else if kd=1 then(af b,0)else if kd=2 then(aO b n (t.locals.getD a.toNat 0),0)else if kd=3 then((af b).JT n fun f=>{f with locals:=f.locals.set a.toNat (aq b)},0)else if kd=9 then(setAt b a,0)else if kd=10 then(if aq b=0 then setAt (af b) a else af b,0)else if kd=11 then fK p b a else if kd=12 then ek b else if kd=13 then eC p b a else if kd=14 then eS b else if kd=15 then eI b else if kd=16 then cm (af b) (aq b)else(aO (af (af b)) n (dq kd (aq (af b)) (aq b)),0)):=by
 have h:s.top=t:=jJ d.JR d.now;have g:b.now=n:=by rw[←e];exact d.now
 have i:b.top=t.on:=by rw[←e];exact jJ (d.JR.set fs t.on c) d.now
 unfold aU;simp only;rw[d.next,h,d.op,e];simp only[g,i];rfl
theorem AO(o:Op p s n fs t c kd a)(G:0≤kd)(H:kd≤10){ta lb:Int}(k:ct p kd a=(ta,lb,0))(K:ta≤t.stack.length)(I:0≤t.at_)(y:kd=9∨kd=10→0≤a):∃m z,aU p s=(ak s n ⟨fs++[m],c⟩,0)∧m.fn=t.fn∧m.locals.length=t.locals.length∧(m.stack.length:Int)=t.stack.length-ta+lb∧z∈bx (kd,a) t.at_.toNat∧m.at_=(z:Int):=by
 have i:=o.JR.set fs t.on c;have u:(ak s n ⟨fs++[t.on],c⟩).now=n:=o.now;have h:t.on.at_=((t.at_.toNat+1:Nat):Int):=by show t.at_+1=_;omega
 have e:=iF i u;have j:=i.set fs (t.on.JN (t.on.stack.dropLast)) c;rw[←e]at j;have v:(af (ak s n ⟨fs++[t.on],c⟩)).now=n:=by rw[e];exact o.now
 rw[ix o rfl];have b:t.on.stack=t.stack:=rfl;have F:t.on.locals=t.locals:=rfl;have D:kd≠11→ta=tk kd.toNat∧lb=lv kd.toNat:=fun E=>by unfold ct at k;rw[if_pos (by omega),if_neg E]at k;simp only[Prod.mk.injEq]at k;exact⟨k.1.symm,k.2.1.symm⟩
 obtain⟨g,f⟩:=D (by omega);have l:kd≠9→kd≠10→bx (kd,a) t.at_.toNat=[t.at_.toNat+1]:=fun d h2=>by unfold bx;simp only;rw[if_neg (by omega),if_neg d,if_neg h2]
 by_cases k0:kd=0;·subst k0;rw[if_pos rfl,jG i,ea];refine⟨_,_,rfl,rfl,rfl,?_,by rw[l (by omega) (by omega)];exact List.mem_singleton.2 rfl,h⟩;have d:ta=0:=g;have h2:lb=1:=f;simp only[Fr.JN,List.length_append,List.length_singleton,b];omega
 rw[if_neg k0];by_cases A:kd=1;·subst A;rw[if_pos rfl,e,ea];refine⟨_,_,rfl,rfl,rfl,?_,by rw[l (by omega) (by omega)];exact List.mem_singleton.2 rfl,h⟩;have d:ta=1:=g;have h2:lb=0:=f;simp only[Fr.JN,List.length_dropLast,b];omega
 rw[if_neg A];by_cases B:kd=2;·subst B;rw[if_pos rfl,jG i,ea];refine⟨_,_,rfl,rfl,rfl,?_,by rw[l (by omega) (by omega)];exact List.mem_singleton.2 rfl,h⟩;have d:ta=0:=g;have h2:lb=1:=f;simp only[Fr.JN,List.length_append,List.length_singleton,b];omega
 rw[if_neg B];by_cases C:kd=3;·subst C;rw[if_pos rfl,lP j,e,ea,ea];refine⟨_,_,rfl,rfl,by simp[Fr.JN,F],?_,by rw[l (by omega) (by omega)];exact List.mem_singleton.2 rfl,h⟩;have d:ta=1:=g;have h2:lb=0:=f;simp only[Fr.JN,List.length_dropLast,b];omega
 rw[if_neg C];by_cases r:kd=9;·subst r;rw[if_pos rfl,rU i u,ea];have d:ta=0:=g;have h2:lb=0:=f;have:=y (.inl rfl);refine⟨_,a.toNat,rfl,rfl,rfl,?_,by simp[bx],by show a=_;omega⟩;simp only[b];omega
 rw[if_neg r];by_cases q:kd=10
 ·subst q;have d:ta=1:=g;have h2:lb=0:=f;have:=y (.inr rfl);rw[if_pos rfl];split;·rw[rU j v,e,ea,ea];refine⟨_,a.toNat,rfl,rfl,rfl,?_,by simp[bx],by show a=_;omega⟩;simp only[Fr.JN,List.length_dropLast,b];omega
  ·rw[e,ea];refine⟨_,t.at_.toNat+1,rfl,rfl,rfl,?_,by simp[bx],h⟩;simp only[Fr.JN,List.length_dropLast,b];omega
 rw[if_neg q,if_neg (by omega),if_neg (by omega),if_neg (by omega),if_neg (by omega),if_neg (by omega),if_neg (by omega)];have w:=iF j v;have x:=j.set fs ((t.on.JN t.on.stack.dropLast).JN (t.on.JN t.on.stack.dropLast).stack.dropLast) c;rw[←w]at x;rw[jG x,w,e];simp only[ea];refine⟨_,_,rfl,rfl,rfl,?_,by rw[l r q];exact List.mem_singleton.2 rfl,h⟩;have h3:ta=2∧lb=1:=by
  have:kd=4∨kd=5∨kd=6∨kd=7∨kd=8:=by omega
  rcases this with rfl|rfl|rfl|rfl|rfl<;>exact⟨g,f⟩
 simp only[Fr.JN,List.length_append,List.length_singleton,List.length_dropLast,b];omega
theorem Co(b:Op p s n fs t c 11 a):aU p s=if fs.length+1=6 then(St.zero,2)else(ak s n ⟨fs++[(t.on.JN (t.stack.take (t.stack.length-(p.getD a.toNat Fn.zero).args.toNat)))]++[dM p a (t.stack.drop (t.stack.length-(p.getD a.toNat Fn.zero).args.toNat))],c⟩,0):=by
 have e:=b.JR.set fs t.on c;have d:(ak s n ⟨fs++[t.on],c⟩).now=n:=b.now;rw[ix b rfl];simp only[show¬((11:Int)=0)by omega,show¬((11:Int)=1)by omega,show¬((11:Int)=2)by omega,show¬((11:Int)=3)by omega,show¬((11:Int)=9)by omega,show¬((11:Int)=10)by omega,if_false,if_true];unfold fK;simp only[d,jJ e d,lP e,ez,fA];rw[ea,bV _ b.JR.lt];simp only[List.length_append,List.length_singleton];split;·rfl
 ·rw[ea];rfl
theorem mU{l:List Int}(d:0<l.length):∃a b,l=a++[b]:=by
 rcases List.eq_nil_or_concat l with rfl|⟨a,b,c⟩;·simp at d
 ·exact⟨a,b,by rw[c,List.concat_eq_append]⟩
theorem Iq{l:List Int}(d:2≤l.length):∃a c b,l=a++[c,b]:=by obtain⟨a,b,rfl⟩:=mU (l:=l) (by omega);simp only[List.length_append,List.length_singleton]at d;obtain⟨e,c,rfl⟩:=mU (l:=a) (by omega);exact⟨e,c,b,by simp⟩
theorem AM{gs:List Fr}{u:Fr}(b:Op p s n (gs++[u]) t c 12 a){st:List Int}{v:Int}(g:t.stack=st++[v]):aU p s=(ak s n ⟨gs++[(u.JN (u.stack++[v]))],c⟩,0):=by have e:=b.JR.set (gs++[u]) t.on c;have d:(ak s n ⟨gs++[u]++[t.on],c⟩).now=n:=b.now;have h:t.on.stack=st++[v]:=g;rw[ix b rfl];simp only[show¬((12:Int)=0)by omega,show¬((12:Int)=1)by omega,show¬((12:Int)=2)by omega,show¬((12:Int)=3)by omega,show¬((12:Int)=9)by omega,show¬((12:Int)=10)by omega,show¬((12:Int)=11)by omega,if_false,if_true];unfold ek;simp only[d,kg e d,iF e d,ez,fA,h,List.getLast?_append,List.getLast?_singleton,Option.some_or,Option.getD_some];simp only[ea,bV _ b.JR.lt];simp only[List.dropLast_concat];rw[if_neg (by simp)];have f:=b.JR.set gs u c;rw[jG f,ea]
theorem AL(b:Op p s n [] t c 12 a){st:List Int}{v:Int}(g:t.stack=st++[v])(f:c<0):aU p s=cm {ak s n ⟨[],c⟩with now:=-1} v:=by have e:=b.JR.set [] t.on c;have d:(ak s n ⟨[]++[t.on],c⟩).now=n:=b.now;have h:t.on.stack=st++[v]:=g;rw[ix b rfl];simp only[show¬((12:Int)=0)by omega,show¬((12:Int)=1)by omega,show¬((12:Int)=2)by omega,show¬((12:Int)=3)by omega,show¬((12:Int)=9)by omega,show¬((12:Int)=10)by omega,show¬((12:Int)=11)by omega,if_false,if_true];unfold ek;simp only[d,kg e d,iF e d,ez,fA,h,List.getLast?_append,List.getLast?_singleton,Option.some_or,Option.getD_some];simp only[ea,bV _ b.JR.lt];simp[f]
theorem tR{s:St}{n m:Nat}(a:n≠m)(b:Fb):aa (ak s n b) m=aa s m:=cS b a
theorem AN(b:Op p s n [] t c 12 a){st:List Int}{v:Int}(k:t.stack=st++[v]){m:Nat}(i:c=m)(j:n≠m){gs:List Fr}{u:Fr}{d:Int}(g:eY s m gs u d):aU p s=({ak (ak s n ⟨[],-1⟩) m ⟨gs++[(u.JN (u.stack++[v]))],d⟩with now:=m},0):=by have f:=b.JR.set [] t.on c;have e:(ak s n ⟨[]++[t.on],c⟩).now=n:=b.now;have l:t.on.stack=st++[v]:=k;rw[ix b rfl];simp only[show¬((12:Int)=0)by omega,show¬((12:Int)=1)by omega,show¬((12:Int)=2)by omega,show¬((12:Int)=3)by omega,show¬((12:Int)=9)by omega,show¬((12:Int)=10)by omega,show¬((12:Int)=11)by omega,if_false,if_true];unfold ek;simp only[e,kg f e,iF f e,ez,fA,l,List.getLast?_append,List.getLast?_singleton,Option.some_or,Option.getD_some];simp only[ea,bV _ b.JR.lt];rw[if_pos (by simp),if_neg (by omega)];simp only[i];have h:eY {ak s n ⟨[],-1⟩with now:=(m:Int)} m gs u d:=⟨by show m<(ak s n ⟨[],-1⟩).I.length;rw[bj];exact g.lt,(tR j _).trans g.eq⟩;have:=jG h v;simp only[List.nil_append,List.dropLast_singleton]at this⊢;rw[this];rfl
theorem Cp(b:Op p s n fs t c 13 a):aU p s=if s.I.length=5 then(St.zero,2)else({s with I:=(ak s n ⟨fs++[(t.on.JN (t.stack++[(s.I.length:Int)]))],c⟩).I++[⟨[dM p a []],-1⟩]},0):=by have e:=b.JR.set fs t.on c;have d:(ak s n ⟨fs++[t.on],c⟩).now=n:=b.now;rw[ix b rfl];simp only[show¬((13:Int)=0)by omega,show¬((13:Int)=1)by omega,show¬((13:Int)=2)by omega,show¬((13:Int)=3)by omega,show¬((13:Int)=9)by omega,show¬((13:Int)=10)by omega,show¬((13:Int)=11)by omega,show¬((13:Int)=12)by omega,if_false,if_true];unfold eC;rw[d,bj,jG e,ea];rfl
theorem Cs(b:Op p s n fs t c 15 a)(f:c<0):aU p s=(St.zero,7):=by have e:=b.JR.set fs t.on c;have d:(ak s n ⟨fs++[t.on],c⟩).now=n:=b.now;rw[ix b rfl];simp only[show¬((15:Int)=0)by omega,show¬((15:Int)=1)by omega,show¬((15:Int)=2)by omega,show¬((15:Int)=3)by omega,show¬((15:Int)=9)by omega,show¬((15:Int)=10)by omega,show¬((15:Int)=11)by omega,show¬((15:Int)=12)by omega,show¬((15:Int)=13)by omega,show¬((15:Int)=14)by omega,if_false,if_true];unfold eI;simp only[d,iF e d,ez];rw[ea,bV _ b.JR.lt,if_pos f]
theorem AS(b:Op p s n fs t c 15 a){st:List Int}{v:Int}(k:t.stack=st++[v]){m:Nat}(i:c=m)(j:n≠m){gs:List Fr}{u:Fr}{d:Int}(g:eY s m gs u d):aU p s=({ak (ak s n ⟨fs++[(t.on.JN (st))],-1⟩) m ⟨gs++[(u.JN (u.stack++[v]))],d⟩with now:=m},0):=by have f:=b.JR.set fs t.on c;have e:(ak s n ⟨fs++[t.on],c⟩).now=n:=b.now;have l:t.on.stack=st++[v]:=k;rw[ix b rfl];simp only[show¬((15:Int)=0)by omega,show¬((15:Int)=1)by omega,show¬((15:Int)=2)by omega,show¬((15:Int)=3)by omega,show¬((15:Int)=9)by omega,show¬((15:Int)=10)by omega,show¬((15:Int)=11)by omega,show¬((15:Int)=12)by omega,show¬((15:Int)=13)by omega,show¬((15:Int)=14)by omega,if_false,if_true];unfold eI;simp only[e,kg f e,iF f e,ez,fA,l,List.getLast?_append,List.getLast?_singleton,Option.some_or,Option.getD_some,List.dropLast_concat];simp only[ea,bV _ b.JR.lt];rw[if_neg (by omega)];simp only[i];have h:eY {ak s n ⟨fs++[(t.on.JN (st))],-1⟩with now:=(m:Int)} m gs u d:=⟨by show m<(ak s n _).I.length;rw[bj];exact g.lt,(tR j _).trans g.eq⟩;have:=jG h v;rw[this];rfl
theorem Cq(b:Op p s n fs t c 16 a){st:List Int}{v:Int}(f:t.stack=st++[v]):aU p s=cm (ak s n ⟨fs++[(t.on.JN (st))],c⟩) v:=by have e:=b.JR.set fs t.on c;have d:(ak s n ⟨fs++[t.on],c⟩).now=n:=b.now;have g:t.on.stack=st++[v]:=f;rw[ix b rfl];simp only[show¬((16:Int)=0)by omega,show¬((16:Int)=1)by omega,show¬((16:Int)=2)by omega,show¬((16:Int)=3)by omega,show¬((16:Int)=9)by omega,show¬((16:Int)=10)by omega,show¬((16:Int)=11)by omega,show¬((16:Int)=12)by omega,show¬((16:Int)=13)by omega,show¬((16:Int)=14)by omega,show¬((16:Int)=15)by omega,if_false,if_true];rw[kg e d,iF e d,ea,g];simp
def Fr.JY(u:Fr)(v:Int):Fr:=if u.at_=0 then⟨u.fn,u.at_,u.locals.set 0 v,u.stack⟩else u.JN (u.stack++[v])
theorem Cr(d:Op p s n fs t c 14 a){st:List Int}{x v:Int}(M:t.stack=st++[x,v]):aU p s=if aX x s.I.length=true then(if x∈(bt s.I (s.I.length+1) s.now []).getD []∨(aa (ak s n ⟨fs++[(t.on.JN (st))],c⟩) x.toNat).U=[]then(St.zero,6)else({(ak (ak s n ⟨fs++[(t.on.JN (st))],c⟩) x.toNat ((⟨(aa (ak s n ⟨fs++[(t.on.JN (st))],c⟩) x.toNat).U,n⟩:Fb).JT fun g=>g.JY v))with now:=x},0))else(St.zero,5):=by
 have w:=d.JR.set fs t.on c;have q:(ak s n ⟨fs++[t.on],c⟩).now=n:=d.now;have C:t.on.stack=st++[x,v]:=M;have D:(st++[x,v]).dropLast=st++[x]:=by
  have:st++[x,v]=(st++[x])++[v]:=by simp
  rw[this,List.dropLast_concat]
 have i:=iF w q;rw[ea,C,D]at i;have y:eY (af (ak s n ⟨fs++[t.on],c⟩)) n fs (t.on.JN (st++[x])) c:=by rw[i];exact d.JR.set _ _ _
 have r:(af (ak s n ⟨fs++[t.on],c⟩)).now=n:=by rw[i];exact d.now
 have u:=iF y r;rw[i,ea,show(t.on.JN (st++[x])).stack.dropLast=st from List.dropLast_concat,show(t.on.JN (st++[x])).JN st=t.on.JN st from rfl]at u;rw[ix d rfl];simp only[show¬((14:Int)=0)by omega,show¬((14:Int)=1)by omega,show¬((14:Int)=2)by omega,show¬((14:Int)=3)by omega,show¬((14:Int)=9)by omega,show¬((14:Int)=10)by omega,show¬((14:Int)=11)by omega,show¬((14:Int)=12)by omega,show¬((14:Int)=13)by omega,if_false,if_true];unfold eS;have G:aq (ak s n ⟨fs++[t.on],c⟩)=v:=by rw[kg w q,C];simp
 have H:aq (af (ak s n ⟨fs++[t.on],c⟩))=x:=by rw[kg y r,show(t.on.JN (st++[x])).stack=st++[x]from rfl];simp
 simp only[G,H];rw[i,u];have I:∀k l j,bt (ak s n ⟨fs++[(t.on.JN (st))],c⟩).I k l j=bt s.I k l j:=fun k l j=>ld (fun o=>by
  show(aa (ak s n _) o.toNat).caller=(aa s o.toNat).caller;by_cases f:n=o.toNat;·rw[←f,bV _ d.JR.lt,d.JR.eq]
  ·rw[cS _ f]) k l j;have L:(ak s n ⟨fs++[(t.on.JN (st))],c⟩).now=s.now:=rfl;rw[I,L,bj];generalize B:ak s n ⟨fs++[(t.on.JN (st))],c⟩=e;have N:e.now=n:=by rw[←B];exact d.now
 split
 ·rename_i F;obtain⟨O,P⟩:=cZ.1 F;obtain⟨b,rfl⟩:∃b:Nat,x=b:=⟨x.toNat,by omega⟩;simp only[ez,Int.toNat_natCast];split;·rfl
  ·rename_i K;simp only[fA];have E:(aa e b).U≠[]:=fun f=>K (.inr f);obtain⟨h,g,z⟩:∃h g,(aa e b).U=h++[g]:=by
    rcases List.eq_nil_or_concat (aa e b).U with f|⟨h,g,f⟩;·exact absurd f E
    ·exact⟨h,g,by rw[f,List.concat_eq_append]⟩
   have A:b<e.I.length:=by rw[←B,bj];omega
   have m:eY {ak e b {aa e b with caller:=s.now}with now:=(b:Int)} b h g s.now:=⟨by show b<(ak e b _).I.length;rw[bj];exact A,by show aa (ak e b _) b=_;rw[bV _ A,←z]⟩;rw[jJ m rfl,lP m,jG m,z];unfold Fb.JT Fb.top Fr.JY;rw[d.now];simp only[List.getLast?_append,List.getLast?_singleton,Option.some_or,Option.getD_some,List.length_append,List.length_singleton];split<;>simp[ak,Fr.JN]
 ·rfl
end
end Go.Proofs.YtokhibfenccijaaGreatDoor
namespace Go.Proofs.YtokhibfenccijaaGreatDoor
open Go.Proofs.Tryz
theorem Good.of{p:List Fn}{s b:St}{l c:List Int}(f:Good p s l)(g:b.I.length=s.I.length)(o:b.out.length≤30)(q:Path b.I b.now c)(n:c.Nodup)(k:c=[]∨c.getLast?=some 0)(m:(0:Int)∉c→(aa b 0).U=[])(h:∀a,a<s.I.length→(aa b a=aa s a∧((a:Int)∈c↔(a:Int)∈l)∧((a:Int)=b.now↔(a:Int)=s.now))∨(eA p (aa b a) (decide ((a:Int)∈c)) (decide ((a:Int)=b.now))=true∧(aa b a).U.length≤6)):Good p b c:=by
 refine⟨f.prog,by rw[g];exact f.n5,o,fun a e=>?_,q,n,k,by rw[g];exact f.pos,m,fun a e=>?_⟩
 ·rw[g]at e;rcases h a e with⟨d,_⟩|⟨_,d⟩;·rw[d];exact f.f6 a e
  ·exact d
 ·rw[g]at e;rcases h a e with⟨d,i,j⟩|⟨d,_⟩;·rw[d,decide_eq_decide.2 i,decide_eq_decide.2 j];exact f.each a e
  ·exact d
theorem jT{s:St}{n:Nat}{b:Fb}(d:n<s.I.length)(z:Int):bw (ak s n b).I z=if z.toNat=n then b.caller else bw s.I z:=by
 show(aa (ak s n b) z.toNat).caller=_;by_cases a:z.toNat=n;·rw[if_pos a,a,bV _ d]
 ·rw[if_neg a,cS _ (fun c=>a c.symm)];rfl
section
variable {p:List Fn}{s:St}{l:List Int}
theorem Good.stay(a:Good p s l){n:Nat}(h:s.now=n){fs:List Fr}{t:Fr}{c:Int}(g:n<s.I.length)(k:(aa s n).caller=c)(m:ec p fs t)(v:(t.stack.length:Int)=aZ p t)(j:fs.length+1≤6)(o:List Int)(u:o.length≤30):Good p {ak s n ⟨fs++[t],c⟩with out:=o} l:=by
 have q:(n:Int)∈l:=by rw[←h];exact a.Ka (by omega)
 refine a.of (bj _ _ _) u ?_ a.nodup a.last (fun f=>?_) (fun x y=>?_)
 ·refine a.path.congr (by show s.I.length≤(ak s n _).I.length;rw[bj];omega) (fun d w=>?_);have:=jT (s:=s) (b:=⟨fs++[t],c⟩) g d;have z:=a.path.inside d w;show bw (ak s n ⟨fs++[t],c⟩).I d=_;rw[this];split
  ·rename_i e;have:bw s.I d=(aa s n).caller:=by show(aa s d.toNat).caller=_;rw[e]
   rw[this,k]
  ·rfl
 ·have r:n≠0:=by rintro rfl;exact f q
  show(aa (ak s n _) 0).U=[];rw[cS _ r];exact a.main f
 ·by_cases e:n=x;·subst e;right;have i:aa {ak s n ⟨fs++[t],c⟩with out:=o} n=⟨fs++[t],c⟩:=bV _ g;rw[i];refine⟨iy.2 ⟨m,?_⟩,by simpa using j⟩;exact(if_pos (decide_eq_true h.symm)).mpr v
  ·exact .inl ⟨cS _ e,Iff.rfl,Iff.rfl⟩
theorem Good.back(e:Good p s l){n m:Nat}(k:s.now=n)(t:n<s.I.length)(D:(aa s n).caller=m){b:Fb}(C:eA p b false false=true)(B:b.U.length≤6){gs:List Fr}{u:Fr}{d:Int}(F:(aa s m).caller=d)(L:ec p gs u)(K:(u.stack.length:Int)=aZ p u)(A:gs.length+1≤6):∃h,l=(n:Int)::(m:Int)::h∧Good p {ak (ak s n b) m ⟨gs++[u],d⟩with now:=m} ((m:Int)::h):=by
 obtain⟨P,rfl⟩:=e.head (by omega);have I:=e.path;obtain⟨_,_,_,o⟩:=I;have E:bw s.I s.now=m:=by rw[k];exact D
 rw[E]at o;cases P with
 |nil=>have:(m:Int)=-1:=o;omega
 |cons X h=>
  obtain⟨M,N,O,x⟩:=o;subst M;have w:=e.nodup;rw[k]at w;have g:=(List.nodup_cons.1 w);have S:n≠m:=by rintro rfl;exact g.1 (by simp)
  have H:m<s.I.length:=by omega
  have j:m<(ak s n b).I.length:=by rw[bj];exact H
  refine⟨h,by rw[k],?_⟩;have G:∀a,aa {ak (ak s n b) m ⟨gs++[u],d⟩with now:=(m:Int)} a=if a=m then⟨gs++[u],d⟩else if a=n then b else aa s a:=fun a=>by
   show aa (ak (ak s n b) m _) a=_;by_cases c:a=m;·rw[if_pos c,c,bV _ j]
   ·rw[if_neg c,cS _ (fun e=>c e.symm)];by_cases f:a=n;·rw[if_pos f,f,bV _ t]
    ·rw[if_neg f,cS _ (fun e=>f e.symm)]
  have v:(m::h:List Int).getLast?=some 0:=by
   rcases e.last with c|c;·cases c
   ·rw[List.getLast?_cons_cons]at c;exact c
  refine e.of (by show(ak (ak s n b) m _).I.length=_;rw[bj,bj]) e.Km ?_ g.2 (.inr v) (fun z=>absurd (List.mem_of_getLast? v) z) (fun a Q=>?_)
  ·refine⟨rfl,N,by show(m:Int)<(ak (ak s n b) m _).I.length;rw[bj,bj];exact O,?_⟩;have y:bw (ak (ak s n b) m ⟨gs++[u],d⟩).I m=bw s.I m:=by rw[jT j,if_pos (by omega)];exact F.symm
   show Path (ak (ak s n b) m ⟨gs++[u],d⟩).I _ _;rw[y];refine x.congr (by rw[bj,bj];omega) (fun r q=>?_);have V:r≠m:=by rintro rfl;exact(List.nodup_cons.1 g.2).1 q
   have W:r≠n:=by rintro rfl;exact g.1 (List.mem_cons_of_mem _ q)
   have T:=x.inside r q;rw[jT j,if_neg (by omega),jT t,if_neg (by omega)]
  ·rw[G a];by_cases c:a=m;·subst c;rw[if_pos rfl];right;refine⟨iy.2 ⟨L,?_⟩,by simpa using A⟩;rw[if_pos (decide_eq_true rfl)];exact K
   ·rw[if_neg c];by_cases f:a=n;·subst f;rw[if_pos rfl];right;rw[decide_eq_false g.1,decide_eq_false (show¬((a:Int)=(m:Int))by omega)];exact⟨C,B⟩
    ·rw[if_neg f];left;refine⟨rfl,?_,?_⟩
     ·have:¬(a:Int)=s.now:=by omega
      simp[this]
     ·constructor;·intro i;have i:(a:Int)=(m:Int):=i;omega
      ·intro i;omega
theorem Good.KT(d:Good p s l){n m:Nat}(q:s.now=n)(k:n<s.I.length)(B:m<s.I.length)(h:(m:Int)∉l){fs:List Fr}{t:Fr}{c:Int}(y:(aa s n).caller=c)(z:ec p fs t)(E:eU p t 14 0=true)(w:fs.length+1≤6){gs:List Fr}{u:Fr}(D:ec p gs u)(C:(u.stack.length:Int)=aZ p u)(x:gs.length+1≤6):Good p {ak (ak s n ⟨fs++[t],c⟩) m ⟨gs++[u],n⟩with now:=m} ((m:Int)::l):=by
 have j:(n:Int)∈l:=by rw[←q];exact d.Ka (by omega)
 have G:n≠m:=by rintro rfl;exact h j
 have i:m<(ak s n ⟨fs++[t],c⟩).I.length:=by rw[bj];exact B
 have A:∀a,aa {ak (ak s n ⟨fs++[t],c⟩) m ⟨gs++[u],n⟩with now:=(m:Int)} a=if a=m then⟨gs++[u],n⟩else if a=n then⟨fs++[t],c⟩else aa s a:=fun a=>by
  show aa (ak (ak s n _) m _) a=_;by_cases b:a=m;·rw[if_pos b,b,bV _ i]
  ·rw[if_neg b,cS _ (fun d=>b d.symm)];by_cases e:a=n;·rw[if_pos e,e,bV _ k]
   ·rw[if_neg e,cS _ (fun d=>e d.symm)]
 have o:((m:Int)::l).getLast?=some 0:=by
  obtain⟨K,rfl⟩:=d.head (by omega);rcases d.last with b|b;·cases b
  ·rw[List.getLast?_cons_cons];exact b
 refine d.of (by show(ak (ak s n _) m _).I.length=_;rw[bj,bj]) d.Km ?_ (List.nodup_cons.2 ⟨h,d.nodup⟩) (.inr o) (fun v=>absurd (List.mem_of_getLast? o) v) (fun a F=>?_)
 ·refine⟨rfl,by omega,by show(m:Int)<(ak (ak s n _) m _).I.length;rw[bj,bj];omega,?_⟩;show Path (ak (ak s n ⟨fs++[t],c⟩) m ⟨gs++[u],n⟩).I _ _;rw[jT i,if_pos (by omega),show((⟨gs++[u],n⟩:Fb).caller)=s.now from q.symm];refine d.path.congr (by rw[bj,bj];omega) (fun f r=>?_);have I:f≠m:=by rintro rfl;exact h r
  have H:=d.path.inside f r;rw[jT i,if_neg (by omega),jT k];split
  ·rename_i b;have:bw s.I f=(aa s n).caller:=by show(aa s f.toNat).caller=_;rw[b]
   rw[this,y]
  ·rfl
 ·rw[A a];by_cases b:a=m;·subst b;rw[if_pos rfl];right;refine⟨iy.2 ⟨D,?_⟩,by simpa using x⟩;rw[if_pos (decide_eq_true rfl)];exact C
  ·rw[if_neg b];by_cases e:a=n;·subst e;rw[if_pos rfl];right;refine⟨iy.2 ⟨z,?_⟩,by simpa using w⟩;rw[decide_eq_false (show¬((a:Int)=(m:Int))by omega),if_neg (by simp),if_pos (decide_eq_true (List.mem_cons_of_mem _ j))];exact E
   ·rw[if_neg e];left;refine⟨rfl,?_,?_⟩
    ·have:¬(a:Int)=(m:Int):=by omega
     simp[this]
    ·constructor;·intro g;have g:(a:Int)=(m:Int):=g;omega
     ·intro g;omega
theorem Good.over(b:Good p s l){n:Nat}(d:s.now=n)(f:n<s.I.length){c:Int}(j:(aa s n).caller=c)(u:c<0)(o:List Int)(q:o.length≤30):Good p {ak s n ⟨[],c⟩with now:=-1,out:=o} []:=by
 have v:=b.caller f;obtain rfl:c=-1:=by omega
 obtain⟨t,rfl⟩:=b.head (by omega);have r:=b.path;obtain⟨_,_,_,g⟩:=r;have k:bw s.I s.now=-1:=by rw[d];exact j
 rw[k]at g;cases t with
 |cons A z=>obtain⟨x,y,_⟩:=g;omega
 |nil=>
  have m:n=0:=by
   rcases b.last with a|a;·cases a
   ·rw[d]at a;simp at a;omega
  subst m;refine b.of (bj _ _ _) q rfl List.nodup_nil (.inl rfl) (fun _=>?_) (fun h w=>?_);·show(aa (ak s 0 _) 0).U=[];rw[bV _ f]
  ·by_cases a:0=h;·subst a;right;have i:aa {ak s 0 ⟨[],-1⟩with now:=-1,out:=o} 0=⟨[],-1⟩:=bV _ f;rw[i];exact⟨qo.2 ⟨decide_eq_false (by simp),rfl⟩,by simp⟩
   ·left;refine⟨cS _ a,?_,?_⟩;·rw[d];simp;omega
    ·rw[d];constructor;·intro e;have e:(h:Int)=-1:=e;omega
     ·intro e;omega
theorem Good.more(c:Good p s l){b:Fb}(k:eA p b false false=true)(m:b.U.length≤6)(r:s.I.length<5):Good p {s with I:=s.I++[b]} l:=by
 have g:({s with I:=s.I++[b]}:St).I.length=s.I.length+1:=by simp
 have e:∀a,a<s.I.length→aa {s with I:=s.I++[b]} a=aa s a:=fun a f=>by simp[aa,List.getD,List.getElem?_append_left f]
 have i:aa {s with I:=s.I++[b]} s.I.length=b:=by simp[aa,List.getD]
 have o:((s.I.length:Nat):Int)∉l:=fun n=>by have:=c.path.inside _ n;omega
 refine⟨c.prog,by rw[g];omega,c.Km,fun a f=>?_,?_,c.nodup,c.last,by rw[g];omega,fun j=>by rw[e 0 c.pos];exact c.main j,fun a f=>?_⟩
 ·by_cases d:a<s.I.length;·rw[e a d];exact c.f6 a d
  ·obtain rfl:a=s.I.length:=by omega
   rw[i];exact m
 ·refine c.path.congr (by rw[g];omega) (fun h q=>?_);have:=c.path.inside h q;show(aa {s with I:=s.I++[b]} h.toNat).caller=(aa s h.toNat).caller;rw[e _ (by omega)]
 ·by_cases d:a<s.I.length;·rw[e a d];exact c.each a d
  ·obtain rfl:a=s.I.length:=by omega
   rw[i,decide_eq_false o];have t:=c.path.range;have:decide (((s.I.length:Nat):Int)=({s with I:=s.I++[b]}:St).now)=false:=decide_eq_false (by show¬((s.I.length:Nat):Int)=s.now;omega);rw[this];exact k
end
end Go.Proofs.YtokhibfenccijaaGreatDoor
namespace Go.Proofs.YtokhibfenccijaaGreatDoor
open Go.Proofs.Tryz
theorem Fv{p:List Fn}(h:aL p=0){t:Fr}(m:bK p t=true):∃kd a ta lb,(codeOf p t.fn.toNat).getD t.at_.toNat (0,0)=(kd,a)∧bu p (p.getD t.fn.toNat Fn.zero) (kd,a)=0∧ct p kd a=(ta,lb,0)∧ta≤aZ p t∧¬(kd=12∧1<aZ p t)∧aZ p t-ta+lb≤8∧∀e,e∈bx (kd,a) t.at_.toNat→e<(codeOf p t.fn.toNat).length∧(bd p t.fn.toNat).getD e 0=aZ p t-ta+lb:=by
 obtain⟨⟨r,s⟩,_,⟨a0,a1⟩,u⟩:=iC m;have g:t.fn.toNat<p.length:=by omega
 have j:t.at_.toNat<(codeOf p t.fn.toNat).length:=by omega
 obtain⟨l,_⟩:=kT h g;have f:(bd p t.fn.toNat).getD t.at_.toNat 0=aZ p t:=rfl;obtain⟨b,v,i,c,n⟩:=l.done t.at_.toNat j (by rw[f];omega);rw[f]at c;obtain⟨_,_,k⟩:=fO h;obtain⟨_,_,q⟩:=pX (k _ g);have o:=gh q b (List.mem_of_getElem? i);unfold dd at c;split at c;·rename_i d;simp only[Option.some.injEq]at c;refine⟨b.1,b.2,(ct p b.1 b.2).1,(ct p b.1 b.2).2.1,by simp[List.getD,i],o,by rw[←d.1],d.2.1,d.2.2.1,d.2.2.2,?_⟩;rw[c];exact n
 ·cases c
theorem uq{p:List Fn}{t t':Fr}(f:bK p t=true)(c:t'.fn=t.fn)(i:t'.locals.length=t.locals.length){j:Nat}{m:Int}(b:t'.at_=j)(g:j<(codeOf p t.fn.toNat).length∧(bd p t.fn.toNat).getD j 0=m)(k:0≤m):bK p t'=true∧aZ p t'=m:=by
 obtain⟨⟨d,e⟩,h,_,_⟩:=iC f;have a:aZ p t'=m:=by unfold aZ;rw[c,b,Int.toNat_natCast];exact g.2
 refine⟨?_,a⟩;unfold bK;rw[a,c,i,b];simp only[Bool.and_eq_true,decide_eq_true_eq,cZ];exact⟨⟨d,e⟩,h,⟨by omega,by omega⟩,k⟩
theorem nK{p:List Fn}{u:Fr}(a:bK p u=true)(l:List Int):bK p (u.JN l)=true:=a
theorem oM{p:List Fn}(e:aL p=0){f:Nat}(d:f<p.length):0≤(p.getD f Fn.zero).args∧(p.getD f Fn.zero).args≤(p.getD f Fn.zero).locals∧(p.getD f Fn.zero).locals≤4∧(codeOf p f).length≤24:=by
 obtain⟨_,_,b⟩:=fO e;obtain⟨h,i,_,c,g,_⟩:=gN (b f d);obtain rfl:f=h:=by omega
 obtain⟨a,h2,h3⟩:=fg.1 g;exact⟨a,h2,h3,c⟩
theorem qv{p:List Fn}(h:aL p=0){f:Int}(d:0≤f)(e:f<p.length){vals:List Int}(i:(vals.length:Int)≤(p.getD f.toNat Fn.zero).locals):bK p (dM p f vals)=true∧aZ p (dM p f vals)=0∧((dM p f vals).locals.length:Int)=(p.getD f.toNat Fn.zero).locals:=by
 have g:f.toNat<p.length:=by omega
 obtain⟨b,_⟩:=kT h g;have a:aZ p (dM p f vals)=0:=b.first;have c:((dM p f vals).locals.length:Int)=(p.getD f.toNat Fn.zero).locals:=by show((vals++List.replicate ((p.getD f.toNat Fn.zero).locals.toNat-vals.length) 0).length:Int)=_;rw[List.length_append,List.length_replicate];omega
 refine⟨?_,a,c⟩;unfold bK;rw[a];simp only[Bool.and_eq_true,decide_eq_true_eq,cZ];refine⟨⟨d,e⟩,c,⟨Int.le_refl _,?_⟩,Int.le_refl _⟩;have:=b.pos;show(0:Int)<_;have:(0:Int)<(codeOf p f.toNat).length:=by omega
 exact this
theorem sl{p:List Fn}{t:Fr}{kd a:Int}(g:0≤t.at_)(f:(codeOf p t.fn.toNat).getD t.at_.toNat (0,0)=(kd,a)){st:List Int}(d:(st.length:Int)=aZ p (t.on.JN st)-1):cH p (t.on.JN st) (kd,a)=true∧(kd≠11→eU p (t.on.JN st) kd 0=true):=by
 have c:jD p (t.on.JN st)=(kd,a):=by unfold jD;show(codeOf p t.fn.toNat).getD ((t.at_+1).toNat-1) (0,0)=_;rw[show(t.at_+1).toNat-1=t.at_.toNat by omega,f]
 have b:(t.on.JN st).at_=t.at_+1:=rfl;have h2:(t.on.JN st).stack=st:=rfl;constructor;·unfold cH;rw[c,b,h2];simp only[Bool.and_eq_true,decide_eq_true_eq,decide_true,and_true];exact⟨by omega,d⟩
 ·intro e;unfold eU;rw[c,b,h2];simp only[Bool.and_eq_true,Bool.or_eq_true,Bool.not_eq_true',decide_eq_true_eq,decide_eq_false_iff_not,decide_true,true_and];exact⟨⟨by omega,d⟩,.inl e⟩
theorem so{p:List Fn}{t:Fr}{kd o:Int}(a:eU p t kd o=true):(t.stack.length:Int)=aZ p t-1∧t.at_≠0:=by unfold eU at a;simp only[Bool.and_eq_true,Bool.not_eq_true',decide_eq_true_eq,decide_eq_false_iff_not]at a;exact⟨a.1.2,a.1.1⟩
structure Runner(p:List Fn)(s:St)(l:List Int)(n:Nat)(fs:List Fr)(t:Fr)(c kd a ta lb:Int):Prop where
 Kj:Good p s l
 op:Op p s n fs t c kd a
 JM:ec p fs t
 stack:(t.stack.length:Int)=aZ p t
 right:bu p (p.getD t.fn.toNat Fn.zero) (kd,a)=0
 Ke:ct p kd a=(ta,lb,0)
 has:ta≤aZ p t
 ret:¬(kd=12∧1<aZ p t)
 Kv:aZ p t-ta+lb≤8
 next:∀b,b∈bx (kd,a) t.at_.toNat→b<(codeOf p t.fn.toNat).length∧(bd p t.fn.toNat).getD b 0=aZ p t-ta+lb
 JV:fs.length+1≤6
theorem Good.Kt{p:List Fn}{s:St}{l:List Int}(b:Good p s l)(v:0≤s.now):∃n fs t c kd a ta lb,Runner p s l n fs t c kd a ta lb:=by
 obtain⟨n,f⟩:∃n:Nat,s.now=n:=⟨s.now.toNat,by omega⟩;have j:(n:Int)∈l:=by rw[←f];exact b.Ka v
 have e:n<s.I.length:=by have:=b.path.inside _ j;omega
 obtain⟨fs,t,d⟩:=b.on j;have h:=b.each n e;rw[d,iy]at h;obtain⟨i,k⟩:=h;rw[if_pos (decide_eq_true f.symm)]at k;obtain⟨kd,a,ta,lb,m,h2,h3,o,q,r,u⟩:=Fv b.prog i.2.1;have g:=b.f6 n e;rw[d]at g;exact⟨n,fs,t,_,kd,a,ta,lb,b,⟨⟨e,d⟩,f,m⟩,i,k,h2,h3,o,q,r,u,by simpa using g⟩
section
variable {p:List Fn}{s:St}{l:List Int}{n:Nat}{fs:List Fr}{t:Fr}{c kd a ta lb:Int}
theorem Runner.kind(b:Runner p s l n fs t c kd a ta lb):0≤kd∧kd<17:=⟨(ei b.right).1,(ei b.right).2.1⟩
theorem Runner.plain(d:Runner p s l n fs t c kd a ta lb)(e:kd≠11):ta=tk kd.toNat∧lb=lv kd.toNat:=by have b:=d.Ke;have:=d.kind;unfold ct at b;rw[if_pos (by omega),if_neg e]at b;simp only[Prod.mk.injEq]at b;exact⟨b.1.symm,b.2.1.symm⟩
theorem Runner.leaves(b:Runner p s l n fs t c kd a ta lb):0≤ta∧0≤lb:=by
 by_cases e:kd=11;·subst e;obtain⟨_,_,d,h2⟩:=jr b.right rfl;rw[b.Ke]at h2;simp only[Prod.mk.injEq]at h2;simp only at d;omega
 ·obtain⟨g,f,d,h2,_,h3,_⟩:=nG b.right e;rw[b.Ke]at d;simp only[Prod.mk.injEq]at d;omega
theorem Runner.Kl(b:Runner p s l n fs t c kd a ta lb):0≤t.at_:=(iC b.JM.2.1).2.2.1.1
theorem Runner.on(b:Runner p s l n fs t c kd a ta lb)(e:kd≠9)(d:kd≠12)(st:List Int):bK p (t.on.JN st)=true∧aZ p (t.on.JN st)=aZ p t-ta+lb:=by
 have f:t.at_.toNat+1∈bx (kd,a) t.at_.toNat:=by unfold bx;simp only;rw[if_neg d,if_neg e];split<;>simp
 have:=b.Kl;have:=b.leaves;have:=b.has;exact uq (t':=t.on.JN st) b.JM.2.1 rfl rfl (j:=t.at_.toNat+1) (by show t.at_+1=_;omega) (b.next _ f) (by omega)
theorem Runner.goes(d:Runner p s l n fs t c kd a ta lb)(e:kd=9∨kd=10):0≤a:=by
 obtain⟨_,_,b⟩:=ei d.right;have:bA kd.toNat=3:=by rcases e with rfl|rfl<;>rfl
 rw[this]at b;have f:aX a (p.getD t.fn.toNat Fn.zero).code.length=true:=b;exact(cZ.1 f).1
theorem Runner.names(d:Runner p s l n fs t c kd a ta lb)(i:kd=11∨kd=13):0≤a∧a<p.length∧0≤(p.getD a.toNat Fn.zero).args∧(p.getD a.toNat Fn.zero).args≤(p.getD a.toNat Fn.zero).locals∧(p.getD a.toNat Fn.zero).locals≤4:=by
 obtain⟨_,_,b⟩:=ei d.right;have:bA kd.toNat=4:=by rcases i with rfl|rfl<;>rfl
 rw[this]at b;obtain⟨e,h2,h3⟩:=nZ b;obtain⟨f,g,h⟩:=fg.1 h3;exact⟨e,h2,f,g,h⟩
theorem Runner.local(b:Runner p s l n fs t c kd a ta lb)(e:kd=2∨kd=3):0≤a∧a.toNat<t.locals.length:=by
 obtain⟨_,_,d⟩:=ei b.right;have:bA kd.toNat=2:=by rcases e with rfl|rfl<;>rfl
 rw[this]at d;have f:aX a (p.getD t.fn.toNat Fn.zero).locals=true:=d;obtain⟨g,h2⟩:=cZ.1 f;have:=(iC b.JM.2.1).2.1;omega
theorem Runner.caller(d:Runner p s l n fs t c kd a ta lb)(C:0≤c):∃(b:Nat)(f:List Fr)(e:Fr)(v:Int),c=b∧n≠b∧eY s b f e v∧ec p f e∧(e.stack.length:Int)=aZ p e-1∧f.length+1≤6:=by
 have w:(aa s n).caller=c:=by rw[d.op.JR.eq]
 obtain⟨B,o⟩:=d.Kj.head (by rw[d.op.now];omega);have r:=d.Kj.path;have q:=d.Kj.nodup;rw[o]at r q;obtain⟨_,_,_,i⟩:=r;have x:bw s.I s.now=c:=by rw[d.op.now];exact w
 rw[x]at i;cases B with
 |nil=>have:c=-1:=i;omega
 |cons G F=>
  obtain⟨A,D,E,_⟩:=i;subst A;obtain⟨b,rfl⟩:∃b:Nat,c=b:=⟨c.toNat,by omega⟩;have m:(b:Int)∈l:=by rw[o];simp
  have z:n≠b:=by rintro rfl;exact(List.nodup_cons.1 q).1 (by rw[d.op.now];simp)
  obtain⟨f,e,g⟩:=d.Kj.on m;have h:b<s.I.length:=by omega
  have k:=d.Kj.each b h;rw[g,iy]at k;obtain⟨y,u⟩:=k;rw[if_neg (by rw[decide_eq_false (by rw[d.op.now];omega)];simp),if_pos (decide_eq_true m)]at u;have j:=d.Kj.f6 b h;rw[g]at j;exact⟨b,f,e,_,rfl,z,⟨h,g⟩,y,(so u).1,by simpa using j⟩
theorem Runner.JX(b:Runner p s l n fs t c kd a ta lb):(aa s n).caller=c:=by rw[b.op.JR.eq]
def Ends(p:List Fn)(a:St×Int):Prop:=(a.2=0∧∃l,Good p a.1 l)∨(a.1=St.zero∧(a.2=2∨a.2=5∨a.2=6∨a.2=7))
theorem Runner.ends(b:Runner p s l n fs t c kd a ta lb):Ends p (aU p s):=by
 obtain⟨k0,g6⟩:=b.kind;obtain⟨l0,g7⟩:=b.leaves;have g2:=b.stack;have g0:=b.has;have w:=b.op.JR.lt;have e:=b.Kj;have K:=e.Km;by_cases c7:kd≤10;·obtain⟨g8,c6,j,W,b9,g1,b8,b1⟩:=AO b.op k0 c7 b.Ke (by omega) b.Kl b.goes;rw[j];obtain⟨u,v⟩:=uq b.JM.2.1 W b9 b1 (b.next c6 b8) (by omega);exact .inl ⟨rfl,l,e.stay b.op.now w b.JX (b.JM.JO u W) (by omega) b.JV s.out K⟩
 by_cases c8:kd=11
 ·subst c8;obtain⟨S,T,a3,a4,e3⟩:=b.names (.inl rfl);obtain⟨_,_,_,N⟩:=jr b.right rfl;rw[b.Ke]at N;simp only[Prod.mk.injEq]at N;obtain⟨m,o,_⟩:=N;rw[Co b.op];split;·exact .inr ⟨rfl,.inl rfl⟩
  ·rename_i G;have B:=b.JV;obtain⟨u,v⟩:=b.on (by omega) (by omega) (t.stack.take (t.stack.length-(p.getD a.toNat Fn.zero).args.toNat));obtain⟨M,V,_⟩:=qv e.prog S T (vals:=t.stack.drop (t.stack.length-(p.getD a.toNat Fn.zero).args.toNat)) (by rw[List.length_drop];omega);have x:=(sl (p:=p) (t:=t) b.Kl b.op.op (st:=t.stack.take (t.stack.length-(p.getD a.toNat Fn.zero).args.toNat)) (by rw[v,List.length_take];omega)).1;refine .inl ⟨rfl,l,e.stay b.op.now w b.JX ((b.JM.JO u rfl).push x M) (by rw[V];rfl) (by simp;omega) s.out K⟩
 by_cases c9:kd=12
 ·subst c9;have g3:ta=1:=(b.plain (by omega)).1;have D:=b.ret;obtain⟨g,f,q⟩:=mU (l:=t.stack) (by omega);rcases List.eq_nil_or_concat fs with rfl|⟨i,d,rfl⟩
  ·by_cases H:c<0
   ·rw[AL b.op q H];unfold cm;split;·exact .inr ⟨rfl,.inl rfl⟩
    ·rename_i Q;have c1:¬s.out.length=30:=Q;refine .inl ⟨rfl,[],e.over b.op.now w b.JX H (s.out++[f]) (by simp;omega)⟩
   ·obtain⟨r,i,d,a7,j,E,F,h,a1,G⟩:=b.caller (by omega);rw[AN b.op q j E F];obtain⟨e4,_,A⟩:=e.back b.op.now w (b.JX.trans j) (b:=⟨[],-1⟩) (qo.2 ⟨rfl,rfl⟩) (by simp) (gs:=i) (u:=d.JN (d.stack++[f])) (by rw[F.eq]) (h.JO (nK h.2.1 _) rfl) (by show((d.stack++[f]).length:Int)=aZ p d;simp;omega) G;exact .inl ⟨rfl,_,A⟩
  ·have Z:=b.op;have C:=b.JM;have B:=b.JV;rw[List.concat_eq_append]at Z C B;rw[AM Z q];obtain⟨h,x⟩:=C.pop;have a1:(d.stack.length:Int)=aZ p d-1:=by unfold cH at x;simp only[Bool.and_eq_true,decide_eq_true_eq]at x;exact x.1.2
   refine .inl ⟨rfl,l,e.stay b.op.now w b.JX (h.JO (nK h.2.1 (d.stack++[f])) rfl) (by show((d.stack++[f]).length:Int)=aZ p d;simp;omega) (by simp at B;omega) s.out K⟩
 by_cases e0:kd=13
 ·subst e0;obtain⟨S,T,a3,a4,e3⟩:=b.names (.inr rfl);obtain⟨m,o⟩:=b.plain (by omega);have m:ta=0:=m;have o:lb=1:=o;rw[Cp b.op];split;·exact .inr ⟨rfl,.inl rfl⟩
  ·rename_i e6;have e7:=e.n5;obtain⟨u,v⟩:=b.on (by omega) (by omega) (t.stack++[(s.I.length:Int)]);have A:=e.stay b.op.now w b.JX (b.JM.JO u rfl) (by rw[v];show((t.stack++[(s.I.length:Int)]).length:Int)=_;simp;omega) b.JV s.out K;obtain⟨M,V,e8⟩:=qv e.prog S T (vals:=[]) (Int.le_trans a3 a4);have b0:(p.getD a.toNat Fn.zero).args=1:=by
    have D:=b.right;unfold bu at D;simp only at D;rw[if_pos (by omega),if_pos (ei b.right).2.2]at D;split at D;·cases D
    ·rename_i b6;rcases Decidable.em ((p.getD a.toNat Fn.zero).args=1)with y|y;·exact y
     ·exact absurd ⟨trivial,y⟩ b6
   have z:dH p ⟨[]++[dM p a []],-1⟩=true:=by
    show((decide ((dM p a []).at_=0)&&(decide ((p.getD (dM p a []).fn.toNat Fn.zero).args=1)&&decide ((dM p a []).stack.length=0)))&&gu (dM p a []).locals)=true;have a8:(dM p a []).fn=a:=rfl;have a9:gu (dM p a []).locals=true:=by unfold gu;rw[List.all_eq_true];intro e5 c5;have:e5∈List.replicate ((p.getD a.toNat Fn.zero).locals.toNat-([]:List Int).length) (0:Int):=c5;simp at this;exact decide_eq_true this.2
    rw[a8,b0,a9];rfl
   have c0:=A.more (b:=⟨[]++[dM p a []],-1⟩) (iy.2 ⟨⟨by simp,M,rfl⟩,by rw[if_neg (by simp),if_neg (by simp)];exact⟨rfl,.inl z⟩⟩) (by simp) (by show(ak s n _).I.length<5;rw[bj];omega);exact .inl ⟨rfl,l,c0⟩
 by_cases e1:kd=14
 ·subst e1;obtain⟨m,o⟩:=b.plain (by omega);have m:ta=2:=m;have o:lb=1:=o;obtain⟨g,a5,f,q⟩:=Iq (l:=t.stack) (by omega);have a0:(g.length:Int)+2=t.stack.length:=by rw[q];simp
  rw[Cr b.op q,e.line.1];split
  ·rename_i b7;obtain⟨g4,g5⟩:=cZ.1 b7;obtain⟨r,rfl⟩:∃r:Nat,a5=r:=⟨a5.toNat,by omega⟩;rw[Int.toNat_natCast];split;·exact .inr ⟨rfl,.inr (.inr (.inl rfl))⟩
   ·rename_i Y;rw[not_or]at Y;obtain⟨I,C⟩:=Y;simp only[Option.getD_some]at I;have E:n≠r:=by rintro rfl;exact I (by rw[←b.op.now];exact e.Ka (by rw[b.op.now];omega))
    rw[cS _ E]at C⊢;obtain⟨u,v⟩:=b.on (by omega) (by omega) g;have x:=(sl (p:=p) (t:=t) b.Kl b.op.op (st:=g) (by rw[v];omega)).2 (by omega);have P:r<s.I.length:=by omega
    rcases Fb.form (aa s r)with j|⟨i,d,j⟩;·rw[j]at C;exact absurd rfl C
    ·have O:=e.each r P;have B:=e.f6 r P;have c2:decide ((r:Int)=s.now)=false:=decide_eq_false (by rw[b.op.now];omega);rw[j]at O B;rw[iy,c2,decide_eq_false I,if_neg (by simp),if_neg (by simp)]at O;obtain⟨h,e9,b2⟩:=O;have b4:(aa s r).U=i++[d]:=by rw[j]
     have b5:(⟨(aa s r).U,(n:Int)⟩:Fb).JT (fun d=>d.JY f)=⟨i++[d.JY f],n⟩:=by rw[b4];unfold Fb.JT Fb.top;simp
     rw[b5];have X:ec p i (d.JY f)∧((d.JY f).stack.length:Int)=aZ p (d.JY f):=by
      unfold Fr.JY;rcases b2 with z|c3
      ·unfold dH at z;split at z
       ·rename_i a6 c4;have a2:i++[d]=[a6]:=c4;obtain⟨rfl,rfl⟩:i=[]∧d=a6:=by
         cases i with
         |nil=>exact⟨rfl,by simpa using a2⟩
         |cons a L=>simp at a2
        simp only[Bool.and_eq_true,decide_eq_true_eq]at z;obtain⟨⟨y,h2,h3⟩,_⟩:=z;rw[if_pos y];refine⟨h.JO ?_ rfl,?_⟩;·have:=h.2.1;unfold bK at this⊢;simp only[List.length_set];exact this
        ·show(d.stack.length:Int)=aZ p d;obtain⟨b3,_⟩:=kT e.prog (k:=d.fn.toNat) (by have:=iC h.2.1;omega);have:aZ p d=0:=by unfold aZ;rw[y];exact b3.first
         omega
       ·cases z
      ·obtain⟨y,h2⟩:=so c3;rw[if_neg h2];refine⟨h.JO (nK h.2.1 _) rfl,?_⟩;show((d.stack++[f]).length:Int)=aZ p d;simp;omega
     have A:=e.KT b.op.now w P I b.JX (b.JM.JO u rfl) x b.JV X.1 X.2 (by simpa using B);exact .inl ⟨rfl,_,A⟩
  ·exact .inr ⟨rfl,.inr (.inl rfl)⟩
 by_cases e2:kd=15
 ·subst e2;obtain⟨m,o⟩:=b.plain (by omega);have m:ta=1:=m;have o:lb=1:=o;obtain⟨g,f,q⟩:=mU (l:=t.stack) (by omega);have a0:(g.length:Int)+1=t.stack.length:=by rw[q];simp
  by_cases H:c<0;·rw[Cs b.op H];exact .inr ⟨rfl,.inr (.inr (.inr rfl))⟩
  ·obtain⟨r,i,d,a7,j,E,F,h,a1,G⟩:=b.caller (by omega);rw[AS b.op q j E F];obtain⟨u,v⟩:=b.on (by omega) (by omega) g;have x:=(sl (p:=p) (t:=t) b.Kl b.op.op (st:=g) (by rw[v];omega)).2 (by omega);obtain⟨e4,_,A⟩:=e.back b.op.now w (b.JX.trans j) (b:=⟨fs++[t.on.JN g],-1⟩) (iy.2 ⟨b.JM.JO u rfl,by simp[x]⟩) (by have:=b.JV;simpa using this) (gs:=i) (u:=d.JN (d.stack++[f])) (by rw[F.eq]) (h.JO (nK h.2.1 _) rfl) (by show((d.stack++[f]).length:Int)=aZ p d;simp;omega) G;exact .inl ⟨rfl,_,A⟩
 obtain rfl:kd=16:=by omega
 obtain⟨m,o⟩:=b.plain (by omega);have m:ta=1:=m;have o:lb=0:=o;obtain⟨g,f,q⟩:=mU (l:=t.stack) (by omega);have a0:(g.length:Int)+1=t.stack.length:=by rw[q];simp
 rw[Cq b.op q];obtain⟨u,v⟩:=b.on (by omega) (by omega) g;unfold cm;split;·exact .inr ⟨rfl,.inl rfl⟩
 ·rename_i Q;have c1:¬s.out.length=30:=Q;exact .inl ⟨rfl,l,e.stay b.op.now w b.JX (b.JM.JO u rfl) (by rw[v];show(g.length:Int)=_;omega) b.JV (s.out++[f]) (by simp;omega)⟩
end
theorem oK{p:List Fn}{s:St}(d:ba p s=0)(f:0≤s.now):((aU p s).2=0∧ba p (aU p s).1=0)∨((aU p s).1=St.zero∧((aU p s).2=2∨(aU p s).2=5∨(aU p s).2=6∨(aU p s).2=7)):=by
 obtain⟨l,_,e⟩:=rI d;obtain⟨n,fs,t,c,kd,a,ta,lb,g⟩:=e.Kt f;rcases g.ends with⟨b,h,h2⟩|b;·exact .inl ⟨b,uz h2⟩
 ·exact .inr b
end Go.Proofs.YtokhibfenccijaaGreatDoor
namespace Go.Proofs.YtokhibfenccijaaGreatDoor
open Go.Proofs.Tryz
theorem jH{p:List Fn}{s:St}(c:ba p s=0):Small s:=by
 obtain⟨n,m,_⟩:=im c;obtain⟨q,o,j,_,_,_⟩:=ik m;refine⟨by omega,by omega,fun g e=>⟨by have:=j g e;omega,fun i k=>?_⟩⟩;obtain⟨b,l,rfl⟩:=od e;obtain⟨a,f,rfl⟩:=List.getElem_of_mem k;have h:ae s b a=(aa s b).U[a]:=by simp[ae,List.getD,f]
 obtain⟨d,h2⟩:=wH c l f;rw[h]at d h2;obtain⟨⟨r,t⟩,u,_⟩:=iC d;have:=(oM n (f:=(aa s b).U[a].fn.toNat) (by omega)).2.2.1;exact⟨by omega,by omega⟩
theorem xD:Small St.zero:=⟨Nat.zero_le _,Nat.zero_le _,fun b a=>by cases a⟩
theorem IG{p:List Fn}{s:St}(b:ba p s=0)(c:0≤s.now):Small (aU p s).1:=by
 rcases oK b c with⟨_,a⟩|⟨a,_⟩;·exact jH a
 ·rw[a];exact xD
theorem rJ{p:List Fn}{s:St}(v:ba p s=0)(m:0≤s.now):mg p s:=by
 obtain⟨l,r,d⟩:=rI v;obtain⟨n,fs,t,c,kd,a,ta,lb,b⟩:=d.Kt m;have S:=b.op.now;have b3:=b.op.JR.lt;have T:s.now.toNat=n:=by omega
 have E:s.top=t:=jJ b.op.JR S;have A:aa s s.now.toNat=⟨fs++[t],c⟩:=by rw[T];exact b.op.JR.eq
 have X:=jH v;obtain⟨k0,b6⟩:=b.kind;obtain⟨⟨L,a9⟩,b1,⟨a0,a1⟩,b0⟩:=iC b.JM.2.1;have b5:=b.stack;have b2:=b.has;refine⟨⟨m,by omega,d.n5,d.Km⟩,fun K y=>?_,by rw[A];simp,fun z=>?_,⟨by rw[r];rfl,by rw[r];exact d.Ka m⟩,fun e k C B x=>?_,?_,?_⟩;·obtain⟨e,k,rfl⟩:=od y;exact⟨⟨d.f6 e k,d.caller k⟩,(X.2.2 _ y).2⟩
 ·rw[A]at z⊢;obtain⟨a4,i,h,a7,g,b4,Y,_⟩:=b.caller z;refine⟨by show c≠s.now;omega,?_⟩;have:(aa s c.toNat).U=i++[h]:=by rw[show c.toNat=a4 by omega,Y.eq]
  show 0<(aa s c.toNat).U.length;rw[this];simp
 ·rw[r]at C;have D:(e:Int)∉l:=C;have q:=d.each e k;have W:decide ((e:Int)=s.now)=false:=decide_eq_false (fun g=>D (by rw[g];exact d.Ka m));rw[decide_eq_false D,W]at q;rcases Fb.form (aa s e)with g|⟨i,h,g⟩;·rw[g]at B;simp at B
  ·have Z:ae s e ((aa s e).U.length-1)=h:=by unfold ae;rw[g];simp
   rw[Z]at x⊢;rw[g,iy,if_neg (by simp),if_neg (by simp)]at q;obtain⟨Q,_,P⟩:=q;rcases P with j|a2
   ·unfold dH at j;split at j
    ·rename_i I a3;have F:i++[h]=[I]:=a3;obtain⟨rfl,rfl⟩:i=[]∧h=I:=by
      cases i with
      |nil=>exact⟨rfl,by simpa using F⟩
      |cons a K=>simp at F
     simp only[Bool.and_eq_true,decide_eq_true_eq]at j;obtain⟨⟨_,h2,_⟩,_⟩:=j;obtain⟨⟨b7,b8⟩,b9,_⟩:=iC Q.2.1;have:=oM d.prog (f:=h.fn.toNat) (by omega);omega
    ·cases j
   ·exact absurd x (so a2).2
 ·rw[E];have:=(oM d.prog (f:=t.fn.toNat) (by omega)).2.2.2;exact⟨L,by omega,a0,by omega,by omega⟩
 ·rw[E];have V:opAt p t=(kd,a):=b.op.op;unfold oe;rw[V];simp only;refine⟨?_,b.local,fun w=>?_,fun O=>?_⟩
  ·unfold lk;split;·omega
   ·have:ta=tk kd.toNat:=(b.plain (by omega)).1;split
    ·rename_i M h2;have:ta=1:=by rcases h2 with rfl|rfl|rfl|rfl|rfl|rfl<;>exact this
     omega
    ·rename_i M h2;have h3:kd=4∨kd=5∨kd=6∨kd=7∨kd=8∨kd=14:=by omega
     have:ta=2:=by rcases h3 with rfl|rfl|rfl|rfl|rfl|rfl<;>exact this
     omega
  ·obtain⟨u,a5,G,H,a6⟩:=b.names (.inl w);have N:kd=11:=w;subst N;obtain⟨_,_,_,o⟩:=jr b.right rfl;rw[b.Ke]at o;simp only[Prod.mk.injEq]at o;obtain⟨a8,_⟩:=o;exact⟨u,by omega,G,H,by omega,by omega⟩
  ·obtain⟨u,a5,G,H,a6⟩:=b.names (.inr O);exact⟨u,by omega,by omega,by omega⟩
theorem wJ{p:List Fn}:∀(k:Nat){s:St},ba p s=0→mT p k s
 |0,_,_=>trivial
 |k+1,s,a=>by
  by_cases c:s.now<0;·exact .inl c
  ·refine .inr ⟨rJ a (by omega),IG a (by omega),fun d=>?_⟩;rcases oK a (by omega)with⟨_,b⟩|⟨_,b⟩;·exact wJ k b
   ·omega
theorem oU{p:List Fn}:∀(k:Nat){s:St},ba p s=0→ba p (cC p k s).1=0
 |0,_,a=>a
 |k+1,s,a=>by
  by_cases b:s.now<0;·rw[kt p _ s (.inr b)];exact a
  ·rcases oK a (by omega)with⟨d,c⟩|⟨_,c⟩;·rw[rS p k s b d];exact oU k c
   ·rw[rR p k s b (by omega)];exact a
