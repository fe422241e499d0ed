import Derived.Test.YtokhibfenccijaaGreatDoorQB15
set_option maxRecDepth 100000
set_option maxHeartbeats 8000000
namespace Go.Proofs.YtokhibfenccijaaGreatDoor
open Go.Proofs.Tryz
def Fb.top(b:Fb):Fr:=b.U.getLast?.getD Fr.zero
def St.JL(s:St)(n:Int):Fb:=s.I.getD n.toNat Fb.zero
def St.JO(s:St)(n:Int)(g:Fb→Fb):St:={s with I:=s.I.set n.toNat (g (s.JL n))}
def Fb.JT(b:Fb)(g:Fr→Fr):Fb:={b with U:=b.U.set (b.U.length-1) (g b.top)}
def St.top(s:St):Fr:=(s.JL s.now).top
def St.JT(s:St)(n:Int)(g:Fr→Fr):St:=s.JO n fun a=>a.JT g
def aO(s:St)(n v:Int):St:=s.JT n fun a=>{a with stack:=a.stack++[v]}
def aq(s:St):Int:=s.top.stack.getLast?.getD 0
def af(s:St):St:=s.JT s.now fun a=>{a with stack:=a.stack.dropLast}
def setAt(s:St)(a:Int):St:=s.JT s.now fun b=>{b with at_:=a}
def cm(s:St)(v:Int):St×Int:=if s.out.length=30 then(St.zero,2)else({s with out:=s.out++[v]},0)
def dM(p:List Fn)(f:Int)(vals:List Int):Fr:=⟨f,0,vals++List.replicate ((p.getD f.toNat Fn.zero).locals.toNat-vals.length) 0,[]⟩
def ek(s:St):St×Int:=let c:=aq s;let a:St:=(af s).JO s.now fun b=>{b with U:=b.U.dropLast};if(a.JL s.now).U=[]then if(a.JL s.now).caller<0 then cm {a with now:=-1} c else(aO {(a.JO s.now fun b=>{b with caller:=-1})with now:=(a.JL s.now).caller} (a.JL s.now).caller c,0)else(aO a s.now c,0)
def eS(s:St):St×Int:=let e:=aq s;let a:=aq (af s);let b:=af (af s);if aX a b.I.length=true then if a∈(bt b.I (b.I.length+1) b.now []).getD []∨(b.JL a).U=[]then(St.zero,6)else let c:St:={(b.JO a fun f=>{f with caller:=b.now})with now:=a};if c.top.at_=0 then(c.JT a fun d=>{d with locals:=d.locals.set 0 e},0)else(aO c a e,0)else(St.zero,5)
def fK(p:List Fn)(s:St)(f:Int):St×Int:=let c:=(p.getD f.toNat Fn.zero).args.toNat;let e:=s.top.stack.drop (s.top.stack.length-c);let d:=s.JT s.now fun a=>{a with stack:=a.stack.take (a.stack.length-c)};if(d.JL s.now).U.length=6 then(St.zero,2)else(d.JO s.now fun b=>{b with U:=b.U++[dM p f e]},0)
def eI(s:St):St×Int:=let c:=aq s;let a:=af s;if(a.JL s.now).caller<0 then(St.zero,7)else(aO {(a.JO s.now fun b=>{b with caller:=-1})with now:=(a.JL s.now).caller} (a.JL s.now).caller c,0)
def iK(z:Int):Int:=Int.bmod z (2^64)
def kG(b:Bool):Int:=if b=true then 1 else 0
def dq(c a b:Int):Int:=if c=4 then iK (a+b)else if c=5 then iK (a-b)else if c=6 then iK (a*b)else if c=7 then kG (decide (a<b))else kG (decide (a=b))
def eC(p:List Fn)(s:St)(f:Int):St×Int:=if s.I.length=5 then(St.zero,2)else({aO s s.now s.I.length with I:=(aO s s.now s.I.length).I++[⟨[dM p f []],-1⟩]},0)
def aU(p:List Fn)(c:St):St×Int:=let b:=(codeOf p c.top.fn.toNat).getD c.top.at_.toNat (0,0);let a:=setAt c (c.top.at_+1);if b.1=0 then(aO a a.now b.2,0)else if b.1=1 then(af a,0)else if b.1=2 then(aO a a.now (a.top.locals.getD b.2.toNat 0),0)else if b.1=3 then((af a).JT a.now fun d=>{d with locals:=d.locals.set b.2.toNat (aq a)},0)else if b.1=9 then(setAt a b.2,0)else if b.1=10 then(if aq a=0 then setAt (af a) b.2 else af a,0)else if b.1=11 then fK p a b.2 else if b.1=12 then ek a else if b.1=13 then eC p a b.2 else if b.1=14 then eS a else if b.1=15 then eI a else if b.1=16 then cm (af a) (aq a)else(aO (af (af a)) a.now (dq b.1 (aq (af a)) (aq a)),0)
def eE(p:List Fn)(s:St):St×Int:=if s.now<0 then(St.zero,8)else aU p s
def cC(p:List Fn):Nat→St→St×Nat×Int
 |0,a=>(a,0,0)
 |b+1,a=>if a.now<0 then(a,0,0)else if(eE p a).2=0 then((cC p b (eE p a).1).1,(cC p b (eE p a).1).2.1+1,(cC p b (eE p a).1).2.2)else(a,0,(eE p a).2)
def aS(p:List Fn):St:=⟨[⟨[⟨0,0,List.replicate (p.getD 0 Fn.zero).locals.toNat 0,[]⟩],-1⟩],0,[]⟩
def cD(l:List Int):Prop:=∀a∈l,aI a
def gJ(f:Fr):Prop:=cD f.locals∧cD f.stack
def gY(b:Fb):Prop:=∀a∈b.U,gJ a
structure aV(s:St):Prop where
 fb:∀a∈s.I,gY a
 out:cD s.out
 len:s.I.length≤5
theorem cD.nil:cD []:=fun _ a=>by cases a
theorem cD.app{a b:List Int}(e:cD a)(f:cD b):cD (a++b):=fun d c=>by
 rcases List.mem_append.1 c with c|c;·exact e d c
 ·exact f d c
theorem cD.one{z:Int}(a:aI z):cD [z]:=fun c b=>by obtain rfl:=List.mem_singleton.1 b;exact a
theorem cD.sub{a b:List Int}(e:cD a)(d:∀c∈b,c∈a):cD b:=fun c f=>e c (d c f)
theorem aI.zero:aI 0:=by unfold aI;omega
theorem cD.last{a:List Int}(c:cD a):aI (a.getLast?.getD 0):=by
 cases b:a.getLast? with
 |none=>exact aI.zero
 |some d=>exact c d (List.mem_of_getLast? b)
theorem cD.getD{a:List Int}(c:cD a)(i:Nat):aI (a.getD i 0):=by
 rw[List.getD_eq_getElem?_getD];cases b:a[i]? with
 |none=>exact aI.zero
 |some d=>exact c d (List.mem_of_getElem? b)
theorem cD.set{a:List Int}(c:cD a)(i:Nat){z:Int}(e:aI z):cD (a.set i z):=fun f d=>by
 rcases List.mem_or_eq_of_mem_set d with b|rfl;·exact c f b
 ·exact e
theorem cD.Kw(n:Nat):cD (List.replicate n 0):=fun b a=>by rw[List.eq_of_mem_replicate a];exact aI.zero
theorem gJ.zero:gJ Fr.zero:=⟨cD.nil,cD.nil⟩
theorem gY.top{b:Fb}(c:gY b):gJ b.top:=by
 unfold Fb.top;cases d:b.U.getLast? with
 |none=>exact gJ.zero
 |some a=>exact c a (List.mem_of_getLast? d)
theorem aV.JL{s:St}(b:aV s)(n:Int):gY (s.JL n):=by
 unfold St.JL;rw[List.getD_eq_getElem?_getD];cases d:s.I[n.toNat]? with
 |none=>exact fun e c=>by cases c
 |some a=>exact b.fb a (List.mem_of_getElem? d)
theorem aV.top{s:St}(a:aV s):gJ s.top:=(a.JL _).top
theorem aV.JO{s:St}(a:aV s)(n:Int){g:Fb→Fb}(d:gY (g (s.JL n))):aV (s.JO n g):=by
 refine⟨fun c b=>?_,a.out,by simpa[St.JO]using a.len⟩;rcases List.mem_or_eq_of_mem_set b with b|rfl;·exact a.fb c b
 ·exact d
theorem gY.JT{b:Fb}(d:gY b){g:Fr→Fr}(e:gJ (g b.top)):gY (b.JT g):=fun c a=>by
 rcases List.mem_or_eq_of_mem_set a with a|rfl;·exact d c a
 ·exact e
theorem aV.JT{s:St}(a:aV s)(n:Int){g:Fr→Fr}(b:gJ (g (s.JL n).top)):aV (s.JT n g):=a.JO n ((a.JL n).JT b)
theorem aV.push{s:St}(a:aV s)(n:Int){v:Int}(b:aI v):aV (aO s n v):=a.JT n ⟨(a.JL n).top.1,(a.JL n).top.2.app (cD.one b)⟩
theorem aV.last{s:St}(a:aV s):aI (aq s):=a.top.2.last
theorem aV.pull{s:St}(a:aV s):aV (af s):=a.JT _ ⟨(a.JL _).top.1,(a.JL _).top.2.sub fun _ b=>(List.dropLast_sublist _).subset b⟩
theorem aV.setAt{s:St}(b:aV s)(a:Int):aV (setAt s a):=b.JT _ ⟨(b.JL _).top.1,(b.JL _).top.2⟩
theorem aV.now{s:St}(a:aV s)(n:Int):aV {s with now:=n}:=⟨a.fb,a.out,a.len⟩
theorem aV.zero:aV St.zero:=⟨(fun b a=>by cases a),cD.nil,Nat.zero_le _⟩
theorem aV.put{s:St}(a:aV s){v:Int}(b:aI v):aV (cm s v).1:=by
 unfold cm;split;·exact aV.zero
 ·exact⟨a.fb,a.out.app (cD.one b),a.len⟩
theorem gJ.begun(p:List Fn)(f:Int){vals:List Int}(a:cD vals):gJ (dM p f vals):=⟨a.app (cD.Kw _),cD.nil⟩
theorem gY.caller{b:Fb}(a:gY b)(c:Int):gY {b with caller:=c}:=a
theorem aV.given{s:St}(a:aV s):aV (ek s).1:=by
 have b:aV ((af s).JO s.now fun c=>{c with U:=c.U.dropLast}):=a.pull.JO _ (fun d e=>a.pull.JL _ d ((List.dropLast_sublist _).subset e));unfold ek;simp only;split
 ·split;·exact(b.now _).put a.last
  ·exact aV.push ((b.JO _ ((b.JL _).caller _)).now _) _ a.last
 ·exact b.push _ a.last
theorem aV.KY{s:St}(a:aV s):aV (eS s).1:=by
 unfold eS;simp only;split
 ·split;·exact aV.zero
  ·have h2:=(a.pull.pull.JO (aq (af s)) (g:=fun b=>{b with caller:=(af (af s)).now}) ((a.pull.pull.JL _).caller _)).now (aq (af s));split;·exact h2.JT _ ⟨(h2.JL _).top.1.set _ a.last,(h2.JL _).top.2⟩
   ·exact h2.push _ a.last
 ·exact aV.zero
theorem aV.called{s:St}(c:aV s)(p:List Fn)(f:Int):aV (fK p s f).1:=by
 unfold fK;simp only;have e:=c.JT s.now (g:=fun b=>{b with stack:=b.stack.take (b.stack.length-(p.getD f.toNat Fn.zero).args.toNat)}) ⟨(c.JL _).top.1,(c.JL _).top.2.sub fun _ d=>List.mem_of_mem_take d⟩;split;·exact aV.zero
 ·dsimp only;refine e.JO _ (fun b a=>?_);rcases List.mem_append.1 a with a|a;·exact e.JL _ b a
  ·obtain rfl:=List.mem_singleton.1 a;exact gJ.begun p f (c.top.2.sub fun _ d=>List.mem_of_mem_drop d)
theorem aV.yielded{s:St}(a:aV s):aV (eI s).1:=by
 unfold eI;simp only;split;·exact aV.zero
 ·exact aV.push ((a.pull.JO _ ((a.pull.JL _).caller _)).now _) _ a.last
theorem aV.made{s:St}(b:aV s)(p:List Fn)(f:Int):aV (eC p s f).1:=by
 unfold eC;split;·exact aV.zero
 ·rename_i g;have h:=b.len;have c:=b.push s.now (v:=(s.I.length:Int)) (by unfold aI;omega);refine⟨fun d a=>?_,c.out,?_⟩
  ·rcases List.mem_append.1 a with a|a;·exact c.fb d a
   ·obtain rfl:=List.mem_singleton.1 a;exact fun i e=>by obtain rfl:=List.mem_singleton.1 e;exact gJ.begun p f cD.nil
  ·simp[aO,St.JT,St.JO];omega
theorem aI.wrap(z:Int):aI (iK z):=by unfold iK aI;have a:=Int.le_bmod (x:=z) (m:=2^64) (by decide);have h2:=Int.bmod_lt (x:=z) (m:=2^64) (by decide);omega
theorem aI.reckon(k a b:Int):aI (dq k a b):=by
 unfold dq kG;split;·exact aI.wrap _
 ·split;·exact aI.wrap _
  ·split;·exact aI.wrap _
   ·split<;>split<;>(unfold aI;omega)
def ql(p:List Fn)(x:Int×Int)(s:St):St×Int:=if x.1=0 then(aO s s.now x.2,0)else if x.1=1 then(af s,0)else if x.1=2 then(aO s s.now (s.top.locals.getD x.2.toNat 0),0)else if x.1=3 then((af s).JT s.now fun a=>{a with locals:=a.locals.set x.2.toNat (aq s)},0)else if x.1=9 then(setAt s x.2,0)else if x.1=10 then(if aq s=0 then setAt (af s) x.2 else af s,0)else if x.1=11 then fK p s x.2 else if x.1=12 then ek s else if x.1=13 then eC p s x.2 else if x.1=14 then eS s else if x.1=15 then eI s else if x.1=16 then cm (af s) (aq s)else(aO (af (af s)) s.now (dq x.1 (aq (af s)) (aq s)),0)
theorem tK(p:List Fn)(s:St):aU p s=ql p ((codeOf p s.top.fn.toNat).getD s.top.at_.toNat (0,0)) (setAt s (s.top.at_+1)):=rfl
theorem aV.done{p:List Fn}(v:gL p){s:St}(u:aV s):aV (aU p s).1:=by
 have w:aI ((codeOf p s.top.fn.toNat).getD s.top.at_.toNat (0,0)).2:=by
  rw[List.getD_eq_getElem?_getD];cases c:(codeOf p s.top.fn.toNat)[s.top.at_.toNat]? with
  |none=>exact aI.zero
  |some y=>
   unfold codeOf at c;rw[List.getD_eq_getElem?_getD]at c;cases d:p[s.top.fn.toNat]? with
   |none=>rw[d]at c;simp[Fn.zero]at c
   |some t=>rw[d]at c;have:=(v.fn t (List.mem_of_getElem? d)).2.2.2 y (List.mem_of_getElem? c);simp only[Option.getD_some];unfold aI;omega
 have a:=u.setAt (s.top.at_+1);rw[tK];generalize(codeOf p s.top.fn.toNat).getD s.top.at_.toNat (0,0)=b at*;generalize Go.Proofs.YtokhibfenccijaaGreatDoor.setAt s (s.top.at_+1)=x at*;unfold ql;by_cases e:b.1=0;·rw[if_pos e];exact a.push _ w
 rw[if_neg e];by_cases f:b.1=1;·rw[if_pos f];exact a.pull
 rw[if_neg f];by_cases n:b.1=2;·rw[if_pos n];exact a.push _ (a.top.1.getD _)
 rw[if_neg n];by_cases o:b.1=3;·rw[if_pos o];exact a.pull.JT _ ⟨(a.pull.JL _).top.1.set _ a.last,(a.pull.JL _).top.2⟩
 rw[if_neg o];by_cases q:b.1=9;·rw[if_pos q];exact a.setAt _
 rw[if_neg q];by_cases g:b.1=10
 ·rw[if_pos g];by_cases r:aq x=0;·rw[if_pos r];exact a.pull.setAt _
  ·rw[if_neg r];exact a.pull
 rw[if_neg g];by_cases h:b.1=11;·rw[if_pos h];exact a.called p _
 rw[if_neg h];by_cases i:b.1=12;·rw[if_pos i];exact a.given
 rw[if_neg i];by_cases j:b.1=13;·rw[if_pos j];exact a.made p _
 rw[if_neg j];by_cases k:b.1=14;·rw[if_pos k];exact a.KY
 rw[if_neg k];by_cases l:b.1=15;·rw[if_pos l];exact a.yielded
 rw[if_neg l];by_cases m:b.1=16;·rw[if_pos m];exact a.pull.put a.last
 rw[if_neg m];exact a.pull.pull.push _ (aI.reckon _ _ _)
theorem aV.one{p:List Fn}(b:gL p){s:St}(a:aV s):aV (eE p s).1:=by
 unfold eE;split;·exact aV.zero
 ·exact a.done b
theorem aV.run{p:List Fn}(b:gL p):∀(k:Nat){s:St},aV s→aV (cC p k s).1
 |0,s,a=>a
 |k+1,s,a=>by
  unfold cC;split;·exact a
  ·split;·exact aV.run b k (a.one b)
   ·exact a
theorem aV.begin(p:List Fn):aV (aS p):=⟨fun c a=>by obtain rfl:=List.mem_singleton.1 a;exact fun d b=>by obtain rfl:=List.mem_singleton.1 b;exact⟨cD.Kw _,cD.nil⟩,cD.nil,by simp[aS]⟩
def dF(e:Int):Prop:=e=0∨e=2∨e=5∨e=6∨e=7∨e=8
theorem vZ(s:St)(v:Int):dF (cm s v).2:=by unfold cm dF;split<;>simp
theorem Ez(p:List Fn)(s:St):dF (eE p s).2:=by
 unfold eE;by_cases n:s.now<0;·rw[if_pos n];simp[dF]
 rw[if_neg n,tK];generalize(codeOf p s.top.fn.toNat).getD s.top.at_.toNat (0,0)=a;generalize setAt s (s.top.at_+1)=o;unfold ql;by_cases b:a.1=0;·rw[if_pos b];simp[dF]
 rw[if_neg b];by_cases c:a.1=1;·rw[if_pos c];simp[dF]
 rw[if_neg c];by_cases k:a.1=2;·rw[if_pos k];simp[dF]
 rw[if_neg k];by_cases l:a.1=3;·rw[if_pos l];simp[dF]
 rw[if_neg l];by_cases m:a.1=9;·rw[if_pos m];simp[dF]
 rw[if_neg m];by_cases d:a.1=10;·rw[if_pos d];simp[dF]
 rw[if_neg d];by_cases e:a.1=11;·rw[if_pos e];unfold fK dF;simp only;split<;>simp
 rw[if_neg e];by_cases f:a.1=12
 ·rw[if_pos f];unfold ek;simp only;split
  ·split;·exact vZ _ _
   ·simp[dF]
  ·simp[dF]
 rw[if_neg f];by_cases g:a.1=13;·rw[if_pos g];unfold eC dF;split<;>simp
 rw[if_neg g];by_cases h:a.1=14
 ·rw[if_pos h];unfold eS dF;simp only;split
  ·split;·simp
   ·split<;>simp
  ·simp
 rw[if_neg h];by_cases i:a.1=15;·rw[if_pos i];unfold eI dF;simp only;split<;>simp
 rw[if_neg i];by_cases j:a.1=16;·rw[if_pos j];exact vZ _ _
 rw[if_neg j];simp[dF]
theorem rQ(p:List Fn):∀(k:Nat)(s:St),dF (cC p k s).2.2∧(cC p k s).2.1≤k
 |0,s=>by simp[cC,dF]
 |k+1,s=>by
  unfold cC;split;·simp[dF]
  ·split;·obtain⟨a,h2⟩:=rQ p k (eE p s).1;exact⟨a,by simp only;omega⟩
   ·exact⟨Ez p s,by simp⟩
def aa(s:St)(i:Nat):Fb:=s.I.getD i Fb.zero
def ae(s:St)(i j:Nat):Fr:=(aa s i).U.getD j Fr.zero
theorem ux{α:Type}(l:List α)(i:Nat)(x d:α)(a:i<l.length):(l.set i x).getD i d=x:=by simp[List.getD,a]
theorem getD_set_ne{α:Type}(l:List α)(i j:Nat)(x d:α)(a:i≠j):(l.set i x).getD j d=l.getD j d:=by simp[List.getD,a]
def ak(s:St)(i:Nat)(b:Fb):St:={s with I:=s.I.set i b}
theorem bV{s:St}{i:Nat}(b:Fb)(a:i<s.I.length):aa (ak s i b) i=b:=ux _ _ _ _ a
theorem cS{s:St}{i j:Nat}(b:Fb)(a:i≠j):aa (ak s i b) j=aa s j:=getD_set_ne _ _ _ _ _ a
theorem bj(s:St)(i:Nat)(b:Fb):(ak s i b).I.length=s.I.length:=by simp[ak]
def cd(s:St)(i j:Nat)(f:Fr):St:=ak s i {aa s i with U:=(aa s i).U.set j f}
theorem fp{s:St}{i j:Nat}(f:Fr)(a:i<s.I.length)(b:j<(aa s i).U.length):ae (cd s i j f) i j=f:=by unfold ae cd;rw[bV _ a];exact ux _ _ _ _ b
theorem ic{s:St}{i j i' j':Nat}(f:Fr)(c:i<s.I.length)(b:¬(i=i'∧j=j')):ae (cd s i j f) i' j'=ae s i' j':=by
 unfold ae cd;by_cases a:i=i';·subst a;rw[bV _ c];exact getD_set_ne _ _ _ _ _ (fun a=>b ⟨rfl,a⟩)
 ·rw[cS _ a]
theorem gi{s:St}{i j:Nat}(f:Fr)(b:i<s.I.length)(t:Nat):(aa (cd s i j f) t).U.length=(aa s t).U.length:=by
 unfold cd;by_cases a:i=t;·subst a;rw[bV _ b];simp
 ·rw[cS _ a]
theorem jc{s:St}{i j:Nat}(f:Fr)(b:i<s.I.length)(t:Nat):(aa (cd s i j f) t).caller=(aa s t).caller:=by
 unfold cd;by_cases a:i=t;·subst a;rw[bV _ b]
 ·rw[cS _ a]
def Small(s:St):Prop:=s.I.length≤1000∧s.out.length≤1000∧∀a,a∈s.I→a.U.length≤1000∧∀b,b∈a.U→b.locals.length≤1000∧b.stack.length≤1000
open Go.RowKit
def ints(l:List Int):List Value:=l.map fun a=>Value.int .i64 a
theorem ij(l:List Int):(ints l).length=l.length:=by simp[ints]
theorem ke(l a:List Int):ints (l++a)=ints l++ints a:=by simp[ints]
abbrev Key:=Option (Option (Nat⊕(Nat×Nat)⊕(Nat×Nat)))
abbrev Key.I:Key:=none
abbrev Key.out:Key:=some none
abbrev Key.U(i:Nat):Key:=some (some (.inl i))
abbrev Key.locals(i j:Nat):Key:=some (some (.inr (.inl (i,j))))
abbrev Key.stack(i j:Nat):Key:=some (some (.inr (.inr (i,j))))
theorem Key.by{c:Key→Prop}(fibers:c .I)(out:c .out)(frames:∀a,c (.U a))(locals:∀a b,c (.locals a b))(stack:∀a b,c (.stack a b)):∀d,c d
 |none=>fibers
 |some none=>out
 |some (some (.inl a))=>frames a
 |some (some (.inr (.inl (a,b))))=>locals a b
 |some (some (.inr (.inr (a,b))))=>stack a b
def live(s:St):Key→Prop
 |none=>True
 |some none=>True
 |some (some (.inl a))=>a<s.I.length
 |some (some (.inr (.inl (a,b))))=>a<s.I.length∧b<(aa s a).U.length
 |some (some (.inr (.inr (a,b))))=>a<s.I.length∧b<(aa s a).U.length
def aC(V:Key→Value)(k:Key)(v:Value):Key→Value:=fun a=>if a=k then v else V a
theorem cj(V:Key→Value)(k:Key)(v:Value):aC V k v k=v:=if_pos rfl
theorem aB(V:Key→Value){k a:Key}(v:Value)(b:a≠k):aC V k v a=V a:=if_neg b
def Piece(base:Nat)(w:World)(V:Key→Value)(s:St):Key→Prop
 |none=>∃c,w.ownsRow base 95 2 (V .I) s.I.length c∧∀a,a<s.I.length→c[a*2]?=some (V (.U a))∧c[a*2+1]?=some (.int .i64 (aa s a).caller)
 |some none=>w.ownsRow base 3 1 (V .out) s.out.length (ints s.out)
 |some (some (.inl a))=>∃c,w.ownsRow base 92 4 (V (.U a)) (aa s a).U.length c∧∀b,b<(aa s a).U.length→c[b*4]?=some (.int .i64 (ae s a b).fn)∧c[b*4+1]?=some (.int .i64 (ae s a b).at_)∧c[b*4+2]?=some (V (.locals a b))∧c[b*4+3]?=some (V (.stack a b))
 |some (some (.inr (.inl (a,b))))=>w.ownsRow base 3 1 (V (.locals a b)) (ae s a b).locals.length (ints (ae s a b).locals)
 |some (some (.inr (.inr (a,b))))=>w.ownsRow base 3 1 (V (.stack a b)) (ae s a b).stack.length (ints (ae s a b).stack)
structure Own(base:Nat)(w:World)(V:Key→Value)(s:St):Prop where
 piece:∀a,live s a→Piece base w V s a
 apart:∀a b c,live s a→live s b→(V a).ownBlock=some c→(V b).ownBlock=some c→a=b
theorem fj{w w':World}{base:Nat}{e:TypeId}{c:Nat}{v:Value}{n:Nat}{xs:List Value}(b:w.ownsRow base e c v n xs)(j:∀a,v.ownBlock=some a→w'.heap[a]?=w.heap[a]?):w'.ownsRow base e c v n xs:=by
 refine⟨b.1,?_⟩;rcases b.2 with i|⟨a,d,f,rfl,g,h,k⟩;·exact .inl i
 ·exact .inr ⟨a,d,f,rfl,g,by rw[j a rfl];exact h,k⟩
theorem Piece.same{base:Nat}{w w':World}{V:Key→Value}{s:St}{k:Key}(a:Piece base w V s k)(b:∀c,(V k).ownBlock=some c→w'.heap[c]?=w.heap[c]?):Piece base w' V s k:=by
 cases k using Key.by with
 |fibers=>obtain⟨e,d,h2⟩:=a;exact⟨e,fj d b,h2⟩
 |out=>exact fj a b
 |frames f=>obtain⟨e,d,h2⟩:=a;exact⟨e,fj d b,h2⟩
 |locals f g=>exact fj a b
 |stack f g=>exact fj a b
theorem Piece.block{base:Nat}{w:World}{V:Key→Value}{s:St}{k:Key}(a:Piece base w V s k):∀b,(V k).ownBlock=some b→base≤b∧b<w.heap.size:=by
 cases k using Key.by with
 |fibers=>obtain⟨f,c,h2⟩:=a;exact c.lt
 |out=>exact World.ownsRow.lt a
 |frames d=>obtain⟨f,c,h2⟩:=a;exact c.lt
 |locals d e=>exact World.ownsRow.lt a
 |stack d e=>exact World.ownsRow.lt a
def Own.off(V:Key→Value)(s:St)(g:Nat):Prop:=∀a,live s a→(V a).ownBlock≠some g
theorem Own.same{base:Nat}{w w':World}{V:Key→Value}{s:St}(c:Own base w V s)(f:∀b a,live s b→(V b).ownBlock=some a→w'.heap[a]?=w.heap[a]?):Own base w' V s:=⟨fun b d=>(c.piece b d).same (fun a e=>f b a d e),c.apart⟩
theorem Own.JU{base:Nat}{w:World}{V:Key→Value}{s:St}(b:Own base w V s){g:Nat}(e:w.heap.size≤g∨g<base):Own.off V s g:=fun d c a=>by have:=(b.piece d c).block g a;omega
theorem Own.alloc{base:Nat}{w:World}{V:Key→Value}{s:St}(b:Own base w V s)(o:Obj):Own base (w.alloc o) V s:=b.same fun e a d c=>Below.heap_alloc w o a ((b.piece e d).block a c).2
theorem Own.drew{base:Nat}{w:World}{V:Key→Value}{s:St}(a:Own base w V s):Own base w.drew V s:=a.same fun _ _ _ _=>rfl
theorem Own.JW{base:Nat}{w:World}{V:Key→Value}{s:St}(d:Own base w V s){a:Addr}(e:Own.off V s a.block)(u:Value):Own base (w.setCell a u) V s:=d.same fun h c g f=>Below.heap_setCell w a u c (fun b=>e h g (by rw[f,b]))
theorem Own.now{base:Nat}{w:World}{V:Key→Value}{s:St}(c:Own base w V s)(n:Int):Own base w V {s with now:=n}:=⟨fun a b=>by have:=c.piece a (by cases a using Key.by<;>exact b);cases a using Key.by<;>exact this,fun a d e b f=>c.apart a d e (by cases a using Key.by<;>exact b) (by cases d using Key.by<;>exact f)⟩
theorem Own.Kd{base:Nat}{w w':World}{V d:Key→Value}{s f:St}(k:Own base w V s)(o:∀a,live f a→Piece base w' d f a∨(live s a∧d a=V a∧(Piece base w' V s a→Piece base w' d f a)∧∀b,(V a).ownBlock=some b→w'.heap[b]?=w.heap[b]?))(l:∀a b,live f a→(d a).ownBlock=some b→(live s a∧(V a).ownBlock=some b)∨Own.off V s b)(n:∀a e b,live f a→live f e→Own.off V s b→(d a).ownBlock=some b→(d e).ownBlock=some b→a=e):Own base w' d f:=by
 refine⟨fun a g=>?_,fun a e b g m i j=>?_⟩
 ·rcases o a g with c|⟨c,h2,h3,h⟩;·exact c
  ·exact h3 ((k.piece a c).same h)
 ·rcases l a b g i with⟨c,h2⟩|c
  ·rcases l e b m j with⟨h3,h⟩|h3;·exact k.apart a e b c h3 h2 h
   ·exact absurd h2 (h3 a c)
  ·exact n a e b g m c i j
theorem Own.Kb{base:Nat}{w:World}{V:Key→Value}{s:St}(n:Own base w V s){i g cap:Nat}(u:i<s.I.length)(o:V .I=.slice (some ⟨g,0,none⟩) s.I.length cap)(c:Int):Own base (w.setCell ⟨g,i*2+1,none⟩ (.int .i64 c)) V (ak s i {aa s i with caller:=c}):=by
 have r:=bj s i {aa s i with caller:=c};have k:∀a,(aa (ak s i {aa s i with caller:=c}) a).U=(aa s a).U:=fun a=>by
  by_cases d:i=a;·subst d;rw[bV _ u]
  ·rw[cS _ d]
 have p:∀a e,ae (ak s i {aa s i with caller:=c}) a e=ae s a e:=fun a e=>by unfold ae;rw[k]
 have t:∀b,live (ak s i {aa s i with caller:=c}) b↔live s b:=by intro b;cases b using Key.by<;>simp only[live,r,k]
 refine n.Kd (fun b j=>?_) (fun b m j d=>.inl ⟨(t b).1 j,d⟩) (fun b C m j _ A d _=>absurd d (A b ((t b).1 j)));by_cases q:b=.I
 ·subst q;left;obtain⟨l,h,h2⟩:=n.piece .I trivial;rw[o]at h;refine⟨l.set (i*2+1) (.int .i64 c),?_,fun a v=>?_⟩;·rw[o,r];exact(h.stored _ _).1
  ·rw[r]at v;obtain⟨h3,z⟩:=h2 a v;have B:i*2+1<l.length:=by rw[h.1];omega
   refine⟨by rw[List.getElem?_set,if_neg (by omega)];exact h3,?_⟩;by_cases d:i=a;·subst d;rw[List.getElem?_set,if_pos rfl,if_pos B,bV _ u]
   ·rw[List.getElem?_set,if_neg (by omega),cS _ d];exact z
 ·right;have x:=(t b).1 j;refine⟨x,rfl,fun f=>?_,fun m d=>Below.heap_setCell w _ _ m ?_⟩
  ·cases b using Key.by with
   |fibers=>exact absurd rfl q
   |out=>exact f
   |frames a=>obtain⟨l,h,h2⟩:=f;exact⟨l,by rw[k];exact h,fun e y=>by rw[k]at y;rw[p];exact h2 e y⟩
   |locals a e=>simp only[Piece,p]at f⊢;exact f
   |stack a e=>simp only[Piece,p]at f⊢;exact f
  ·rintro rfl;exact q (n.apart b .I _ x trivial d (by rw[o];rfl))
theorem fy{s:St}{i j:Nat}(f:Fr)(a:i<s.I.length)(k:Key):live (cd s i j f) k↔live s k:=by have b:(cd s i j f).I.length=s.I.length:=bj _ _ _;cases k using Key.by<;>simp only[live,b,gi f a]
theorem Own.Kz{base:Nat}{w w1:World}{V:Key→Value}{s:St}(d:Own base w V s){i j g cap:Nat}(e:i<s.I.length)(y:j<(aa s i).U.length)(B:V (.U i)=.slice (some ⟨g,0,none⟩) (aa s i).U.length cap)(b:Value)(f:Fr)(u:Nat)(x:Value)(a9:u<4)(H:∀h,h<w.heap.size→(V (.stack i j)).ownBlock≠some h→w1.heap[h]?=w.heap[h]?)(a2:w1.ownsRow base 3 1 b f.stack.length (ints f.stack))(G:b.ownBlock=(V (.stack i j)).ownBlock∨b.ownBlock=some w.heap.size)(Y:f.locals=(ae s i j).locals)(P:(Value.int .i64 f.fn)=if u=0 then x else .int .i64 (ae s i j).fn)(Q:(Value.int .i64 f.at_)=if u=1 then x else .int .i64 (ae s i j).at_)(h2:V (.locals i j)=if u=2 then x else V (.locals i j))(h3:b=if u=3 then x else V (.stack i j)):Own base (w1.setCell ⟨g,j*4+u,none⟩ x) (aC V (.stack i j) b) (cd s i j f):=by
 have D:(V (.U i)).ownBlock=some g:=by rw[B];rfl
 have z:live s (.U i):=e;have L:live s (.stack i j):=⟨e,y⟩;have I:(V (.stack i j)).ownBlock≠some g:=fun a=>by have:=d.apart _ _ _ L z a D;cases this
 have T:g<w.heap.size:=((d.piece _ z).block g D).2;have a3:b.ownBlock≠some g:=by
  rcases G with a|a;·rw[a];exact I
  ·rw[a];intro l;cases l;omega
 have a1:∀c,live s c→c≠.U i→c≠.stack i j→∀h,(V c).ownBlock=some h→(w1.setCell ⟨g,j*4+u,none⟩ x).heap[h]?=w.heap[h]?:=by intro c m Z a0 h C;have S:=((d.piece c m).block h C).2;rw[Below.heap_setCell _ _ _ _ (fun a=>Z (d.apart c _ h m z C (by rw[D];exact congrArg some a.symm)))];exact H h S (fun a=>a0 (d.apart c _ h m L C a))
 refine d.Kd (fun c m=>?_) (fun c h m a=>?_) (fun c F h m W N a l=>?_)
 ·have p:=(fy f e c).1 m;by_cases k:c=.stack i j;·subst k;left;show World.ownsRow _ _ _ _ _ _ _;rw[fp f e y,cj];exact ownsRow_setCell_other a2 a3 _
  ·by_cases E:c=.U i
   ·subst E;left;obtain⟨r,q,v⟩:=d.piece _ z;rw[B]at q;have a8:w1.ownsRow base 92 4 (.slice (some ⟨g,0,none⟩) (aa s i).U.length cap) (aa s i).U.length r:=fj q (fun h a=>by cases a;exact H g T I);have b0:j*4+u<r.length:=by rw[q.1];omega
    refine⟨r.set (j*4+u) x,?_,fun o t=>?_⟩;·rw[gi f e];rw[aB V b k,B];exact(a8.stored _ _).1
    ·rw[gi f e]at t;obtain⟨a4,a5,a6,a7⟩:=v o t;by_cases a:j=o
     ·subst a;rw[fp f e y];refine⟨?_,?_,?_,?_⟩
      ·rw[P,List.getElem?_set];by_cases a:u=0;·subst a;simp;omega
       ·rw[if_neg (by omega),if_neg a];exact a4
      ·rw[Q,List.getElem?_set];by_cases a:u=1;·subst a;simp;omega
       ·rw[if_neg (by omega),if_neg a];exact a5
      ·rw[aB V b (by simp),h2,List.getElem?_set];by_cases a:u=2;·subst a;simp;omega
       ·rw[if_neg (by omega),if_neg a];exact a6
      ·rw[cj,h3,List.getElem?_set];by_cases a:u=3;·subst a;simp;omega
       ·rw[if_neg (by omega),if_neg a];exact a7
     ·rw[ic f e (fun d=>a d.2)];rw[aB V b (by simp),aB V b (by simp;intro d;exact a d.symm)];refine⟨?_,?_,?_,?_⟩<;>rw[List.getElem?_set,if_neg (by omega)]<;>assumption
   ·right;refine⟨p,aB V b k,fun n=>?_,a1 c p E k⟩;cases c using Key.by with
    |fibers=>
     obtain⟨r,q,v⟩:=n;refine⟨r,?_,fun o t=>?_⟩;·rw[show(cd s i j f).I.length=s.I.length from bj _ _ _,aB V b (by simp)];exact q
     ·rw[show(cd s i j f).I.length=s.I.length from bj _ _ _]at t;rw[jc f e,aB V b (by simp)];exact v o t
    |out=>simp only[Piece]at n⊢;rw[aB V b (by simp)];exact n
    |frames o=>have M:i≠o:=fun a=>E (by rw[a]);obtain⟨r,q,v⟩:=n;refine⟨r,by rw[gi f e,aB V b (by simp)];exact q,fun A O=>?_⟩;rw[gi f e]at O;rw[ic f e (fun d=>M d.1),aB V b (by simp),aB V b (by simp;intro d;exact absurd d.symm M)];exact v A O
    |locals o A=>
     simp only[Piece]at n⊢;rw[aB V b (by simp)];by_cases a:i=o∧j=A;·obtain⟨rfl,rfl⟩:=a;rw[fp f e y,Y];exact n
     ·rw[ic f e a];exact n
    |stack o A=>simp only[Piece]at n⊢;rw[aB V b k,ic f e (fun d=>k (by rw[d.1,d.2]))];exact n
 ·have p:=(fy f e c).1 m;by_cases k:c=.stack i j
  ·subst k;rw[cj]at a;rcases G with l|l;·exact .inl ⟨p,by rw[←l,a]⟩
   ·rw[a]at l;cases l;exact .inr (d.JU (.inl (Nat.le_refl _)))
  ·rw[aB V b k]at a;exact .inl ⟨p,a⟩
 ·have p:=(fy f e c).1 m;have X:=(fy f e F).1 W;by_cases k:c=.stack i j
  ·by_cases K:F=.stack i j;·rw[k,K]
   ·rw[aB V b K]at l;exact absurd l (N F X)
  ·rw[aB V b k]at a;exact absurd a (N c p)
theorem Own.Kh{base:Nat}{w:World}{V:Key→Value}{s:St}(e:Own base w V s){i j g cap q:Nat}(a:i<s.I.length)(m:j<(aa s i).U.length)(o:V (.locals i j)=.slice (some ⟨g,0,none⟩) (ae s i j).locals.length cap)(z:Int):Own base (w.setCell ⟨g,q,none⟩ (.int .i64 z)) V (cd s i j {ae s i j with locals:=(ae s i j).locals.set q z}):=by
 have D:(V (.locals i j)).ownBlock=some g:=by rw[o];rfl
 have A:live s (.locals i j):=⟨a,m⟩;refine e.Kd (fun c h=>?_) (fun c l h b=>.inl ⟨(fy _ a c).1 h,b⟩) (fun c F l h _ E b _=>absurd b (E c ((fy _ a c).1 h)));have y:=(fy _ a c).1 h;by_cases p:c=.locals i j;·subst p;left;have v:w.ownsRow base 3 1 (V (.locals i j)) (ae s i j).locals.length (ints (ae s i j).locals):=e.piece _ A;rw[o]at v;show World.ownsRow _ _ _ _ _ _ _;rw[fp _ a m,o];have:=(v.stored q (.int .i64 z)).1;simpa[ints,List.map_set]using this
 ·right;refine⟨y,rfl,fun d=>?_,fun l b=>Below.heap_setCell w _ _ l (fun C=>p (e.apart c _ l y A b (by rw[D,C])))⟩;cases c using Key.by with
  |fibers=>obtain⟨u,t,n⟩:=d;have x:(cd s i j {ae s i j with locals:=(ae s i j).locals.set q z}).I.length=s.I.length:=bj _ _ _;exact⟨u,by rw[x];exact t,fun f B=>by rw[x]at B;rw[jc _ a];exact n f B⟩
  |out=>exact d
  |frames f=>
   obtain⟨u,t,n⟩:=d;refine⟨u,by rw[gi _ a];exact t,fun k r=>?_⟩;rw[gi _ a]at r;by_cases b:i=f∧j=k;·obtain⟨rfl,rfl⟩:=b;rw[fp _ a m];exact n _ r
   ·rw[ic _ a b];exact n k r
  |locals f k=>simp only[Piece]at d⊢;rw[ic _ a (fun e=>p (by rw[e.1,e.2]))];exact d
  |stack f k=>
   simp only[Piece]at d⊢;by_cases b:i=f∧j=k;·obtain⟨rfl,rfl⟩:=b;rw[fp _ a m];exact d
   ·rw[ic _ a b];exact d
theorem kX{α:Type}(l b:List α)(i:Nat)(d:α)(a:i<l.length):(l++b).getD i d=l.getD i d:=by simp[List.getD,List.getElem?_append_left a]
theorem mF{α:Type}(l:List α)(x d:α):(l++[x]).getD l.length d=x:=by simp[List.getD]
theorem Own.Ki{base:Nat}{w:World}{V:Key→Value}{s:St}(f:Own base w V s){i gF capF g cap:Nat}(l:i<s.I.length)(t:V .I=.slice (some ⟨gF,0,none⟩) s.I.length capF)(A:V (.U i)=.slice (some ⟨g,0,none⟩) (aa s i).U.length cap):Own base (w.setCell ⟨gF,i*2,none⟩ (.slice (some ⟨g,0,none⟩) ((aa s i).U.length-1) cap)) (aC V (.U i) (.slice (some ⟨g,0,none⟩) ((aa s i).U.length-1) cap)) (ak s i {aa s i with U:=(aa s i).U.dropLast}):=by
 have D:(V (.U i)).ownBlock=some g:=by rw[A];rfl
 have z:(V .I).ownBlock=some gF:=by rw[t];rfl
 have F:live s (.U i):=l;have o:=bj s i {aa s i with U:=(aa s i).U.dropLast};have C:∀a,(aa (ak s i {aa s i with U:=(aa s i).U.dropLast}) a).U.length≤(aa s a).U.length:=fun a=>by
  by_cases b:i=a;·subst b;rw[bV _ l];simp
  ·rw[cS _ b];exact Nat.le_refl _
 have r:∀a e,e<(aa (ak s i {aa s i with U:=(aa s i).U.dropLast}) a).U.length→ae (ak s i {aa s i with U:=(aa s i).U.dropLast}) a e=ae s a e:=fun a e k=>by
  unfold ae;by_cases b:i=a
  ·subst b;rw[bV _ l]at k⊢;simp at k;have T:e<(aa s i).U.length:=by omega
   simp[List.getD,k,T]
  ·rw[cS _ b]
 have M:∀a,(aa (ak s i {aa s i with U:=(aa s i).U.dropLast}) a).caller=(aa s a).caller:=fun a=>by
  by_cases b:i=a;·subst b;rw[bV _ l]
  ·rw[cS _ b]
 have x:∀c,live (ak s i {aa s i with U:=(aa s i).U.dropLast}) c→live s c:=by
  intro c d;cases c using Key.by with
  |fibers=>trivial
  |out=>trivial
  |frames a=>simpa only[live,o]using d
  |locals a e=>simp only[live,o]at d⊢;exact⟨d.1,Nat.lt_of_lt_of_le d.2 (C a)⟩
  |stack a e=>simp only[live,o]at d⊢;exact⟨d.1,Nat.lt_of_lt_of_le d.2 (C a)⟩
 have B:∀c,(aC V (.U i) (.slice (some ⟨g,0,none⟩) ((aa s i).U.length-1) cap) c).ownBlock=(V c).ownBlock:=by
  intro c;by_cases b:c=.U i;·subst b;rw[cj,D];rfl
  ·rw[aB V _ b]
 refine f.Kd (fun c d=>?_) (fun c p d b=>.inl ⟨x c d,by rw[←B];exact b⟩) (fun c a3 p d _ S b _=>absurd (by rw[←B];exact b) (S c (x c d)));have E:=x c d;by_cases u:c=.I
 ·subst u;left;obtain⟨n,h,h2⟩:=f.piece .I trivial;rw[t]at h;refine⟨n.set (i*2) (.slice (some ⟨g,0,none⟩) ((aa s i).U.length-1) cap),?_,fun a m=>?_⟩;·rw[aB V _ (by simp),t,o];exact(h.stored _ _).1
  ·rw[o]at m;obtain⟨h3,K⟩:=h2 a m;have X:i*2<n.length:=by rw[h.1];omega
   refine⟨?_,by rw[List.getElem?_set,if_neg (by omega),M];exact K⟩;by_cases b:i=a;·subst b;rw[List.getElem?_set,if_pos rfl,if_pos X,cj]
   ·rw[List.getElem?_set,if_neg (by omega),aB V _ (by simp;exact fun f=>b f.symm)];exact h3
 ·have P:g≠gF:=fun b=>by have:=f.apart _ .I g F trivial D (by rw[z,b]);cases this
  by_cases v:c=.U i
  ·subst v;left;obtain⟨n,h,h2⟩:=f.piece _ F;rw[A]at h;have G:((aa s i).U.dropLast).length=(aa s i).U.length-1:=by simp
   refine⟨n.take (((aa s i).U.length-1)*4),?_,fun a m=>?_⟩
   ·rw[cj,bV _ l];simp only[G];refine ownsRow_setCell_other ?_ (by simp[Value.ownBlock,P]) _;refine⟨by rw[List.length_take,h.1];omega,?_⟩;rcases h.2 with⟨q,_⟩|⟨a1,a0,H,q,L,Q,a2,N,O,W⟩;·simp at q
    ·simp only[Value.slice.injEq,Option.some.injEq,Addr.mk.injEq,and_true,true_and]at q;obtain⟨rfl,rfl⟩:=q;refine .inr ⟨g,cap,H,rfl,L,Q,by omega,N,O,?_⟩;rw[←W,List.take_take,Nat.min_eq_left (by omega)]
   ·rw[r i a m];rw[bV _ l]at m;simp only[G]at m;obtain⟨a4,a5,a6,a7⟩:=h2 a (by omega);rw[aB V _ (by simp),aB V _ (by simp)];refine⟨?_,?_,?_,?_⟩<;>rw[List.getElem?_take,if_pos (by omega)]<;>assumption
  ·right;refine⟨E,aB V _ v,fun j=>?_,fun p b=>Below.heap_setCell w _ _ p (fun I=>u (f.apart c _ p E trivial b (by rw[z,I])))⟩;cases c using Key.by with
   |fibers=>exact absurd rfl u
   |out=>simp only[Piece]at j⊢;rw[aB V _ (by simp)];exact j
   |frames a=>have y:i≠a:=fun b=>v (by rw[b]);obtain⟨n,Y,Z⟩:=j;refine⟨n,by rw[cS _ y,aB V _ (by simp;exact fun f=>y f.symm)];exact Y,fun e k=>?_⟩;rw[r a e k];rw[cS _ y]at k;rw[aB V _ (by simp),aB V _ (by simp)];exact Z e k
   |locals a e=>simp only[Piece]at j⊢;rw[aB V _ (by simp),r a e d.2];exact j
   |stack a e=>simp only[Piece]at j⊢;rw[aB V _ (by simp),r a e d.2];exact j
theorem Own.KH{base:Nat}{w w1:World}{V:Key→Value}{s:St}(h:Own base w V s){i gF capF:Nat}(y:i<s.I.length)(L:V .I=.slice (some ⟨gF,0,none⟩) s.I.length capF)(f:Fr)(o n:Value)(b2:f.stack=[]){gl:Nat}(N:o.ownBlock=none∨o.ownBlock=some gl)(a2:Own.off V s gl)(c0:gl<w.heap.size)(b0:w1.ownsRow base 3 1 o f.locals.length (ints f.locals))(a0:∀l,l<w.heap.size→(V (.U i)).ownBlock≠some l→w1.heap[l]?=w.heap[l]?)(b1:∀r,w.ownsRow base 92 4 (V (.U i)) (aa s i).U.length r→w1.ownsRow base 92 4 n ((aa s i).U.length+1) (r++[.int .i64 f.fn,.int .i64 f.at_,o,.slice none 0 0]))(M:n.ownBlock=(V (.U i)).ownBlock∨n.ownBlock=some w.heap.size):Own base (w1.setCell ⟨gF,i*2,none⟩ n) (aC (aC (aC V (.U i) n) (.locals i (aa s i).U.length) o) (.stack i (aa s i).U.length) (.slice none 0 0)) (ak s i {aa s i with U:=(aa s i).U++[f]}):=by
 generalize u:(aa s i).U.length=e at*;have D:(V .I).ownBlock=some gF:=by rw[L];rfl
 have S:live s (.U i):=y;have B:=bj s i {aa s i with U:=(aa s i).U++[f]};have Z:(V (.U i)).ownBlock≠some gF:=fun a=>by have:=h.apart _ .I _ S trivial a D;cases this
 have a8:gF<w.heap.size:=((h.piece .I trivial).block gF D).2;have b3:n.ownBlock≠some gF:=by
  rcases M with a|a;·rw[a];exact Z
  ·rw[a];intro d;cases d;omega
 have b4:o.ownBlock≠some gF:=by
  rcases N with a|a;·rw[a];simp
  ·rw[a];intro d;cases d;exact a2 .I trivial D
 have t:aa (ak s i {aa s i with U:=(aa s i).U++[f]}) i={aa s i with U:=(aa s i).U++[f]}:=bV _ y;have x:∀b,i≠b→aa (ak s i {aa s i with U:=(aa s i).U++[f]}) b=aa s b:=fun b a=>cS _ a;have H:∀b g,(i=b→g<e)→ae (ak s i {aa s i with U:=(aa s i).U++[f]}) b g=ae s b g:=fun b g z=>by
  unfold ae;by_cases a:i=b;·subst a;rw[t];exact kX _ _ _ _ (by rw[u];exact z rfl)
  ·rw[x b a]
 have W:ae (ak s i {aa s i with U:=(aa s i).U++[f]}) i e=f:=by unfold ae;rw[t,←u];exact mF _ _ _
 have Q:∀c,live (ak s i {aa s i with U:=(aa s i).U++[f]}) c→c=.locals i e∨c=.stack i e∨(live s c∧∀b g,(c=.locals b g∨c=.stack b g)→i=b→g<e):=by
  intro c j;cases c using Key.by with
  |fibers=>exact .inr (.inr ⟨trivial,fun b g h=>by simp at h⟩)
  |out=>exact .inr (.inr ⟨trivial,fun b g h=>by simp at h⟩)
  |frames b=>exact .inr (.inr ⟨by simpa only[live,B]using j,fun b g h=>by simp at h⟩)
  |locals b g=>
   simp only[live,B]at j;by_cases a:i=b
   ·subst a;rw[t]at j;simp only[List.length_append,List.length_cons,List.length_nil,u]at j;by_cases a:g=e;·left;rw[a]
    ·exact .inr (.inr ⟨⟨y,by omega⟩,fun Y X h _=>by simp at h;omega⟩)
   ·rw[x b a]at j;exact .inr (.inr ⟨j,fun Y X h d=>by simp at h;omega⟩)
  |stack b g=>
   simp only[live,B]at j;by_cases a:i=b
   ·subst a;rw[t]at j;simp only[List.length_append,List.length_cons,List.length_nil,u]at j;by_cases a:g=e;·right;left;rw[a]
    ·exact .inr (.inr ⟨⟨y,by omega⟩,fun Y X h _=>by simp at h;omega⟩)
   ·rw[x b a]at j;exact .inr (.inr ⟨j,fun Y X h d=>by simp at h;omega⟩)
 have a6:¬live s (.locals i e):=fun O=>by have:=O.2;omega
 have a7:¬live s (.stack i e):=fun O=>by have:=O.2;omega
 have m:∀c,live s c→c≠.U i→aC (aC (aC V (.U i) n) (.locals i e) o) (.stack i e) (.slice none 0 0) c=V c:=fun c j a=>by rw[aB _ _ (fun(a:c=.stack i e)=>a7 (a▸j)),aB _ _ (fun(a:c=.locals i e)=>a6 (a▸j)),aB _ _ a]
 have E:aC (aC (aC V (.U i) n) (.locals i e) o) (.stack i e) (.slice none 0 0) (.U i)=n:=by rw[aB _ _ (by simp),aB _ _ (by simp),cj]
 have F:aC (aC (aC V (.U i) n) (.locals i e) o) (.stack i e) (.slice none 0 0) (.locals i e)=o:=by rw[aB _ _ (by simp),cj]
 have G:aC (aC (aC V (.U i) n) (.locals i e) o) (.stack i e) (.slice none 0 0) (.stack i e)=.slice none 0 0:=cj _ _ _;generalize aC (aC (aC V (.U i) n) (.locals i e) o) (.stack i e) (.slice none 0 0)=a5 at*;refine h.Kd (fun c j=>?_) (fun c l j a=>?_) (fun c b7 l j a9 a1 a d=>?_)
 ·rcases Q c j with rfl|rfl|⟨k,z⟩;·left;show World.ownsRow _ _ _ _ _ _ _;rw[F,W];exact ownsRow_setCell_other b0 b4 _
  ·left;show World.ownsRow _ _ _ _ _ _ _;rw[G,W,b2];exact World.ownsRow_nil _ _ _ _
  ·by_cases P:c=.I
   ·subst P;left;obtain⟨r,p,h2⟩:=h.piece .I trivial;rw[L]at p;have K:w1.ownsRow base 95 2 (.slice (some ⟨gF,0,none⟩) s.I.length capF) s.I.length r:=fj p (fun l a=>by cases a;exact a0 gF a8 Z);refine⟨r.set (i*2) n,?_,fun b A=>?_⟩;·rw[m .I trivial (by simp),L,B];exact(K.stored _ _).1
    ·rw[B]at A;obtain⟨h3,C⟩:=h2 b A;have b5:i*2<r.length:=by rw[p.1];omega
     by_cases a:i=b;·subst a;refine⟨by rw[List.getElem?_set,if_pos rfl,if_pos b5,E],?_⟩;rw[List.getElem?_set,if_neg (by omega),t];exact C
     ·refine⟨by rw[List.getElem?_set,if_neg (by omega),m (.U b) A (by simp;exact fun h=>a h.symm)];exact h3,?_⟩;rw[List.getElem?_set,if_neg (by omega),x b a];exact C
   ·by_cases q:c=.U i
    ·subst q;left;obtain⟨r,p,h2⟩:=h.piece _ S;rw[u]at p h2;have K:=b1 r p;refine⟨_,by rw[E,t];simp only[List.length_append,List.length_cons,List.length_nil,u];exact ownsRow_setCell_other K b3 _,fun b A=>?_⟩;rw[t]at A;simp only[List.length_append,List.length_cons,List.length_nil,u]at A;have b6:r.length=e*4:=p.1;by_cases a:b=e
     ·subst a;rw[W,F,G];refine⟨?_,?_,?_,?_⟩<;>rw[List.getElem?_append_right (by omega),b6];·rw[show b*4-b*4=0 by omega];rfl
      ·rw[show b*4+1-b*4=1 by omega];rfl
      ·rw[show b*4+2-b*4=2 by omega];rfl
      ·rw[show b*4+3-b*4=3 by omega];rfl
     ·have a3:b<e:=by omega
      obtain⟨c1,c2,c3,c4⟩:=h2 b a3;rw[H i b (fun _=>a3),m (.locals i b) ⟨y,by omega⟩ (by simp),m (.stack i b) ⟨y,by omega⟩ (by simp)];refine⟨?_,?_,?_,?_⟩<;>rw[List.getElem?_append_left (by omega)]<;>assumption
    ·right;refine⟨k,m c k q,fun v=>?_,fun l a=>?_⟩
     ·cases c using Key.by with
      |fibers=>exact absurd rfl P
      |out=>simp only[Piece]at v⊢;rw[m .out trivial (by simp)];exact v
      |frames b=>have T:i≠b:=fun a=>q (by rw[a]);obtain⟨r,b8,b9⟩:=v;refine⟨r,by rw[x b T,m _ k q];exact b8,fun g I=>?_⟩;rw[x b T]at I;rw[H b g (fun a=>absurd a T),m (.locals b g) ⟨k,I⟩ (by simp),m (.stack b g) ⟨k,I⟩ (by simp)];exact b9 g I
      |locals b g=>simp only[Piece]at v⊢;rw[m _ k (by simp),H b g (z b g (.inl rfl))];exact v
      |stack b g=>simp only[Piece]at v⊢;rw[m _ k (by simp),H b g (z b g (.inr rfl))];exact v
     ·rw[Below.heap_setCell w1 _ _ l (fun d=>P (h.apart c _ l k trivial a (by rw[D,d])))];exact a0 l ((h.piece c k).block l a).2 (fun d=>q (h.apart c _ l k S a d))
 ·rcases Q c j with rfl|rfl|⟨k,z⟩
  ·right;rw[F]at a;rcases N with d|d;·rw[d]at a;cases a
   ·rw[d]at a;cases a;exact a2
  ·rw[G]at a;cases a
  ·by_cases q:c=.U i
   ·subst q;rw[E]at a;rcases M with d|d;·exact .inl ⟨k,by rw[←d,a]⟩
    ·rw[a]at d;cases d;exact .inr (h.JU (.inl (Nat.le_refl _)))
   ·rw[m c k q]at a;exact .inl ⟨k,a⟩
 ·have a4:∀c,live (ak s i {aa s i with U:=(aa s i).U++[f]}) c→(a5 c).ownBlock=some l→(c=.locals i e∧l=gl)∨(c=.U i∧l=w.heap.size):=by
   intro c j a;rcases Q c j with rfl|rfl|⟨k,z⟩
   ·left;rw[F]at a;rcases N with d|d;·rw[d]at a;cases a
    ·rw[d]at a;cases a;exact⟨rfl,rfl⟩
   ·rw[G]at a;cases a
   ·by_cases q:c=.U i
    ·subst q;right;rw[E]at a;rcases M with d|d;·exact absurd (by rw[←d,a]) (a1 (.U i) k)
     ·rw[a]at d;cases d;exact⟨rfl,rfl⟩
    ·rw[m c k q]at a;exact absurd a (a1 c k)
  rcases a4 c j a with⟨p,h2⟩|⟨p,h2⟩<;>rcases a4 b7 a9 d with⟨h3,C⟩|⟨h3,C⟩;·rw[p,h3]
  ·omega
  ·omega
  ·rw[p,h3]
theorem Own.Kn{base:Nat}{w w1:World}{V:Key→Value}{s:St}(i:Own base w V s)(l:List Int)(vo:Value)(A:w1.ownsRow base 3 1 vo l.length (ints l))(v:∀d,d<w.heap.size→(V .out).ownBlock≠some d→w1.heap[d]?=w.heap[d]?)(u:vo.ownBlock=(V .out).ownBlock∨vo.ownBlock=some w.heap.size):Own base w1 (aC V .out vo) {s with out:=l}:=by
 have j:∀a,live {s with out:=l} a↔live s a:=fun a=>by cases a using Key.by<;>exact Iff.rfl
 refine i.Kd (fun a h=>?_) (fun a d h c=>?_) (fun a n d h z t c e=>?_)
 ·have f:=(j a).1 h;by_cases b:a=.out;·subst b;left;show World.ownsRow _ _ _ _ _ _ _;rw[cj];exact A
  ·right;refine⟨f,aB V vo b,fun g=>?_,fun d c=>v d ((i.piece a f).block d c).2 (fun e=>b (i.apart a .out d f trivial c e))⟩;cases a using Key.by with
   |fibers=>obtain⟨q,o,p⟩:=g;exact⟨q,by rw[aB V vo b];exact o,fun k x=>by rw[aB V vo (by simp)];exact p k x⟩
   |out=>exact absurd rfl b
   |frames k=>obtain⟨q,o,p⟩:=g;exact⟨q,by rw[aB V vo b];exact o,fun m y=>by rw[aB V vo (by simp),aB V vo (by simp)];exact p m y⟩
   |locals k m=>simp only[Piece]at g⊢;rw[aB V vo b];exact g
   |stack k m=>simp only[Piece]at g⊢;rw[aB V vo b];exact g
 ·have f:=(j a).1 h;by_cases b:a=.out
  ·subst b;rw[cj]at c;rcases u with e|e;·exact .inl ⟨f,by rw[←e,c]⟩
   ·rw[c]at e;cases e;exact .inr (i.JU (.inl (Nat.le_refl _)))
  ·rw[aB V vo b]at c;exact .inl ⟨f,c⟩
 ·by_cases b:a=.out
  ·by_cases r:n=.out;·rw[b,r]
   ·rw[aB V vo r]at e;exact absurd e (t n ((j n).1 z))
  ·rw[aB V vo b]at c;exact absurd c (t a ((j a).1 h))
theorem Own.KE{base:Nat}{w w1:World}{V:Key→Value}{s:St}(k:Own base w V s)(f:Fr)(c:Int)(n p o:Value)(a9:f.stack=[]){gl gf:Nat}(S:n.ownBlock=none∨n.ownBlock=some gl)(Q:p.ownBlock=some gf)(b6:gl≠gf)(a6:Own.off V s gl)(a7:Own.off V s gf)(b4:gl<w.heap.size)(b5:gf<w.heap.size)(a5:w1.ownsRow base 3 1 n f.locals.length (ints f.locals))(a2:w1.ownsRow base 92 4 p 1 [.int .i64 f.fn,.int .i64 f.at_,n,.slice none 0 0])(a3:∀l,l<w.heap.size→(V .I).ownBlock≠some l→w1.heap[l]?=w.heap[l]?)(a8:∀u,w.ownsRow base 95 2 (V .I) s.I.length u→w1.ownsRow base 95 2 o (s.I.length+1) (u++[p,.int .i64 c]))(P:o.ownBlock=(V .I).ownBlock∨o.ownBlock=some w.heap.size):Own base w1 (aC (aC (aC (aC V .I o) (.U s.I.length) p) (.locals s.I.length 0) n) (.stack s.I.length 0) (.slice none 0 0)) {s with I:=s.I++[⟨[f],c⟩]}:=by
 generalize G:s.I.length=d at*;have A:({s with I:=s.I++[⟨[f],c⟩]}:St).I.length=d+1:=by simp[G]
 have x:∀b,b<d→aa {s with I:=s.I++[⟨[f],c⟩]} b=aa s b:=fun b C=>kX _ _ _ _ (by rw[G];exact C);have v:aa {s with I:=s.I++[⟨[f],c⟩]} d=⟨[f],c⟩:=by rw[←G];exact mF _ _ _
 have K:ae {s with I:=s.I++[⟨[f],c⟩]} d 0=f:=by unfold ae;rw[v];rfl
 have L:∀b h,b<d→ae {s with I:=s.I++[⟨[f],c⟩]} b h=ae s b h:=fun b h C=>by unfold ae;rw[x b C]
 have N:∀e,live {s with I:=s.I++[⟨[f],c⟩]} e→e=.U d∨e=.locals d 0∨e=.stack d 0∨(live s e∧∀b h,(e=.U b∨e=.locals b h∨e=.stack b h)→b<d):=by
  intro e g;cases e using Key.by with
  |fibers=>exact .inr (.inr (.inr ⟨trivial,fun b h k=>by simp at k⟩))
  |out=>exact .inr (.inr (.inr ⟨trivial,fun b h k=>by simp at k⟩))
  |frames b=>
   simp only[live,A]at g;by_cases a:b=d;·left;rw[a]
   ·exact .inr (.inr (.inr ⟨by show b<s.I.length;omega,fun X h k=>by simp at k;omega⟩))
  |locals b h=>
   simp only[live,A]at g;by_cases a:b=d;·subst a;rw[v]at g;simp at g;right;left;rw[g]
   ·rw[x b (by omega)]at g;exact .inr (.inr (.inr ⟨⟨by omega,g.2⟩,fun X h k=>by simp at k;omega⟩))
  |stack b h=>
   simp only[live,A]at g;by_cases a:b=d;·subst a;rw[v]at g;simp at g;right;right;left;rw[g]
   ·rw[x b (by omega)]at g;exact .inr (.inr (.inr ⟨⟨by omega,g.2⟩,fun X h k=>by simp at k;omega⟩))
 have Z:¬live s (.U d):=fun z=>by have:d<s.I.length:=z;omega
 have a0:¬live s (.locals d 0):=fun z=>by have:=z.1;omega
 have a1:¬live s (.stack d 0):=fun z=>by have:=z.1;omega
 have q:∀e,live s e→e≠.I→aC (aC (aC (aC V .I o) (.U d) p) (.locals d 0) n) (.stack d 0) (.slice none 0 0) e=V e:=fun e g a=>by rw[aB _ _ (fun(a:e=.stack d 0)=>a1 (a▸g)),aB _ _ (fun(a:e=.locals d 0)=>a0 (a▸g)),aB _ _ (fun(a:e=.U d)=>Z (a▸g)),aB _ _ a]
 have I:aC (aC (aC (aC V .I o) (.U d) p) (.locals d 0) n) (.stack d 0) (.slice none 0 0) .I=o:=by rw[aB _ _ (by simp),aB _ _ (by simp),aB _ _ (by simp),cj]
 have D:aC (aC (aC (aC V .I o) (.U d) p) (.locals d 0) n) (.stack d 0) (.slice none 0 0) (.U d)=p:=by rw[aB _ _ (by simp),aB _ _ (by simp),cj]
 have E:aC (aC (aC (aC V .I o) (.U d) p) (.locals d 0) n) (.stack d 0) (.slice none 0 0) (.locals d 0)=n:=by rw[aB _ _ (by simp),cj]
 have F:aC (aC (aC (aC V .I o) (.U d) p) (.locals d 0) n) (.stack d 0) (.slice none 0 0) (.stack d 0)=.slice none 0 0:=cj _ _ _;generalize aC (aC (aC (aC V .I o) (.U d) p) (.locals d 0) n) (.stack d 0) (.slice none 0 0)=Y at*;refine k.Kd (fun e g=>?_) (fun e l g a=>?_) (fun e b1 l g a4 T a i=>?_)
 ·rcases N e g with rfl|rfl|rfl|⟨j,B⟩;·left;refine⟨_,by rw[D,v];exact a2,fun b7 M=>?_⟩;rw[v]at M;simp at M;subst M;rw[K,E,F];exact⟨rfl,rfl,rfl,rfl⟩
  ·left;show World.ownsRow _ _ _ _ _ _ _;rw[E,K];exact a5
  ·left;show World.ownsRow _ _ _ _ _ _ _;rw[F,K,a9];exact World.ownsRow_nil _ _ _ _
  ·by_cases m:e=.I
   ·subst m;left;obtain⟨u,r,h2⟩:=k.piece .I trivial;rw[G]at r h2;refine⟨_,by rw[I,A];exact a8 u r,fun b C=>?_⟩;rw[A]at C;have b0:u.length=d*2:=r.1;by_cases a:b=d
    ·subst a;rw[D,v];refine⟨?_,?_⟩<;>rw[List.getElem?_append_right (by omega),b0];·rw[show b*2-b*2=0 by omega];rfl
     ·rw[show b*2+1-b*2=1 by omega];rfl
    ·have y:b<d:=by omega
     obtain⟨b8,b9⟩:=h2 b y;rw[q (.U b) (by show b<s.I.length;omega) (by simp),x b y];refine⟨?_,?_⟩<;>rw[List.getElem?_append_left (by omega)]<;>assumption
   ·right;refine⟨j,q e j m,fun t=>?_,fun l a=>a3 l ((k.piece e j).block l a).2 (fun i=>m (k.apart e .I l j trivial a i))⟩;cases e using Key.by with
    |fibers=>exact absurd rfl m
    |out=>simp only[Piece]at t⊢;rw[q _ j m];exact t
    |frames b=>have y:=B b 0 (.inl rfl);obtain⟨u,b2,b3⟩:=t;refine⟨u,by rw[x b y,q _ j m];exact b2,fun h H=>?_⟩;rw[x b y]at H;rw[L b h y,q (.locals b h) ⟨j,H⟩ (by simp),q (.stack b h) ⟨j,H⟩ (by simp)];exact b3 h H
    |locals b h=>simp only[Piece]at t⊢;rw[q _ j m,L b h (B b h (.inr (.inl rfl)))];exact t
    |stack b h=>simp only[Piece]at t⊢;rw[q _ j m,L b h (B b h (.inr (.inr rfl)))];exact t
 ·rcases N e g with rfl|rfl|rfl|⟨j,B⟩;·right;rw[D,Q]at a;cases a;exact a7
  ·right;rw[E]at a;rcases S with i|i;·rw[i]at a;cases a
   ·rw[i]at a;cases a;exact a6
  ·rw[F]at a;cases a
  ·by_cases m:e=.I
   ·subst m;rw[I]at a;rcases P with i|i;·exact .inl ⟨trivial,by rw[←i,a]⟩
    ·rw[a]at i;cases i;exact .inr (k.JU (.inl (Nat.le_refl _)))
   ·rw[q e j m]at a;exact .inl ⟨j,a⟩
 ·have W:∀e,live {s with I:=s.I++[⟨[f],c⟩]} e→(Y e).ownBlock=some l→(e=.locals d 0∧l=gl)∨(e=.U d∧l=gf)∨(e=.I∧l=w.heap.size):=by
   intro e g a;rcases N e g with rfl|rfl|rfl|⟨j,B⟩;·rw[D,Q]at a;cases a;exact .inr (.inl ⟨rfl,rfl⟩)
   ·left;rw[E]at a;rcases S with i|i;·rw[i]at a;cases a
    ·rw[i]at a;cases a;exact⟨rfl,rfl⟩
   ·rw[F]at a;cases a
   ·by_cases m:e=.I
    ·subst m;rw[I]at a;rcases P with i|i;·exact absurd (by rw[←i,a]) (T .I trivial)
     ·rw[a]at i;cases i;exact .inr (.inr ⟨rfl,rfl⟩)
    ·rw[q e j m]at a;exact absurd a (T e j)
  rcases W e g a with⟨r,h2⟩|⟨r,h2⟩|⟨r,h2⟩<;>rcases W b1 a4 i with⟨h3,O⟩|⟨h3,O⟩|⟨h3,O⟩<;>first|omega|(rw[r,h3])
theorem wO{w:World}{base:Nat}{e:TypeId}{d:Nat}{c:Option Addr}{n cap:Nat}{xs:List Value}(b:w.ownsRow base e d (.slice c n cap) n xs):n≤cap:=by
 rcases b.2 with⟨a,h2⟩|⟨h,f,g,a,_,_,h2,_⟩;·omega
 ·simp only[Value.slice.injEq]at a;omega
theorem aR{w:World}{base:Nat}{e:TypeId}{j:Nat}{v:Value}{n:Nat}{xs:List Value}(g:w.ownsRow base e j v n xs):∃f d,v=.slice f n d∧(f=none∧n=0∨∃a,f=some ⟨a,0,none⟩∧∀b c,xs[b]?=some c→w.cell? ⟨a,b,none⟩=some c):=by
 rcases g.2 with⟨rfl,rfl⟩|⟨a,d,k,rfl,l,p,q,m,o,r⟩;·exact⟨none,0,rfl,.inl ⟨rfl,rfl⟩⟩
 ·refine⟨_,d,rfl,.inr ⟨a,rfl,fun b c i=>?_⟩⟩;have:=g.cells (g:=a) rfl b c i;have h:(⟨a,0,none⟩:Addr).add b=⟨a,b,none⟩:=by unfold Addr.add;split<;>simp_all
  rwa[h]at this
theorem nO{w:World}{base:Nat}{v:Value}{l:List Int}(f:w.ownsRow base 3 1 v l.length (ints l))(j:l.length≤1000):bC w v l:=by
 obtain⟨g,d,rfl,a⟩:=aR f;refine⟨g,d,rfl,by omega,fun c k b=>?_⟩;have i:c<l.length:=(List.getElem?_eq_some_iff.1 b).1;rcases a with⟨_,h⟩|⟨e,rfl,a⟩;·omega
 ·exact⟨e,0,rfl,by rw[Nat.zero_add];exact a c _ (by simp[ints,b])⟩
theorem Bl{s:St}{i:Nat}{b:Fb}(a:s.I[i]?=some b):i<s.I.length∧aa s i=b:=by have c:=(List.getElem?_eq_some_iff.1 a).1;exact⟨c,by simp[aa,List.getD,a]⟩
theorem BM{s:St}{i j:Nat}{f:Fr}(a:(aa s i).U[j]?=some f):j<(aa s i).U.length∧ae s i j=f:=by have b:=(List.getElem?_eq_some_iff.1 a).1;exact⟨b,by simp[ae,List.getD,a]⟩
theorem Own.reads{base:Nat}{w:World}{V:Key→Value}{s:St}(b:Own base w V s)(h:Small s):cy w (.agg #[V .I,.int .i64 s.now,V .out]) s:=by
 refine⟨_,_,rfl,?_,nO (b.piece .out trivial) h.2.1⟩;obtain⟨N,C,h2⟩:=b.piece .I trivial;obtain⟨E,u,x,h3⟩:=aR C;refine⟨E,u,x,by have:=h.1;omega,fun a t k=>?_⟩;obtain⟨d,c⟩:=Bl k;rcases h3 with⟨_,B⟩|⟨z,rfl,h3⟩;·omega
 ·obtain⟨G,r⟩:=h2 a d;refine⟨z,0,V (.U a),rfl,by rw[Nat.zero_add];exact h3 _ _ G,by rw[Nat.zero_add];rw[c]at r;exact h3 _ _ r,?_⟩;obtain⟨O,j,H⟩:=b.piece (.U a) d;have p:=h.2.2 t (List.mem_of_getElem? k);obtain⟨F,v,g,f⟩:=aR j;rw[c]at g f;refine⟨F,v,g,⟨by have:=p.1;omega,?_⟩,fun i y l=>?_⟩;·rw[c,g]at j;exact wO j
  obtain⟨e,m⟩:=BM (s:=s) (i:=a) (by rw[c];exact l);have D:=e;rw[c]at D;rcases f with⟨_,B⟩|⟨A,rfl,f⟩;·omega
  ·obtain⟨I,K,L,M⟩:=H i e;rw[m]at I K;have o:=b.piece (.locals a i) ⟨d,e⟩;have n:=b.piece (.stack a i) ⟨d,e⟩;simp only[Piece,m]at o n;have q:=p.2 y (List.mem_of_getElem? l);refine⟨A,0,_,_,rfl,?_,?_,?_,?_,nO o q.1,nO n q.2⟩<;>rw[Nat.zero_add]<;>exact f _ _ (by assumption)
theorem lq(w:World)(v:Value)(t:TypeId):∀a b,[v][a]?=some b→(w.alloc (.cells #[v] t)).cell? ((⟨w.heap.size,0,none⟩:Addr).add a)=some b:=cell_one_new w v t
theorem kb(z:Int):∀a,a∈[Value.int .i64 z]→a.oneCell'=true:=by intro a b;simp only[List.mem_cons,List.not_mem_nil,or_false]at b;subst b;rfl
theorem wQ{w:World}{base:Nat}{e:TypeId}{d:Nat}{v:Value}{n:Nat}{xs:List Value}(b:w.ownsRow base e d v n xs):∀a,v.ownBlock=some a→base≤a:=fun a c=>(b.lt a c).1
theorem oT{w w':World}{base:Nat}{e:TypeId}{c:Nat}{v:Value}{n:Nat}{xs:List Value}(b:w.ownsRow base e c v n xs)(k:J w w'):w'.ownsRow base e c v n xs:=fj b fun a d=>k.block a (b.lt a d).2
structure ag(base:Nat)(w:World)(a:Nat)(V:Key→Value)(s:St):Prop where
 var:w.heap[a]?=some (.cells #[V .I,.int .i64 s.now,V .out] 44)
 own:Own base w V s
 off:Own.off V s a
 low:base≤a
theorem mH{l:List Int}{i:Nat}{z:Int}(a:l[i]?=some z):(ints l)[i]?=some (.int .i64 z):=by simp[ints,a]
