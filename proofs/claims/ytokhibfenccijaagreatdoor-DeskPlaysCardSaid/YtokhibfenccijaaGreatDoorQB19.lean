import Derived.Test.YtokhibfenccijaaGreatDoorQB18
import Derived.StillTailTactics
import Derived.Laws.CopyOwn
set_option maxRecDepth 100000
set_option maxHeartbeats 8000000
namespace Go.Proofs.YtokhibfenccijaaGreatDoor
open Go.Proofs.Tryz
theorem jF{s:St}{i:Nat}(b:s.now=i)(a:aH s i):(af s).now=i∧aH (af s) i∧(ae (af s) i ((aa (af s) i).U.length-1)).stack=(ae s i ((aa s i).U.length-1)).stack.dropLast:=by
 have e:(aa s i).U.length-1<(aa s i).U.length:=by have:=a.fr;omega
 have f:(af s).I.length=s.I.length:=by rw[eG b];exact bj _ _ _
 have c:(aa (af s) i).U.length=(aa s i).U.length:=by rw[eG b];exact gi _ a.lt i
 have d:(ae (af s) i ((aa s i).U.length-1)).stack=(ae s i ((aa s i).U.length-1)).stack.dropLast:=by rw[eG b,fp _ a.lt e]
 refine⟨by rw[eG b];exact b,⟨by rw[f];exact a.lt,by rw[c];exact a.fr,by rw[c];exact a.JM,?_⟩,by rw[c];exact d⟩;rw[c,d];have:=a.st;simp;omega
def dp(s:St)(i:Nat):St:={ak s i {aa s i with caller:=-1}with now:=(aa s i).caller}
def iL(s:St)(i:Nat)(z:Int):St×Int:=if(aa s i).caller=-1 then(St.zero,7)else(aO (dp s i) (aa s i).caller z,0)
theorem xx{s:St}{i m:Nat}(b:m≠i)(c:aH s m):aH (dp s i) m:=c.other (bj _ _ _) (cS _ (fun a=>b a.symm))
def dropped(s:St)(i:Nat):St:=ak s i {aa s i with U:=(aa s i).U.dropLast}
def gD(s:St)(i:Nat)(z:Int):St×Int:=if(aa s i).U.length=1 then(if(aa s i).caller=-1 then cm (dp (dropped s i) i) z else(aO (dp (dropped s i) i) (aa s i).caller z,0))else(aO (dropped s i) i z,0)
theorem qm{s:St}{i:Nat}(a:i<s.I.length):aa (dropped s i) i={aa s i with U:=(aa s i).U.dropLast}:=bV _ a
theorem mu(s:St)(i:Nat):(dropped s i).I.length=s.I.length:=bj _ _ _
def dh(f lo:Nat)(vals:List Int):Fr:=⟨f,0,vals++List.replicate (lo-vals.length) 0,[]⟩
def jS(s:St)(i f a lo:Nat):St×Int:=if(aa s i).U.length=6 then(St.zero,2)else(ak (bY s i a) i {aa (bY s i a) i with U:=(aa (bY s i a) i).U++[dh f lo ((ae s i ((aa s i).U.length-1)).stack.drop ((ae s i ((aa s i).U.length-1)).stack.length-a))]},0)
def iZ(s:St)(i f lo:Nat):St×Int:=if s.I.length=5 then(St.zero,2)else(aO {s with I:=s.I++[⟨[dh f lo []],-1⟩]} i s.I.length,0)
def fP(s:St)(i:Nat)(x z:Int):St×Int:=if x<0∨(s.I.length:Int)≤x then(St.zero,5)else if x.toNat=0∨(aa s x.toNat).caller≠-1∨(aa s x.toNat).U.length=0 then(St.zero,6)else if(ae s x.toNat ((aa s x.toNat).U.length-1)).at_=0 then(cd {ak s x.toNat {aa s x.toNat with caller:=i}with now:=x} x.toNat ((aa s x.toNat).U.length-1) {ae s x.toNat ((aa s x.toNat).U.length-1)with locals:=(ae s x.toNat ((aa s x.toNat).U.length-1)).locals.set 0 z},0)else(aO {ak s x.toNat {aa s x.toNat with caller:=i}with now:=x} x z,0)
theorem Ho{s:St}{i:Nat}{b:Fb}(c:i<s.I.length)(a:b=aa s i):ak s i b=s:=by unfold ak;rw[a,show s.I.set i (aa s i)=s.I from rV _ _ _ c]
theorem yB{s:St}{i:Nat}{c:Int}(b:i<s.I.length)(a:(aa s i).caller=c):ak s i {aa s i with caller:=c}=s:=Ho b (by rw[←a])
theorem lJ{s:St}{i:Nat}(a:s.now=i)(b:aH s i)(k:Nat):(aa (af s) k).caller=(aa s k).caller:=by rw[eG a];exact jc _ b.lt k
theorem Gv{s:St}{i:Nat}(a:s.now=i)(b:aH s i)(k:Nat):(aa (af s) k).U.length=(aa s k).U.length:=by rw[eG a];exact gi _ b.lt k
theorem rF{s:St}{i:Nat}(a:s.now=i):(af s).I.length=s.I.length:=by rw[eG a];exact bj _ _ _
theorem rG{s:St}{i k:Nat}(c:s.now=i)(b:k≠i):aa (af s) k=aa s k:=by rw[eG c];exact lN _ (fun a=>b a.symm)
theorem JI{s:St}{i:Nat}(b:s.now=i)(c:-1≤(aa (af s) i).caller):eI s=iL (af s) i (aq s):=by
 unfold eI iL dp;simp only[b,ez,fA];by_cases a:(aa (af s) i).caller=-1;·rw[if_pos (by omega),if_pos a]
 ·rw[if_neg (by omega),if_neg a]
theorem Cm{s:St}{i:Nat}(f:s.now=i)(d:aH (af s) i)(k:-1≤(aa (af s) i).caller):ek s=gD (af s) i (aq s):=by
 have c:aa (dropped (af s) i) i={aa (af s) i with U:=(aa (af s) i).U.dropLast}:=qm d.lt;have a:(aa (dropped (af s) i) i).caller=(aa (af s) i).caller:=by rw[c]
 have l:=d.fr;have h:i<(dropped (af s) i).I.length:=by rw[mu];exact d.lt
 have j:((af s).JO s.now fun e=>{e with U:=e.U.dropLast})=dropped (af s) i:=by rw[f,fA];rfl
 unfold ek gD;simp only;rw[j];simp only[f,ez,fA,a];by_cases b:(aa (af s) i).U.length=1
 ·have h2:(aa (dropped (af s) i) i).U=[]:=by rw[c];apply List.eq_nil_of_length_eq_zero;simp[b]
  rw[if_pos h2,if_pos b];by_cases h3:(aa (af s) i).caller=-1
  ·rw[if_pos (by omega),if_pos h3];have:dp (dropped (af s) i) i={dropped (af s) i with now:=-1}:=by unfold dp;rw[yB h (a.trans h3),a,h3]
   rw[this]
  ·rw[if_neg (by omega),if_neg h3];unfold dp;rw[a]
 ·have h2:(aa (dropped (af s) i) i).U≠[]:=by rw[c];intro g;have:=congrArg List.length g;simp at this;omega
  rw[if_neg h2,if_neg b]
theorem DD{p:List Fn}{s:St}{i f lo:Nat}(g:s.now=i)(d:i<s.I.length)(k:(p.getD f Fn.zero).locals=lo):eC p s f=iZ s i f lo:=by
 have h:dM p (f:Int) []=dh f lo []:=by unfold dM dh;rw[Int.toNat_natCast,k,Int.toNat_natCast]
 obtain⟨a,l,b⟩:=s;simp only at g d;subst g;unfold eC iZ;rw[h];simp only;split;·rfl
 ·have c:aa ⟨a++[⟨[dh f lo []],-1⟩],i,b⟩ i=aa ⟨a,i,b⟩ i:=by simp[aa,List.getD,List.getElem?_append_left d]
  have j:∀e,ae ⟨a++[⟨[dh f lo []],-1⟩],i,b⟩ i e=ae ⟨a,i,b⟩ i e:=fun e=>by unfold ae;rw[c]
  unfold aO;rw[gj,gj,j,c];unfold cd ak;rw[c];simp only;rw[List.set_append,if_pos d]
theorem GO{s:St}{i:Nat}{b:St}{x v:Int}(h2:af (af s)=b)(p:aq (af s)=x)(o:aq s=v)(k:b.now=i)(n:∀a:Nat,a<b.I.length→((a:Int)∈(bt b.I (b.I.length+1) b.now []).getD []↔a=0∨(aa b a).caller≠-1)):eS s=fP b i x v:=by
 unfold eS fP;simp only[p,o,h2];by_cases f:x<0∨(b.I.length:Int)≤x;·rw[if_neg (by rw[cZ];omega),if_pos f]
 ·rw[if_pos (by rw[cZ];omega),if_neg f];obtain⟨a,rfl⟩:∃a:Nat,x=a:=⟨x.toNat,by omega⟩;have j:a<b.I.length:=by omega
  rw[Int.toNat_natCast];simp only[ez,fA,k];have h:((a:Int)∈(bt b.I (b.I.length+1) (i:Int) []).getD []∨(aa b a).U=[])↔(a=0∨(aa b a).caller≠-1∨(aa b a).U.length=0):=by have:=n a j;rw[k]at this;rw[this,List.length_eq_zero_iff,or_assoc]
  by_cases c:a=0∨(aa b a).caller≠-1∨(aa b a).U.length=0;·rw[if_pos (h.2 c),if_pos c]
  ·rw[if_neg (fun m=>c (h.1 m)),if_neg c];have d:aa {ak b a {aa b a with caller:=(i:Int)}with now:=(a:Int)} a={aa b a with caller:=(i:Int)}:=bV _ j;have g:∀e,ae {ak b a {aa b a with caller:=(i:Int)}with now:=(a:Int)} a e=ae b a e:=fun e=>by unfold ae;rw[d]
   have l:=jf (s:={ak b a {aa b a with caller:=(i:Int)}with now:=(a:Int)}) (i:=a) rfl;rw[d,g]at l;rw[l];split;·rw[gj,d,g]
   ·rfl
theorem Good.goes{p:List Fn}{s:St}{l:List Int}(b:Good p s l)(h:0≤s.now){m:Nat}(g:m<s.I.length):(m:Int)∈l↔m=0∨(aa s m).caller≠-1:=by
 constructor
 ·intro d;rcases b.path.next _ d with⟨_,e⟩|e
  ·left;rcases b.last with a|a;·rw[a]at d;cases d
   ·rw[e]at a;simp at a;omega
  ·right;have:=b.path.inside _ e;have a:bw s.I (m:Int)=(aa s m).caller:=rfl;omega
 ·rintro(rfl|f)
  ·obtain⟨j,i⟩:=b.head h;rcases b.last with a|a;·rw[i]at a;cases a
   ·exact List.mem_of_getLast? a
  ·rcases Decidable.em ((m:Int)∈l)with c|c;·exact c
   ·exact absurd (b.off g c) f
open Go.RowKit
abbrev aT(bs:Nat)(a:Value):Value:=.agg #[.pointer (some ⟨bs,0,none⟩),a]
theorem wR(bs N capF gF i n d:Nat)(f:Option Addr)(w:World)(j:i<N)(b:w.cell? ⟨bs,0,none⟩=some (.slice (some ⟨gF,0,none⟩) N capF))(c:w.cell? ⟨bs,1,none⟩=some (.int .i64 i)):Calls prog 193 #[aT bs (.slice f n d)] w fun e w'=>e=.returned (.pointer (some ⟨gF,i*2,none⟩))∧J w w':=by
 have l:(i:Int)<(N:Int):=by omega
 have k:(0:Int)≤(i:Int):=by omega
 have g:∀a,(w.alloc a).cell? ⟨bs,0,none⟩=some (.slice (some ⟨gF,0,none⟩) N capF):=fun a=>((J.refl w).alloc a).cell b;have h:∀a,(w.alloc a).cell? ⟨bs,1,none⟩=some (.int .i64 i):=fun a=>((J.refl w).alloc a).cell c;go_enter func193,ntmps193;go_wp2;go_quiet(fail);go_wp2;go_ret;exact⟨rfl,((J.refl w).alloc _).drewN _⟩
theorem Bj(bs N capF gF i q cap g n f:Nat)(k:Option Addr)(w:World)(s:i<N)(v:0<q)(x:q≤1000)(o:w.cell? ⟨bs,0,none⟩=some (.slice (some ⟨gF,0,none⟩) N capF))(p:w.cell? ⟨bs,1,none⟩=some (.int .i64 i))(r:w.cell? ⟨gF,i*2,none⟩=some (.slice (some ⟨g,0,none⟩) q cap)):Calls prog 165 #[aT bs (.slice k n f)] w fun h w'=>h=.returned (.pointer (some ⟨g,(q-1)*4,none⟩))∧J w w':=by
 obtain⟨a,rfl⟩:∃a,q=a+1:=⟨q-1,by omega⟩;have B:IntKind.i64.wrap (((a+1:Nat):Int)-1)=(a:Int):=by rw[IntKind.wrap_i64];omega
 have C:IntKind.i64.wrap ((a:Int)+1-1)=(a:Int):=by rw[IntKind.wrap_i64];omega
 have y:(a:Int)+1-1=(a:Int):=by omega
 have A:(a:Int)<(a:Int)+1:=by omega
 have z:(0:Int)≤(a:Int):=by omega
 have c:∀b,J w (w.alloc b):=fun b=>(J.refl w).alloc b;have j:=fun b=>wR bs N capF gF i n f k (w.alloc b) s ((c b).cell o) ((c b).cell p);have l:=R j;have e:=R c;clear j c;go_enter func165,ntmps165;go_wp2_with fail;refine((U l) _).mono ?_;rintro h t⟨rfl,d⟩;have u:t.cell? ⟨gF,i*2,none⟩=some (.slice (some ⟨g,0,none⟩) (a+1) cap):=(((U e) _).trans d).cell r;have m:=R (((U e) _).trans d);clear d;go_wp2;go_ret;exact⟨rfl,U m⟩
theorem ag.Ko{base bs:Nat}{w w2:World}{V:Key→Value}{s:St}(c:ag base w bs V s){i j g cap:Nat}(e:i<s.I.length)(p:j<(aa s i).U.length)(m:V (.U i)=.slice (some ⟨g,0,none⟩) (aa s i).U.length cap)(b:Value)(l:List Int)(f:w.grownBy w2 (V (.stack i j)).ownBlock)(B:w2.ownsRow base 3 1 b l.length (ints l))(n:b.ownBlock=(V (.stack i j)).ownBlock∨b.ownBlock=some w.heap.size):ag base (w2.setCell ⟨g,j*4+3,none⟩ b) bs (aC V (.stack i j) b) (cd s i j {ae s i j with stack:=l})∧Below base w (w2.setCell ⟨g,j*4+3,none⟩ b):=by
 have h:live s (.stack i j):=⟨e,p⟩;have r:live s (.U i):=e;have o:(V (.U i)).ownBlock=some g:=by rw[m];rfl
 have x:=lt_of_block c.var;have v:bs≠g:=fun a=>c.off _ r (by rw[o,a]);have y:=(c.own.piece _ r).block g o;have C:=c.own.Kz (w1:=w2) e p m b {ae s i j with stack:=l} 3 b (by omega) (fun t u A=>f.block t u (fun a=>A a.symm)) B n rfl rfl rfl rfl rfl;refine⟨c.JO C ?_ (aB V b (by simp)) (aB V b (by simp)) rfl ?_,?_⟩;·rw[Below.heap_setCell _ _ _ _ v];exact f.block bs x (fun a=>c.off _ h a.symm)
 ·intro k z a;by_cases q:k=.stack i j
  ·subst q;rw[cj]at a;rcases n with d|d;·exact c.off _ h (by rw[←d,a])
   ·rw[a]at d;cases d;omega
  ·rw[aB V b q]at a;exact c.off k ((fy _ e k).1 z) a
 ·refine Below.setCell (Below.grown (Below.refl _ w) f (by omega) (fun E D=>?_)) y.1 _;exact((c.own.piece _ h).block E D).1
theorem ints_at{l:List Int}{i:Nat}{z:Int}(a:l[i]?=some z):(ints l)[i]?=some (.int .i64 z):=by simp[ints,a]
theorem wP{w:World}{base:Nat}{g cap n:Nat}{l:List Int}(c:w.ownsRow base 3 1 (.slice (some ⟨g,0,none⟩) n cap) n (ints l))(i:n=l.length)(m:Nat)(p:m≤n):w.ownsRow base 3 1 (.slice (some ⟨g,0,none⟩) m cap) m (ints (l.take m)):=by
 subst i;refine⟨by rw[ij,List.length_take];omega,?_⟩;rcases c.2 with⟨a,_⟩|⟨o,k,b,a,d,h,q,e,f,j⟩;·simp at a
 ·simp only[Value.slice.injEq,Option.some.injEq,Addr.mk.injEq,and_true,true_and]at a;obtain⟨rfl,rfl⟩:=a;refine .inr ⟨g,cap,b,rfl,d,h,by omega,e,f,?_⟩;have:ints (l.take m)=(ints l).take m:=by simp[ints,List.map_take]
  rw[this,←j,List.take_take];congr 1;omega
theorem qE(w:World)(a:Option Nat):w.grownBy w a:=⟨rfl,rfl,rfl,Nat.le_refl _,fun _ _ _=>rfl⟩
theorem ag.Kn{base bs:Nat}{w w2:World}{V:Key→Value}{s:St}(b:ag base w bs V s)(l:List Int)(vo:Value)(e:w.grownBy w2 (V .out).ownBlock)(q:w2.ownsRow base 3 1 vo l.length (ints l))(g:vo.ownBlock=(V .out).ownBlock∨vo.ownBlock=some w.heap.size):ag base (w2.setCell ⟨bs,2,none⟩ vo) bs (aC V .out vo) {s with out:=l}∧Below base w (w2.setCell ⟨bs,2,none⟩ vo):=by
 have n:=lt_of_block b.var;have r:=b.own.Kn l vo q (fun j k p=>e.block j k (fun c=>p c.symm)) g;have i:Own.off (aC V .out vo) {s with out:=l} bs:=by
  intro f o c;by_cases h:f=.out
  ·subst h;rw[cj]at c;rcases g with d|d;·exact b.off .out trivial (by rw[←d,c])
   ·rw[c]at d;cases d;omega
  ·rw[aB V vo h]at c;exact b.off f (by cases f using Key.by<;>exact o) c
 refine⟨⟨?_,r.JW (a:=⟨bs,2,none⟩) i _,i,b.low⟩,?_⟩;·have m:w2.heap[bs]?=some (.cells #[V .I,.int .i64 s.now,V .out] 44):=(e.block bs n (fun c=>b.off .out trivial c.symm)).trans b.var;rw[cj,aB V vo (by simp)];simp[World.setCell,Array.getElem?_modify,m]
 ·refine Below.setCell (Below.grown (Below.refl _ w) e ?_ (fun u t=>((b.own.piece .out trivial).block u t).1)) b.low _;have:=b.low;omega
end Go.Proofs.YtokhibfenccijaaGreatDoor
namespace Go.Proofs.YtokhibfenccijaaGreatDoor
open Go.Proofs.Tryz
open Go.RowKit
structure aF(base bs:Nat)(V:Key→Value)(s:St)(w:World)(V':Key→Value)(s':St)(w':World):Prop where
 own:ag base w' bs V' s'
 os:w'.os=w.os
 tape:w'.tape=w.tape
 output:w'.output=w.output
 size:w.heap.size≤w'.heap.size
 JZ:∀a,a<w.heap.size→a≠bs→Own.off V s a→w'.heap[a]?=w.heap[a]?
 off:∀a,a<w.heap.size→Own.off V s a→Own.off V' s' a
section
variable {base bs:Nat}{V V' V'':Key→Value}{s s' s'':St}{w w' w'':World}
theorem aF.JQ(a:ag base w bs V s)(k:J w w'):aF base bs V s w V s w':=⟨a.kept k,k.os,k.tape,k.output,k.size,fun b c _ _=>k.block b c,fun _ _ a=>a⟩
theorem aF.refl(a:ag base w bs V s):aF base bs V s w V s w:=.JQ a (J.refl w)
theorem aF.trans(a:aF base bs V s w V' s' w')(k:aF base bs V' s' w' V'' s'' w''):aF base bs V s w V'' s'' w'':=⟨k.own,k.os.trans a.os,k.tape.trans a.tape,k.output.trans a.output,Nat.le_trans a.size k.size,fun b c e d=>(k.JZ b (Nat.lt_of_lt_of_le c a.size) e (a.off b c d)).trans (a.JZ b c e d),fun b c d=>k.off b (Nat.lt_of_lt_of_le c a.size) (a.off b c d)⟩
theorem aF.kept(a:aF base bs V s w V' s' w')(k:J w' w''):aF base bs V s w V' s' w'':=a.trans (.JQ a.own k)
theorem aF.pre{a:World}(b:aF base bs V s w V' s' w')(c:ag base a bs V s)(k:J a w):aF base bs V s a V' s' w':=(aF.JQ c k).trans b
theorem aF.below(a:aF base bs V s w V' s' w')(b:ag base w bs V s):Below base w w':=⟨a.os,a.tape,a.output,a.size,fun c g=>a.JZ c (by have:=b.low;have:=lt_of_block b.var;omega) (by have:=b.low;omega) (fun f e d=>by have:=((b.own.piece f e).block c d).1;omega)⟩
theorem aF.JP(c:aF base bs V s w V' s' w'){b:Nat}{o:Obj}(a:w.heap[b]?=some o)(d:b≠bs)(e:Own.off V s b):w'.heap[b]?=some o:=(c.JZ b (Array.getElem?_eq_some_iff.1 a).1 d e).trans a
theorem aF.set{g i:Nat}{v:Value}(k:ag base (w.setCell ⟨g,i,none⟩ v) bs V' s')(d:g=bs∨∃a,live s a∧(V a).ownBlock=some g)(o:∀a b,live s' a→(V' a).ownBlock=some b→∃e,live s e∧(V e).ownBlock=some b):aF base bs V s w V' s' (w.setCell ⟨g,i,none⟩ v):=by
 refine⟨k,rfl,rfl,rfl,by simp[World.setCell],fun b l n h=>Below.heap_setCell _ _ _ _ (fun c=>?_),fun b l h a f c=>?_⟩
 ·have c:b=g:=c;rcases d with d|⟨a,f,d⟩;·exact n (c.trans d)
  ·exact h a f (by rw[d,c])
 ·obtain⟨e,m,j⟩:=o a b f c;exact h e m j
theorem aF.grow{w2:World}{K:Key}(n:live s K)(e:w.grownBy w2 (V K).ownBlock){g i:Nat}{v:Value}(m:ag base (w2.setCell ⟨g,i,none⟩ v) bs V' s')(d:g=bs∨∃a,live s a∧(V a).ownBlock=some g)(q:∀a b,live s' a→(V' a).ownBlock=some b→b<w.heap.size→∃h,live s h∧(V h).ownBlock=some b):aF base bs V s w V' s' (w2.setCell ⟨g,i,none⟩ v):=by
 refine⟨m,e.os,e.tape,e.output,by simpa[World.setCell]using e.size,fun b j p f=>?_,fun b j f a k c=>?_⟩
 ·rw[Below.heap_setCell _ _ _ _ (fun c=>?_)];·exact e.block b j (fun c=>f K n c.symm)
  ·have c:b=g:=c;rcases d with d|⟨a,k,d⟩;·exact p (c.trans d)
   ·exact f a k (by rw[d,c])
 ·obtain⟨h,o,l⟩:=q a b k c j;exact f h o l
theorem ag.new(a:ag base w bs V s){b:Nat}(c:w.heap.size≤b):b≠bs∧Own.off V s b:=⟨by have:=lt_of_block a.var;omega,a.own.JU (.inl c)⟩
theorem aF.Lc(c:aF base bs V s w V' s' w'){b i:Nat}{v:Value}(l:w.heap.size≤b)(g:b≠bs)(j:Own.off V' s' b):aF base bs V s w V' s' (w'.setCell ⟨b,i,none⟩ v):=by refine⟨⟨(Below.heap_setCell _ _ _ _ (fun e=>g e.symm)).trans c.own.var,c.own.own.JW (a:=⟨b,i,none⟩) j v,c.own.off,c.own.low⟩,c.os,c.tape,c.output,by simpa[World.setCell]using c.size,fun d f h k=>?_,c.off⟩;rw[Below.heap_setCell _ _ _ _ (by show d≠b;omega)];exact c.JZ d f h k
theorem aF.drew(a:aF base bs V s w V' s' w'):aF base bs V s w V' s' w'.drew:=a.kept (J.refl _).drew
theorem aF.setAt(f:ag base w bs V s){i j g cap:Nat}(b:i<s.I.length)(h:j<(aa s i).U.length)(c:V (.U i)=.slice (some ⟨g,0,none⟩) (aa s i).U.length cap)(a:Int):aF base bs V s w V (cd s i j {ae s i j with at_:=a}) (w.setCell ⟨g,j*4+1,none⟩ (.int .i64 a)):=.set (f.setAt b h c a).1 (.inr ⟨.U i,b,by rw[c];rfl⟩) (fun d l k e=>⟨d,(fy _ b d).1 k,e⟩)
theorem aF.Kh(f:ag base w bs V s){i j g cap q:Nat}(a:i<s.I.length)(c:j<(aa s i).U.length)(b:V (.locals i j)=.slice (some ⟨g,0,none⟩) (ae s i j).locals.length cap)(z:Int):aF base bs V s w V (cd s i j {ae s i j with locals:=(ae s i j).locals.set q z}) (w.setCell ⟨g,q,none⟩ (.int .i64 z)):=.set (f.Kh a c b z).1 (.inr ⟨.locals i j,⟨a,c⟩,by rw[b];rfl⟩) (fun d k h e=>⟨d,(fy _ a d).1 h,e⟩)
theorem aF.Kk(c:ag base w bs V s)(n:Int):aF base bs V s w V {s with now:=n} (w.setCell ⟨bs,1,none⟩ (.int .i64 n)):=.set (c.Kk n) (.inl rfl) (fun a e d b=>⟨a,by cases a using Key.by<;>exact d,b⟩)
theorem wS{s:St}{i:Nat}{b:Fb}(g:i<s.I.length)(f:b.U.length≤(aa s i).U.length)(k:Key)(c:live (ak s i b) k):live s k:=by
 have e:∀a,(aa (ak s i b) a).U.length≤(aa s a).U.length:=fun a=>by
  by_cases d:i=a;·subst d;rw[bV _ g];exact f
  ·rw[cS _ d];exact Nat.le_refl _
 cases k using Key.by with
 |fibers=>trivial
 |out=>trivial
 |frames a=>simpa only[live,bj]using c
 |locals a h=>simp only[live,bj]at c⊢;exact⟨c.1,Nat.lt_of_lt_of_le c.2 (e a)⟩
 |stack a h=>simp only[live,bj]at c⊢;exact⟨c.1,Nat.lt_of_lt_of_le c.2 (e a)⟩
theorem aF.Kb(h:ag base w bs V s){i g cap:Nat}(b:i<s.I.length)(a:V .I=.slice (some ⟨g,0,none⟩) s.I.length cap)(c:Int):aF base bs V s w V (ak s i {aa s i with caller:=c}) (w.setCell ⟨g,i*2+1,none⟩ (.int .i64 c)):=.set (h.Kb b a c).1 (.inr ⟨.I,trivial,by rw[a];rfl⟩) (fun d e j f=>⟨d,wS (b:={aa s i with caller:=c}) b (Nat.le_refl _) d j,f⟩)
theorem aF.Ki(k:ag base w bs V s){i gF capF g cap:Nat}(e:i<s.I.length)(c:V .I=.slice (some ⟨gF,0,none⟩) s.I.length capF)(d:V (.U i)=.slice (some ⟨g,0,none⟩) (aa s i).U.length cap):aF base bs V s w (aC V (.U i) (.slice (some ⟨g,0,none⟩) ((aa s i).U.length-1) cap)) (ak s i {aa s i with U:=(aa s i).U.dropLast}) (w.setCell ⟨gF,i*2,none⟩ (.slice (some ⟨g,0,none⟩) ((aa s i).U.length-1) cap)):=by
 refine .set (k.Ki e c d).1 (.inr ⟨.I,trivial,by rw[c];rfl⟩) (fun b j l a=>?_);have h:=wS (b:={aa s i with U:=(aa s i).U.dropLast}) e (by simp) b l;by_cases f:b=.U i;·subst f;rw[cj]at a;exact⟨_,h,by rw[d];exact a⟩
 ·rw[aB V _ f]at a;exact⟨b,h,a⟩
theorem aF.Ko{w2:World}(p:ag base w bs V s){i j g cap:Nat}(d:i<s.I.length)(m:j<(aa s i).U.length)(f:V (.U i)=.slice (some ⟨g,0,none⟩) (aa s i).U.length cap)(a:Value)(l:List Int)(k:w.grownBy w2 (V (.stack i j)).ownBlock)(r:w2.ownsRow base 3 1 a l.length (ints l))(h:a.ownBlock=(V (.stack i j)).ownBlock∨a.ownBlock=some w.heap.size):aF base bs V s w (aC V (.stack i j) a) (cd s i j {ae s i j with stack:=l}) (w2.setCell ⟨g,j*4+3,none⟩ a):=by
 refine .grow (K:=.stack i j) ⟨d,m⟩ k (p.Ko d m f a l k r h).1 (.inr ⟨.U i,d,by rw[f];rfl⟩) (fun e t q b u=>?_);have o:=(fy _ d e).1 q;by_cases n:e=.stack i j
 ·subst n;rw[cj]at b;rcases h with c|c;·exact⟨_,o,by rw[←c];exact b⟩
  ·rw[b]at c;cases c;omega
 ·rw[aB V _ n]at b;exact⟨e,o,b⟩
theorem aF.Kn{w2:World}(h:ag base w bs V s)(l:List Int)(vo:Value)(e:w.grownBy w2 (V .out).ownBlock)(j:w2.ownsRow base 3 1 vo l.length (ints l))(d:vo.ownBlock=(V .out).ownBlock∨vo.ownBlock=some w.heap.size):aF base bs V s w (aC V .out vo) {s with out:=l} (w2.setCell ⟨bs,2,none⟩ vo):=by
 refine .grow (K:=.out) trivial e (h.Kn l vo e j d).1 (.inl rfl) (fun c k i a m=>?_);have g:live s c:=by cases c using Key.by<;>exact i
 by_cases f:c=.out
 ·subst f;rw[cj]at a;rcases d with b|b;·exact⟨_,g,by rw[←b];exact a⟩
  ·rw[a]at b;cases b;omega
 ·rw[aB V _ f]at a;exact⟨c,g,a⟩
structure ew(bs:Nat)(V:Key→Value)(s:St)(w w':World):Prop where
 os:w'.os=w.os
 tape:w'.tape=w.tape
 output:w'.output=w.output
 size:w.heap.size≤w'.heap.size
 JZ:∀a,a<w.heap.size→a≠bs→Own.off V s a→w'.heap[a]?=w.heap[a]?
theorem ew.JQ(k:J w w'):ew bs V s w w':=⟨k.os,k.tape,k.output,k.size,fun a b _ _=>k.block a b⟩
theorem aF.past(a:aF base bs V s w V' s' w')(k:ew bs V' s' w' w''):ew bs V s w w'':=⟨k.os.trans a.os,k.tape.trans a.tape,k.output.trans a.output,Nat.le_trans a.size k.size,fun b c d e=>(k.JZ b (Nat.lt_of_lt_of_le c a.size) d (a.off b c e)).trans (a.JZ b c d e)⟩
theorem ew.below(a:ew bs V s w w')(b:ag base w bs V s):Below base w w':=⟨a.os,a.tape,a.output,a.size,fun c g=>a.JZ c (by have:=b.low;have:=lt_of_block b.var;omega) (by have:=b.low;omega) (fun f e d=>by have:=((b.own.piece f e).block c d).1;omega)⟩
theorem ew.JP(c:ew bs V s w w'){b:Nat}{o:Obj}(a:w.heap[b]?=some o)(d:b≠bs)(e:Own.off V s b):w'.heap[b]?=some o:=(c.JZ b (Array.getElem?_eq_some_iff.1 a).1 d e).trans a
end
end Go.Proofs.YtokhibfenccijaaGreatDoor
namespace Go.Proofs.YtokhibfenccijaaGreatDoor
open Go.Proofs.Tryz
open Go.RowKit
theorem mv{base bs:Nat}{w:World}{V:Key→Value}{s:St}(r:ag base w bs V s){i:Nat}(t:s.now=i)(a:aH s i)(l:Option Addr)(n g:Nat):∃b d,V (.U i)=.slice (some ⟨b,0,none⟩) (aa s i).U.length d∧∀c,ag base c bs V s→Calls prog 165 #[aT bs (.slice l n g)] c fun o w'=>o=.returned (.pointer (some ⟨b,((aa s i).U.length-1)*4,none⟩))∧J c w':=by obtain⟨b,d,h,_,_⟩:=r.own.fr a.lt (j:=0) a.fr;refine⟨b,d,h,fun c k=>?_⟩;obtain⟨q,m,p,_,k0,_⟩:=k.own.JL a.lt;obtain⟨e,f,_⟩:=k.cells;rw[p]at e;rw[h]at k0;rw[t]at f;exact Bj bs _ m q i _ d b n g l c a.lt a.fr a.JM e f k0
theorem oZ{base bs:Nat}{w:World}{V:Key→Value}{s:St}(l:ag base w bs V s){i:Nat}(m:s.now=i)(h:i<s.I.length)(j:Option Addr)(n f:Nat):∃a c,V .I=.slice (some ⟨a,0,none⟩) s.I.length c∧∀b,ag base b bs V s→Calls prog 193 #[aT bs (.slice j n f)] b fun k w'=>k=.returned (.pointer (some ⟨a,i*2,none⟩))∧J b w':=by obtain⟨a,c,g,_,_⟩:=l.own.JL h;refine⟨a,c,g,fun b o=>?_⟩;obtain⟨d,e,_⟩:=o.cells;rw[g]at d;rw[m]at e;exact wR bs _ c a i n f j b h d e
def sF(base bs:Nat)(V:Key→Value)(s s':St)(b a:Int)(w:World)(e:Ending)(w':World):Prop:=e=.returned (.agg #[.int .i64 b,.int .i64 a])∧aF base bs V s w V s' w'
theorem Bi(base bs:Nat)(V:Key→Value)(s:St)(i k f j n o c a6 a8 Q a7:Nat)(r a:Int)(w:World)(g:ag base w bs V s)(d:fC base w s i f j n o c a6 a8 Q a7 r a):Calls prog 133 #[aT bs (.slice (some ⟨f,j,none⟩) n k)] w (sF base bs V s (aj s i c) r a w):=by
 obtain⟨l,a4,x,Y⟩:=mv g d.now d.runs (some ⟨f,j,none⟩) n k;unfold aj;generalize E:(aa s i).U.length-1=h at*;have T:h<(aa s i).U.length:=by have:=d.runs.fr;omega
 have y:=d.runs.lt;have b4:(ae s i h).fn=o:=by rw[←E];exact d.fn
 have b3:(ae s i h).at_=c:=by rw[←E];exact d.at_
 have e1:=d.fin;have c7:=d.KZ;have e5:=d.Kv;have I:=R d.cells;have P:=R Y;have u:=R g;have K:=R x;have c8:=lt_of_block g.var;have e4:=g.low;have e3:=((g.own.piece (.U i) y).block l (by rw[x];rfl)).2;have e2:=((g.own.piece (.U i) y).block l (by rw[x];rfl)).1;have e6:IntKind.i64.wrap ((c:Int)+1)=(c:Int)+1:=by rw[IntKind.wrap_i64];omega
 have e7:IntKind.i64.wrap ((c:Int)+1-1)=(c:Int):=by rw[IntKind.wrap_i64];omega
 have e8:IntKind.i64.wrap (c:Int)=(c:Int):=by rw[IntKind.wrap_i64];omega
 have c5:(c:Int)+1-1=(c:Int):=by omega
 have c4:(0:Int)≤(c:Int):=by omega
 have c6:(c:Int)<(Q:Int):=by omega
 have c9:(0:Int)≤(o:Int):=by omega
 have e0:(o:Int)<(n:Int):=by omega
 clear Y g d x E;go_enter func133,ntmps133;go_wp2_with fail;generalize z:(w.alloc (.cells #[.pointer (some ⟨bs,0,none⟩),.slice (some ⟨f,j,none⟩) n k] 170)).alloc (.cells #[.int .i64 0,.int .i64 0] 72)=t;have F:J w t:=by rw[←z];exact((J.refl w).alloc _).alloc _
 have Z:t.heap[w.heap.size]?=some (.cells #[.pointer (some ⟨bs,0,none⟩),.slice (some ⟨f,j,none⟩) n k] 170):=by rw[←z];exact au (ah rfl) _
 have a0:t.heap[w.heap.size+1]?=some (.cells #[.int .i64 0,.int .i64 0] 72):=by rw[←z];exact ah (by simp)
 have H:ag base t bs V s:=(U u).kept F;refine((U P) t H).mono ?_;rintro c1 c0⟨rfl,q⟩;have G:=H.kept q;have b6:=aw q Z;have b7:=aw q a0;have W:=F.trans q;obtain⟨b2,a5,A,_,B,C,a9,b0,S,_⟩:=G.own.fr y T;rw[U K]at A;obtain⟨⟨rfl⟩,-,rfl⟩:=(by simpa using A:(l=b2)∧True∧a4=a5);rw[b4]at B;rw[b3]at C;have b5:=S (h*4+1);have M:=R (aF.setAt G y T (U K) ((c:Int)+1));have a2:=R W;have a3:=R b6;have L:=R b7;clear z H W q G A S a9 b0 F Z a0;go_upto_region 3 with fail;generalize p:c0.setCell ⟨l,h*4+1,none⟩ (.int .i64 ((c:Int)+1))=e at*;have c2:e.cell? ⟨l,h*4,none⟩=some (.int .i64 o):=by rw[←p];exact(World.cell?_setCell_other _ _ _ _ (by simp)).trans B
 have c3:e.cell? ⟨l,h*4+1,none⟩=some (.int .i64 ((c:Int)+1)):=by rw[←p];exact World.cell?_setCell_same _ _ _ C
 have a1:e.heap[w.heap.size]?=some (.cells #[.pointer (some ⟨bs,0,none⟩),.slice (some ⟨f,j,none⟩) n k] 170):=by rw[←p];exact bD (U a3) (by simp only;omega) _
 have m:e.heap[w.heap.size+1]?=some (.cells #[.int .i64 0,.int .i64 0] 72):=by rw[←p];exact bD (U L) (by simp only;omega) _
 have O:=R ((U M).pre (U u) (U a2));obtain⟨e9,g0,g1⟩:=(U I) e ((U O).below (U u));have b1:e.cell? ⟨w.heap.size,1,none⟩=some (.slice (some ⟨f,j,none⟩) n k):=ab a1 1;have g2:e.cell? ⟨w.heap.size+1,0,none⟩=some (.int .i64 0):=ab m 0;have g3:e.cell? ⟨w.heap.size+1,1,none⟩=some (.int .i64 0):=ab m 1;have g4:=an m 0;have g5:=an m 1;have N:=R m;clear p a1 m B C b5 I P;go_still_tail 16,(by kernel_rfl);go_wp2;have D:=(U u).new (b:=w.heap.size+1) (by omega);have X:=(U M).off (w.heap.size+1) (Array.getElem?_eq_some_iff.1 (U L)).1 D.2;have b8:=ab (ay (ay (U N) 0 (.int .i64 r)) 1 (.int .i64 a)) 0;have b9:=ab (ay (ay (U N) 0 (.int .i64 r)) 1 (.int .i64 a)) 1;refine bodyPost_ret (v:=.agg #[.int .i64 r,.int .i64 a]) (by simp[results,results133,go_sem,b8,b9]) rfl ⟨rfl,?_⟩;exact(((U O).Lc (by omega) D.1 X).Lc (by omega) D.1 X).drew
def xS(base bs:Nat)(V:Key→Value)(s:St)(i j t:Nat)(l:List Int)(w:World)(e:Ending)(w':World):Prop:=∃b V',e=.returned b∧bC w' b (l.drop t)∧aF base bs V s w V' (cd s i j {ae s i j with stack:=l.take t}) w'∧∀a,a≠.stack i j→V' a=V a
theorem GZ{w:World}{base:Nat}{n cap:Nat}{l:List Int}(b:w.ownsRow base 3 1 (.slice none n cap) l.length (ints l)):l=[]∧n=0∧cap=0:=by
 obtain⟨i,g,a,e⟩:=aR b;simp only[Value.slice.injEq]at a;obtain⟨rfl,rfl,rfl⟩:=a;rcases e with⟨_,d⟩|⟨c,f,_⟩
 ·rcases b.2 with⟨a,_⟩|⟨c,cap,h,a,_⟩;·simp only[Value.slice.injEq]at a;exact⟨List.length_eq_zero_iff.1 d,a.2.1,a.2.2⟩
  ·simp at a
 ·cases f
theorem xg(base bs:Nat)(V:Key→Value)(s:St)(i k n x:Nat)(G:Option Addr)(w:World)(q:ag base w bs V s)(b6:s.now=i)(t:aH s i)(c7:k≤(ae s i ((aa s i).U.length-1)).stack.length):Calls prog 192 #[aT bs (.slice G n x),.int .i64 k] w (xS base bs V s i ((aa s i).U.length-1) ((ae s i ((aa s i).U.length-1)).stack.length-k) (ae s i ((aa s i).U.length-1)).stack w):=by
 obtain⟨B,a5,y,Y⟩:=mv q b6 t G n x;generalize T:(aa s i).U.length-1=g at*;have j:g<(aa s i).U.length:=by have:=t.fr;omega
 have f:=t.lt;have c8:(ae s i g).stack.length≤1000:=by rw[←T];exact t.st
 generalize X:(ae s i g).stack=c at*;obtain⟨a,F⟩:∃a,c.length=a+k:=⟨c.length-k,by omega⟩;have b7:c.length-k=a:=by omega
 rw[b7];have N:=R Y;have M:=R q;have o:=R y;have a2:=R X;have c0:=R F;have c6:=((q.own.piece (.U i) f).block B (by rw[y];rfl)).2;have e2:IntKind.i64.wrap (((a+k:Nat):Int)-(k:Int))=(a:Int):=by rw[IntKind.wrap_i64];omega
 have e3:IntKind.i64.wrap ((a:Int)+(k:Int)-(k:Int))=(a:Int):=by rw[IntKind.wrap_i64];omega
 have e4:IntKind.i64.wrap (a:Int)=(a:Int):=by rw[IntKind.wrap_i64];omega
 have c9:(0:Int)≤(a:Int):=by omega
 have e0:(a:Int)≤((a+k:Nat):Int):=by omega
 have e1:(a:Int)≤(a:Int)+(k:Int):=by omega
 clear Y q y T X;go_enter func192,ntmps192;go_wp2_with fail;generalize Z:w.alloc (.cells #[.pointer (some ⟨bs,0,none⟩),.slice G n x] 170)=I;have D:J w I:=by rw[←Z];exact(J.refl w).alloc _
 have E:ag base I bs V s:=(U M).kept D;refine((U N) I E).mono ?_;rintro c1 H⟨rfl,C⟩;have r:=E.kept C;have W:=D.trans C;obtain⟨b0,a6,z,_,a7,a8,a9,A,Q,_⟩:=r.own.fr f j;rw[U o]at z;obtain⟨⟨rfl⟩,-,rfl⟩:=(by simpa using z:(B=b0)∧True∧a5=a6);have b:=r.own.JN f j;rw[U a2]at b;have c5:=Q (g*4+3);have L:=R (aF.JQ (U M) W);have v:=R r;clear Z E W C r z Q a7 a8 a9 D N;obtain⟨b8,d,p,l⟩:=aR b;rw[p]at A b;have u:=R p;cases b8 with
 |none=>
  obtain⟨rfl,m,rfl⟩:=GZ b;simp only[List.length_nil]at F A;obtain rfl:a=0:=by omega
  obtain rfl:k=0:=by omega
  clear l p b;go_wp2;go_ret;refine⟨_,aC V (.stack i g) (.slice none 0 0),rfl,bC.nil _,?_,fun O h=>aB V _ h⟩;have b5:=aF.Ko (U v) (w2:=H) f j (U o) (.slice none 0 0) [] (qE _ _) (World.ownsRow_nil _ _ _ _) (.inl (by rw[U u];rfl));exact(U L).trans b5
 |some a4=>
  rcases l with⟨b1,_⟩|⟨e,P,S⟩;·cases b1
  obtain rfl:a4=⟨e,0,none⟩:=by simpa using P
  have c4:c.length≤d:=wO b;rw[F]at A;have c2:(a:Int)≤(d:Int):=by omega
  have c3:((a+k:Nat):Int)≤(d:Int):=by omega
  have a3:=R b;have a1:=R S;clear p b P S;have l:H.ownsRow base 3 1 (.slice (some ⟨e,0,none⟩) a d) (c.take a).length (ints (c.take a)):=by rw[List.length_take,Nat.min_eq_left (by omega)];exact wP (U a3) rfl a (by omega)
  have K:=R ((U L).trans (aF.Ko (U v) (w2:=H) f j (U o) (.slice (some ⟨e,0,none⟩) a d) (c.take a) (qE _ _) l (.inl (by rw[U u];rfl))));have b4:e≠B:=by rintro rfl;have:=(U v).own.apart (.stack i g) (.U i) e ⟨f,j⟩ f (by rw[U u];rfl) (by rw[U o];rfl);cases this
  clear l;by_cases b2:d=a
  ·subst b2;go_wp2;go_ret;refine⟨_,_,rfl,?_,U K,fun O h=>aB V _ h⟩;obtain rfl:k=0:=by omega
   rw[List.drop_eq_nil_of_le (by omega)];exact⟨_,_,rfl,by simp,fun a0 b9 m=>by simp at m⟩
  ·go_wp2;go_ret;refine⟨_,_,rfl,?_,U K,fun O h=>aB V _ h⟩;have b3:(c.drop a).length=k:=by rw[List.length_drop];omega
   refine⟨some ⟨e,a,none⟩,d-a,by rw[b3];rfl,by omega,fun a0 b9 m=>⟨e,a,rfl,?_⟩⟩;rw[List.getElem?_drop]at m;exact jq ((U a1) (a+a0) _ (ints_at m)) b4 _
def dN(base bs:Nat)(V:Key→Value)(s s':St)(a:Value)(w:World)(e:Ending)(w':World):Prop:=e=.returned a∧∃V',aF base bs V s w V' s' w'
theorem xh(base bs:Nat)(V:Key→Value)(s:St)(i n f:Nat)(p:Option Addr)(w:World)(d:ag base w bs V s)(e:s.now=i)(z:aH s i)(y:0<(ae s i ((aa s i).U.length-1)).stack.length):Calls prog 164 #[aT bs (.slice p n f)] w (fun g w'=>g=.returned (.int .i64 (aq s))∧∃V',aF base bs V s w V' (af s) w'∧∀c,c≠.stack i ((aa s i).U.length-1)→V' c=V c):=by
 have l:aq s=(ae s i ((aa s i).U.length-1)).stack.getD ((ae s i ((aa s i).U.length-1)).stack.length-1) 0:=by unfold aq;rw[jf e,List.getLast?_eq_getElem?];rfl
 have o:af s=cd s i ((aa s i).U.length-1) {ae s i ((aa s i).U.length-1)with stack:=(ae s i ((aa s i).U.length-1)).stack.take ((ae s i ((aa s i).U.length-1)).stack.length-1)}:=by rw[eG e,List.dropLast_eq_take]
 have j:∀a,ag base (w.alloc a) bs V s:=fun a=>d.alloc a;have q:=R (fun a=>xg base bs V s i 1 n f p (w.alloc a) (j a) e z y);rw[l,o];generalize D:(aa s i).U.length-1=A at*;generalize E:(ae s i A).stack=b at*;have t:=R d;clear j l o d;go_enter func164,ntmps164;go_wp2_with fail;refine((U q) _).mono ?_;rintro g I⟨H,V',rfl,⟨G,C,rfl,_,k⟩,m,h⟩;have x:(b.drop (b.length-1)).length=1:=by rw[List.length_drop];omega
 rw[x];obtain⟨B,F,rfl,v⟩:=k 0 (b.getD (b.length-1) 0) (by rw[List.getElem?_drop,Nat.add_zero];exact aD _ _ _ (by omega));rw[Nat.add_zero]at v;have r:=R (m.pre (U t) ((J.refl w).alloc _));have u:=R h;clear m k h;go_wp2;go_ret;exact⟨rfl,V',U r,U u⟩
theorem jd(base bs:Nat)(V:Key→Value)(s:St)(i n a:Nat)(b:Option Addr)(w:World)(c:ag base w bs V s)(f:s.now=i)(g:aH s i)(e:0<(ae s i ((aa s i).U.length-1)).stack.length):Calls prog 164 #[aT bs (.slice b n a)] w (dN base bs V s (af s) (.int .i64 (aq s)) w):=(xh base bs V s i n a b w c f g e).mono fun _ _⟨d,V',h2,_⟩=>⟨d,V',h2⟩
theorem uD:∃a,prog.info? 3=some a∧a.zero=some (.int .i64 0)∧a.size=1∧a.bytes=8:=info_parts iE
theorem js(base bs:Nat)(V:Key→Value)(s:St)(i n q B:Nat)(D:Option Addr)(z:Int)(w:World)(d:ag base w bs V s)(c1:s.now=i)(l:aH s i)(O:w.cell? ⟨B,0,none⟩=some (.int .i64 z)):Calls prog 163 #[aT bs (.slice D n q),.slice (some ⟨B,0,none⟩) 1 1] w (dN base bs V s (aO s i z) (.tuple #[]) w):=by
 obtain⟨c5,c0,c2,c3,c4⟩:=uD;obtain⟨b,b1,r,Z⟩:=mv d c1 l D n q;unfold aO;rw[gj];generalize T:(aa s i).U.length-1=a at*;have h:a<(aa s i).U.length:=by have:=l.fr;omega
 have e:=l.lt;have e0:(ae s i a).stack.length≤1000:=by rw[←T];exact l.st
 generalize W:(ae s i a).stack=C at*;have I:=R Z;have H:=R d;have p:=R r;have a5:=R W;have c9:=((d.own.piece (.U i) e).block b (by rw[r];rfl)).2;have b7:base≤w.heap.size:=by have:=d.low;have:=lt_of_block d.var;omega
 clear Z d r T W;go_enter func163,ntmps163;go_wp2_with fail;generalize a1:w.alloc (.cells #[.pointer (some ⟨bs,0,none⟩),.slice D n q] 170)=G;have v:J w G:=by rw[←a1];exact(J.refl w).alloc _
 have x:ag base G bs V s:=(U H).kept v;refine((U I) G x).mono ?_;rintro c F⟨rfl,u⟩;have f:=x.kept u;have j:=v.trans u;have P:F.cell? ⟨B,0,none⟩=some (.int .i64 z):=j.cell O;have Y:∀m E,[Value.int .i64 z][m]?=some E→F.cell? ((⟨B,0,none⟩:Addr).add m)=some E:=by intro m E k;match m,k with|0,k=>simp at k;subst k;exact P
 obtain⟨b6,b2,t,_,M,b3,b4,b5,N,_⟩:=f.own.fr e h;rw[U p]at t;obtain⟨⟨rfl⟩,-,rfl⟩:=(by simpa using t:(b=b6)∧True∧b1=b2);have A:=f.own.JN e h;rw[U a5]at A;have b9:=N (a*4+3);have X:=bJ M;simp only at X;have b8:base≤F.heap.size:=Nat.le_trans b7 j.size;have S:(V (.stack i a)).ownBlock≠some b:=fun c=>by have:=f.own.apart (.stack i a) (.U i) b ⟨e,h⟩ e c (by rw[U p];rfl);cases this
 have a6:=R (aF.JQ (U H) j);have a8:=R f;have b0:=R A;have a7:=R Y;generalize a0:V (.stack i a)=c6 at*;have K:=R a0;clear a1 x j u f t N M b3 b4 v I A a0 Y P O;go_wp2_with(at_builtin;refine wpList_append_own_at _ rfl _ _ 30 rfl base 3 c5 (.int .i64 0) 1 8 underlying30 c0 c2 c3 c4 rfl (by decide) _ _ _ rfl (U b0) ⟨B,0,none⟩ 1 1 [.int .i64 z] rfl rfl (U a7) (kb _) (by unfold maxLen;omega) (by omega) b8 ?_;intro e1 o y g _ Q;obtain⟨a2,L,rfl,-⟩:=aR y;have c7:o.cell? ⟨b,a*4+3,none⟩=some c6:=g.cell b5 (fun c=>S c.symm);have c8:o.frozen? ⟨b,a*4+3,none⟩=false:=(World.frozen?_of_block (g.block b X (fun c=>S c.symm))).trans b9;have a9:=R y;have a4:=R g;have a3:=R Q;clear y g Q);go_end0;refine⟨rfl,aC V (.stack i a) (.slice a2 (C.length+1) L),?_⟩;refine(U a6).trans (aF.Ko (U a8) (w2:=o) e h (U p) (.slice a2 (C.length+1) L) (C++[z]) (by rw[U K];exact U a4) (by rw[ke,List.length_append];exact U a9) (by rw[U K];exact U a3))
theorem xd(b:Bool)(w:World):Calls prog 171 #[.bool b] w fun a w'=>a=.returned (.int .i64 (kG b))∧w=w':=by
 cases b with
 |true=>go_enter func171,ntmps171;go_wp2;go_ret;exact⟨rfl,rfl⟩
 |false=>go_enter func171,ntmps171;go_wp2;go_ret;exact⟨rfl,rfl⟩
def kN(k:Nat)(d:Int):Prop:=∀(a b:Int)(w:World),Calls prog k #[.int .i64 a,.int .i64 b] w fun c w'=>c=.returned (.int .i64 (dq d a b))∧w=w'
theorem GC:kN 167 4:=by intro a b w;rw[show dq 4 a b=iK (a+b)from rfl,←lT];go_enter func167,ntmps167;go_wp2;go_ret;exact⟨rfl,rfl⟩
theorem GD:kN 168 5:=by intro a b w;rw[show dq 5 a b=iK (a-b)from rfl,←lT];go_enter func168,ntmps168;go_wp2;go_ret;exact⟨rfl,rfl⟩
theorem GF:kN 169 6:=by intro a b w;rw[show dq 6 a b=iK (a*b)from rfl,←lT];go_enter func169,ntmps169;go_wp2;go_ret;exact⟨rfl,rfl⟩
theorem GG:kN 170 7:=by intro a b w;rw[show dq 7 a b=kG (decide (a<b))from rfl];go_enter func170,ntmps170;go_wp2_with(go_at_call 171;refine(xd _ _).mono ?_;rintro c w'⟨rfl,rfl⟩);go_ret;exact⟨rfl,rfl⟩
theorem GH:kN 172 8:=by intro a b w;rw[show dq 8 a b=kG (decide (a=b))from rfl];go_enter func172,ntmps172;go_wp2_with(go_at_call 171;refine(xd _ _).mono ?_;rintro c w'⟨rfl,rfl⟩);go_ret;exact⟨rfl,rfl⟩
theorem mS(k:Nat)(X:Int)(b3:k=167∨k=168∨k=169∨k=170∨k=172)(O:kN k X)(base bs:Nat)(V:Key→Value)(s:St)(i n b:Nat)(c:Option Addr)(w:World)(E:ag base w bs V s)(K:s.now=i)(u:aH s i)(b8:2≤(ae s i ((aa s i).U.length-1)).stack.length):Calls prog 166 #[aT bs (.slice c n b),.func (.func k) #[] #[]] w (dN base bs V s (aO (af (af s)) i (dq X (aq (af s)) (aq s))) (.tuple #[]) w):=by
 obtain⟨L,v,P⟩:=jF K u;obtain⟨b5,N,_⟩:=jF L v;have b2:0<(ae (af s) i ((aa (af s) i).U.length-1)).stack.length:=by rw[P];simp;omega
 have a2:=R u;have a3:=R v;have a4:=R N;have p:=R E;have a5:=R O;generalize Q:af s=e at*;generalize S:af e=g at*;generalize T:aq s=b6 at*;generalize W:aq e=b7 at*;have B:Hid (∀a V',ag base a bs V' s→Calls prog 164 #[aT bs (.slice c n b)] a (dN base bs V' s e (.int .i64 b6) a)):=R (fun a V' f=>by have:=jd base bs V' s i n b c a f K (U a2) (by omega);rw[Q,T]at this;exact this);have a7:Hid (∀a V',ag base a bs V' e→Calls prog 164 #[aT bs (.slice c n b)] a (dN base bs V' e g (.int .i64 b7) a)):=R (fun a V' f=>by have:=jd base bs V' e i n b c a f L (U a3) b2;rw[S,W]at this;exact this);clear Q S T W P E O u v N;rcases b3 with rfl|rfl|rfl|rfl|rfl;all_goals
  go_enter func166,ntmps166;go_wp2_with fail;generalize x:w.alloc (.cells #[.pointer (some ⟨bs,0,none⟩),.slice c n b] 170)=o;have t:J w o:=by rw[←x];exact(J.refl w).alloc _
  have M:ag base o bs V s:=(U p).kept t;have lB:o.heap[w.heap.size]?=some (.cells #[.pointer (some ⟨bs,0,none⟩),.slice c n b] 170):=by rw[←x];exact ah rfl
  obtain⟨F,r⟩:=(U p).new (b:=w.heap.size) (by omega);refine((U B) o V M).mono ?_;rintro q y⟨rfl,C,j⟩;have m:=j.JP lB F r;have G:=j.off _ (Array.getElem?_eq_some_iff.1 lB).1 r;have H:=j.pre (U p) t;have b0:y.cell? ⟨w.heap.size,0,none⟩=some (.pointer (some ⟨bs,0,none⟩)):=ab m 0;have b1:y.cell? ⟨w.heap.size,1,none⟩=some (.slice c n b):=ab m 1;have A:=R H;have a0:=R m;have Z:=R G;clear j H x t M lB m r G B;go_upto_region 2 with fail;have z:Hid (∀d s' a,aF base bs C e y.drew d s' a→a.cell? ⟨w.heap.size,0,none⟩=some (.pointer (some ⟨bs,0,none⟩))∧a.cell? ⟨w.heap.size,1,none⟩=some (.slice c n b)):=R (fun d s' a b4=>have Y:=b4.JP (aW (U a0)) F (U Z);⟨ab Y 0,ab Y 1⟩);have a1:Hid (∀d a h,ag base a bs d g→Calls prog 163 #[aT bs (.slice c n b),.slice (some ⟨a.heap.size,0,none⟩) 1 1] (a.alloc (.cells #[.int .i64 h] 3)) (dN base bs d g (aO g i h) (.tuple #[]) (a.alloc (.cells #[.int .i64 h] 3)))):=R (fun d a h f=>js base bs d g i n b a.heap.size c h _ (f.alloc _) b5 (U a4) (ab (ah rfl) 0));have a6:=R (fun a9 D a=>(U a5) a9 D a);go_region_held3(fun w'=>w'.cell? ⟨w.heap.size,0,none⟩=some (.pointer (some ⟨bs,0,none⟩))∧w'.cell? ⟨w.heap.size,1,none⟩=some (.slice c n b))(first|go_keep|exact(U z) _ _ _ ((l.kept ((J.refl _).alloc _)).trans I)|exact(U z) _ _ _ l)(first|(go_at_call 164;refine((U a7) _ C (U A).drew.own).mono ?_;rintro q b9⟨rfl,d,l⟩)|(go_at_call 163;refine((U a1) d _ _ l.own).mono ?_;rintro q c1⟨rfl,a8,I⟩)|((first|go_at_call 167|go_at_call 168|go_at_call 169|go_at_call 170|go_at_call 172);refine((U a6) _ _ _).mono ?_;rintro q c0⟨rfl,rfl⟩));go_wp2;go_end0;exact⟨rfl,a8,(U A).drew.trans ((l.kept ((J.refl _).alloc _)).trans I)⟩
def pB(f lo:Nat)(l:List Int)(w:World)(e:Ending)(w':World):Prop:=∃a,e=.returned (.agg #[.int .i64 f,.int .i64 0,.slice (some ⟨a,0,none⟩) lo lo,.slice none 0 0])∧w'.heap[a]?=some (.cells (ints l).toArray 3)∧w.heap.size≤a∧J w w'
theorem zu(w:World)(B lo m i:Nat)(n:Option Addr)(vals:List Int)(g:vals.length=m)(s:m≤lo)(f:w.heap[B]?=some (.cells (ints (List.replicate lo 0)).toArray 3))(c:∀l d,vals[l]?=some d→∃a b,n=some ⟨a,b,none⟩∧w.cell? ⟨a,b+l,none⟩=some (.int .i64 d)):∃w',(Builtin.copy_ #[30,30] 3 #[.slice (some ⟨B,0,none⟩) lo lo,.slice n m i]).run prog w=.ok (goInt m) w'∧w'.heap[B]?=some (.cells (ints (vals++List.replicate (lo-m) 0)).toArray 3)∧Below B w w':=by
 have e:(prog.info? 3).map (·.size)=some 1:=by kernel_rfl
 by_cases r:m=0;·subst r;obtain rfl:=List.length_eq_zero_iff.1 g;exact⟨w,run_copy_none (P:=prog) w 30 30 3 3 _ _ _ _ _ _ underlying30 e (by simp),f,Below.refl _ _⟩
 ·obtain⟨a,b,rfl,_⟩:=c 0 _ (aD vals 0 0 (by omega));have k:=run_copy_row (P:=prog) w 30 30 3 3 B 0 lo lo ⟨a,b,none⟩ m i (ints (List.replicate lo 0)).toArray 3 (ints vals) underlying30 e f (by rw[ij,g];exact(Nat.min_eq_left s).symm) (fun h u j=>by
   simp only[ints,List.getElem?_map,Option.map_eq_some_iff]at j;obtain⟨d,e,rfl⟩:=j;obtain⟨o,t,p,q⟩:=c h d e;obtain⟨rfl,rfl⟩:=(by simpa using p:a=o∧b=t);have:(⟨a,b,none⟩:Addr).add h=⟨a,b+h,none⟩:=by unfold Addr.add;split<;>simp_all
   rw[this];exact q) (by simp[ints];omega) (fun u c=>by simp only[ints,List.mem_map]at c;obtain⟨d,_,rfl⟩:=c;rfl);rw[ij,g]at k;refine⟨_,k,?_,below_setRow (Below.refl _ _) (Nat.le_refl _) _⟩;rw[setRow_heap w B _ _ _ _ f];simp[ints]
theorem sX(bs f lo n o g h:Nat)(u:Value)(vals:List Int)(w:World)(a0:f<n)(a4:lo≤1000)(K:bC w u vals)(L:vals.length≤lo)(I:w.cell? ⟨g,h+f*3+1,none⟩=some (.int .i64 lo)):Calls prog 194 #[aT bs (.slice (some ⟨g,h,none⟩) n o),.int .i64 f,u] w (pB f lo (vals++List.replicate (lo-vals.length) 0) w):=by
 obtain⟨P,E,rfl,a6,q⟩:=K;have a1:(0:Int)≤(f:Int):=by omega
 have a2:(f:Int)<(n:Int):=by omega
 have H:=jB lo (by omega);have a3:(0:Int)≤(lo:Int):=by omega
 have Z:∀c m,((w.alloc c).alloc m).cell? ⟨g,h+f*3+1,none⟩=some (.int .i64 lo):=fun c m=>(((J.refl w).alloc c).alloc m).cell I;have x:=R q;generalize p:vals++List.replicate (lo-vals.length) 0=Y;have z:=R p;generalize r:vals.length=O at*;have B:=R r;clear q p r;go_enter func194,ntmps194;go_upto_region 2 with fail;generalize b:((w.alloc (.cells #[.pointer (some ⟨bs,0,none⟩),.slice (some ⟨g,h,none⟩) n o] 170)).alloc (.cells #[.int .i64 0,.int .i64 0,.slice none 0 0,.slice none 0 0] 92)).alloc (.cells (Array.replicate lo (.int .i64 0)) 3)=d;have k:J w d:=by rw[←b];exact(((J.refl w).alloc _).alloc _).alloc _
 have s:d.heap[w.heap.size+1]?=some (.cells #[.int .i64 0,.int .i64 0,.slice none 0 0,.slice none 0 0] 92):=by rw[←b];exact au (ah (by simp)) _
 have t:d.heap[w.heap.size+1+1]?=some (.cells (ints (List.replicate lo 0)).toArray 3):=by rw[←b];exact(ah (by simp)).trans (by simp[ints])
 have X:Hid (d.heap.size=w.heap.size+1+1+1):=by rw[←b];exact R (by simp)
 obtain⟨e,a5,l,j⟩:=zu d (w.heap.size+1+1) lo O E P vals (U B) L t (fun N W M=>by obtain⟨D,c,F,G⟩:=(U x) N W M;exact⟨D,c,F,k.cell G⟩);have a:=(j.block (w.heap.size+1) (by omega)).trans s;have y:Hid (J w e):=R (Below.trans k (Below.mono j (by omega)));rw[U z]at l;have A:=R l;have a7:e.cell? ⟨w.heap.size+1,0,none⟩=some (.int .i64 0):=ab a 0;have a8:e.cell? ⟨w.heap.size+1,1,none⟩=some (.int .i64 0):=ab a 1;have a9:e.cell? ⟨w.heap.size+1,2,none⟩=some (.slice none 0 0):=ab a 2;have b0:e.cell? ⟨w.heap.size+1,3,none⟩=some (.slice none 0 0):=ab a 3;have b1:=an a 0;have b2:=an a 1;have b3:=an a 2;have b4:=an a 3;have C:=R a;clear b k s t l j a H;go_wp2;have i:=ay (ay (ay (ay (U C) 0 (.int .i64 f)) 1 (.int .i64 0)) 2 (.slice (some ⟨w.heap.size+1+1,0,none⟩) lo lo)) 3 (.slice none 0 0);have Q:=ab i 0;have S:=ab i 1;have T:=ab i 2;have V:=ab i 3;refine bodyPost_ret (v:=.agg #[.int .i64 f,.int .i64 0,.slice (some ⟨w.heap.size+1+1,0,none⟩) lo lo,.slice none 0 0]) (by simp[results,results194,go_sem,Q,S,T,V]) rfl ⟨w.heap.size+1+1,rfl,?_,by omega,?_⟩;·refine bD (bD (bD (bD (U A) ?_ _) ?_ _) ?_ _) ?_ _<;>simp
 ·refine J.setCell (J.setCell (J.setCell (J.setCell (U y) ?_ _) ?_ _) ?_ _) ?_ _<;>simp
def fU(w:World)(v:Value)(x:Fr):Prop:=∃a b,v=.agg #[.int .i64 x.fn,.int .i64 x.at_,a,b]∧bC w a x.locals∧bC w b x.stack
def ma(w:World)(v:Value)(b:Fb):Prop:=∃a,v=.agg #[a,.int .i64 b.caller]∧fD w a b.U
theorem fU.kept{w w':World}(a:J w w'){v:Value}{x:Fr}(d:fU w v x):fU w' v x:=by obtain⟨e,f,b,c,h2⟩:=d;exact⟨e,f,b,c.kept a,h2.kept a⟩
theorem ma.kept{w w':World}(b:J w w'){v:Value}{x:Fb}(d:ma w v x):ma w' v x:=by obtain⟨e,a,c⟩:=d;exact⟨e,a,c.kept b⟩
def iN(p:List Fn):Prop:=∀a,a<p.length→(bd p a).length=(codeOf p a).length
theorem BP{p:List Fn}{x:Fr}{i:Nat}(a:x.fn=i)(b:i<p.length):bK p x=(decide ((x.locals.length:Int)=(p.getD i Fn.zero).locals)&&(aX x.at_ (codeOf p i).length&&decide (0≤(bd p i).getD x.at_.toNat 0))):=by unfold bK aZ;rw[a,dV (by omega) (by omega),Bool.true_and,Int.toNat_natCast]
structure fE(p:List Fn)(x:Fr):Prop where
 KQ:0≤x.fn
 KR:x.fn<p.length
 Kl:0≤x.at_
 at1:x.at_<(codeOf p x.fn.toNat).length
theorem fE.of{p:List Fn}{x:Fr}(a:bK p x=true):fE p x:=by simp only[bK,Bool.and_eq_true,cZ,decide_eq_true_eq]at a;exact⟨a.1.1,a.1.2,a.2.2.1.1,a.2.2.1.2⟩
theorem iu(a:Int)(b:-17592186044416≤a)(h2:a≤17592186044416):IntKind.i64.wrap a=a:=by rw[IntKind.wrap_i64];omega
def nk(p:List Fn):Prop:=∀a b,a<p.length→-1000≤(bd p a).getD b 0∧(bd p a).getD b 0≤1000
