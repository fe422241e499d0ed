import Derived.Test.YtokhibfenccijaaGreatDoorQB03
import Derived.Laws.EntriesVeiled
set_option maxRecDepth 100000
set_option maxHeartbeats 8000000
namespace Go.Proofs.YtokhibfenccijaaGreatDoor
open Go.Proofs.Tryz
open Go.RowKit Go.Maps
theorem Io(c:UInt8)(l:List UInt8):(Lib.splitB ⟨#[c]⟩ 0 (Lib.countB ⟨l.toArray⟩ ⟨#[c]⟩) ⟨l.toArray⟩).map Value.string=(ao c l).map aG∧Lib.countB ⟨l.toArray⟩ ⟨#[c]⟩+1=(ao c l).length:=by
 have a:Lib.countB ⟨l.toArray⟩ ⟨#[c]⟩=Lib.count l [c]:=by simp[Lib.countB]
 refine⟨?_,by rw[a,Lib.count_one,pe]⟩;have b:=Lib.splitB_data ⟨#[c]⟩ 0 (Lib.countB ⟨l.toArray⟩ ⟨#[c]⟩) ⟨l.toArray⟩;have h2:(Lib.splitB ⟨#[c]⟩ 0 (Lib.countB ⟨l.toArray⟩ ⟨#[c]⟩) ⟨l.toArray⟩).map (·.data.toList)=ao c l:=by rw[b,a,←xa c l];simp[Lib.split]
 rw[←h2,List.map_map];apply List.map_congr_left;intro d _;cases d;simp[aG]
theorem wX(w:World)(c:UInt8)(l:List UInt8)(n:l.length≤100000)(g:eL w):Calls prog 36 #[.string ⟨l.toArray⟩,.string ⟨#[c]⟩] w fun e d=>∃f b,e=.returned (.slice (some ⟨f,0,none⟩) b b)∧b=(ao c l).length∧fH d (.slice (some ⟨f,0,none⟩) b b) (ao c l)∧J w d:=by
 obtain⟨j,h⟩:=g.Kv;obtain⟨k,m⟩:=Io c l;refine(strings_Split ⟨l.toArray⟩ ⟨#[c]⟩ j w (by simp[ByteArray.size];omega) h (by simp[ByteArray.size])).mono ?_;rintro e d⟨rfl,rfl⟩;rw[k,m];refine⟨_,_,rfl,rfl,⟨_,_,rfl,⟨?_,Nat.le_refl _⟩,fun o p i=>⟨_,0,rfl,?_⟩⟩,(J.refl w).alloc _⟩;·rw[pe];have:=List.count_le_length (a:=c) (l:=l);omega
 ·rw[ab (ah rfl),Nat.zero_add];simp[i]
theorem vE(w:World)(l:List UInt8)(k:l.length≤100000)(d:eL w):Calls prog 19 #[.string ⟨l.toArray⟩] w fun j h=>∃b a,j=.returned (.slice (some ⟨b,0,none⟩) a a)∧a=(ao 32 l).length∧fH h (.slice (some ⟨b,0,none⟩) a a) (ao 32 l)∧J w h:=by have c:=R (wX w 32 l k d);generalize(ByteArray.mk l.toArray)=m at*;clear d;go_enter func19,ntmps19;go_wp2_with fail;refine(U c).mono ?_;rintro _ n⟨b,a,rfl,f,g,e⟩;have i:=R (And.intro f (And.intro g e));clear f g e c;go_wp2_with fail;go_ret;exact⟨b,a,rfl,U i⟩
def dj(l:List UInt8):Option (List (List UInt8)):=if l=[]then some []else if l.getLast?=some 10 then some (ao 10 l.dropLast)else none
def jk(l:List UInt8)(w:World)(e:Ending)(w':World):Prop:=match dj l with|some c=>∃d a b,e=.returned (.tuple #[.slice d a b,.bool true])∧a=c.length∧fH w' (.slice d a b) c∧J w w'|none=>e=.returned (.tuple #[.slice none 0 0,.bool false])∧J w w'
theorem IK(l:List UInt8):Lib.hasSuffix l [10]=decide (l.getLast?=some 10):=by
 unfold Lib.hasSuffix;rw[Bool.eq_iff_iff,List.isSuffixOf_iff_suffix,decide_eq_true_iff];constructor;·rintro⟨b,rfl⟩;simp
 ·intro a;obtain⟨b,rfl⟩:∃b,l=b++[10]:=by
   have c:l≠[]:=fun d=>by simp[d]at a
   refine⟨l.dropLast,?_⟩;have:=List.dropLast_concat_getLast c;rw[List.getLast?_eq_some_getLast c]at a;simp only[Option.some.injEq]at a;rw[a]at this;exact this.symm
  exact⟨b,rfl⟩
theorem rj(w:World)(l:List UInt8)(z:l.length≤100000)(f:eL w):Calls prog 14 #[.string ⟨l.toArray⟩] w (jk l w):=by
 by_cases b:l=[]
 ·subst b;have h3:(ByteArray.mk ([]:List UInt8).toArray).toList.isEmpty=true:=by rw[ByteArray.toList_mk];rfl
  generalize(ByteArray.mk ([]:List UInt8).toArray)=p at*;clear f;go_enter func14,ntmps14;go_wp2_with fail;go_ret2;unfold jk dj;rw[if_pos rfl];exact⟨none,0,0,rfl,rfl,⟨_,_,rfl,by simp,fun A C x=>by simp at x⟩,J.refl w⟩
 ·have h3:(ByteArray.mk l.toArray).toList.isEmpty=false:=by rw[ByteArray.toList_mk];simpa using b
  have j:(ByteArray.mk l.toArray).size=l.length:=by simp[ByteArray.size]
  have e:=strings_CutSuffix ⟨l.toArray⟩ ⟨#[10]⟩ w (by rw[j];omega);have c:=IK l;by_cases a:l.getLast?=some 10
  ·have t:Lib.trimSuffix l [10]=l.dropLast:=by unfold Lib.trimSuffix;rw[c,decide_eq_true a,if_pos rfl,List.dropLast_eq_take];rfl
   have d:Hid (Calls prog 35 #[.string ⟨l.toArray⟩,.string ⟨#[10]⟩] w fun i n=>i=.returned (.tuple #[.string ⟨l.dropLast.toArray⟩,.bool true])∧w=n):=R (e.mono fun _ _⟨k,m⟩=>⟨by rw[k];simp[t,c,a],m.symm⟩);have o:=R (wX w 10 l.dropLast (by simp;omega) f);have h:Hid (dj l=some (ao 10 l.dropLast)):=R (by unfold dj;rw[if_neg b,if_pos a]);generalize(ByteArray.mk l.toArray)=p at*;generalize(ByteArray.mk l.dropLast.toArray)=g at*;clear f b e c a t j;go_enter func14,ntmps14;go_wp2_with fail;refine(U d).mono ?_;rintro _ _⟨rfl,rfl⟩;go_wp2_with fail;refine(U o).mono ?_;rintro _ B⟨y,u,rfl,r,s,q⟩;have v:=R (And.intro r (And.intro s q));clear r s q d o;go_wp2_with fail;go_ret2;unfold jk;rw[U h];exact⟨_,u,u,rfl,U v⟩
  ·have d:Hid (Calls prog 35 #[.string ⟨l.toArray⟩,.string ⟨#[10]⟩] w fun i n=>∃g,i=.returned (.tuple #[.string g,.bool false])∧w=n):=R (e.mono fun _ _⟨k,m⟩=>⟨⟨(Lib.trimSuffix l [10]).toArray⟩,by rw[k];simp[c,a],m.symm⟩);have h:Hid (dj l=none):=R (by unfold dj;rw[if_neg b,if_neg a]);generalize(ByteArray.mk l.toArray)=p at*;clear f b e c a j;go_enter func14,ntmps14;go_wp2_with fail;refine(U d).mono ?_;rintro _ _⟨g,rfl,rfl⟩;go_wp2_with fail;go_ret2;unfold jk;rw[U h];exact⟨rfl,J.refl w⟩
def dG:List Fn→List (List UInt8)→Option (List Fn)
 |a,[]=>some a
 |a,b::c=>match stepT a (ao 32 b)with|none=>none|some d=>dG d c
def eH(l:List UInt8):Option (List Fn):=match dj l with|none=>none|some a=>dG [] a
def mq(l:List UInt8)(w:World)(e:Ending)(w':World):Prop:=match eH l with|some d=>∃b a c,e=.returned (.tuple #[b,.int .i64 0])∧w.heap.size≤a∧cx a c w' b d∧J w w'|none=>e=.returned (.tuple #[.slice none 0 0,.int .i64 1])∧J w w'
theorem ue:∀(ls:List (List UInt8))(p:List Fn),(∃b:Nat→List Fn,b 0=p∧(∀a c,ls[a]?=some c→stepT (b a) (ao 32 c)=some (b (a+1)))∧dG p ls=some (b ls.length))∨∃(f:Nat)(b:Nat→List Fn)(h:List UInt8),b 0=p∧ls[f]?=some h∧(∀a c,a<f→ls[a]?=some c→stepT (b a) (ao 32 c)=some (b (a+1)))∧stepT (b f) (ao 32 h)=none∧dG p ls=none
 |[],p=>.inl ⟨fun _=>p,rfl,fun a c d=>by simp at d,rfl⟩
 |c::ls,p=>by
  cases e:stepT p (ao 32 c)with
  |none=>exact .inr ⟨0,fun _=>p,c,rfl,rfl,fun a _ d=>by omega,e,by simp only[dG,e]⟩
  |some l=>
   rcases ue ls l with⟨b,i,j,h2⟩|⟨f,b,h,i,j,h2,h3,k⟩
   ·refine .inl ⟨fun a=>match a with|0=>p|a+1=>b a,rfl,fun a g d=>?_,by simp only[dG,e,h2,List.length_cons]⟩;cases a with
    |zero=>
     obtain rfl:c=g:=by simpa using d
     simpa[i]using e
    |succ a=>exact j a g (by simpa using d)
   ·refine .inr ⟨f+1,fun a=>match a with|0=>p|a+1=>b a,h,rfl,by simpa using j,fun a g m d=>?_,h3,by simp only[dG,e,k]⟩;cases a with
    |zero=>
     obtain rfl:c=g:=by simpa using d
     simpa[i]using e
    |succ a=>exact h2 a g (by omega) (by simpa using d)
theorem yd(v:Value)(w:World):(Instr.typeAssert (.iface 22 v) 20 22 false).run prog w=.ok v w:=by kernel_rfl
theorem te(b g:Nat)(x e:Int)(s:Value)(r:List PanicEntry)(w:World)(h:w.heap[b]?=some (.cells #[s] 27))(c:w.heap[g]?=some (.cells #[.int .i64 x] 22))(j:b≠g):CallsD prog 62 #[.pointer (some ⟨b,0,none⟩),.pointer (some ⟨g,0,none⟩)] (.panicking ({v:=.iface 22 (.int .i64 e),recovered:=false}::r)) w fun u C m=>u=.returned (.tuple #[])∧C=.panicking ({v:=.iface 22 (.int .i64 e),recovered:=true}::r)∧m.heap[b]?=some (.cells #[.slice none 0 0] 27)∧m.heap[g]?=some (.cells #[.int .i64 e] 22)∧∀f:World,J f w→f.heap.size≤b→f.heap.size≤g→J f m:=by
 have D:w.cell? ⟨g,0,none⟩=some (.int .i64 x):=ab c 0;have M:=an c 0;have E:w.cell? ⟨b,0,none⟩=some s:=ab h 0;have N:=an h 0;refine callsD_of_wpS func62 rfl fun G F B=>?_;apply wpS_seq;apply wpS_region;simp[wpOpsS,go_sem,recoverD,B,ntmps62,Exit.thenS];have q:(#[Value.pointer (some ⟨b,0,none⟩),Value.pointer (some ⟨g,0,none⟩)]++((Array.replicate 6 undef).setIfInBounds 1 (Value.iface 22 (.int .i64 e))).setIfInBounds 0 (Value.iface 22 (.int .i64 e)))=#[Value.pointer (some ⟨b,0,none⟩),Value.pointer (some ⟨g,0,none⟩),Value.iface 22 (.int .i64 e),Value.iface 22 (.int .i64 e),undef,undef,undef,undef]:=rfl;rw[q];apply wpS_of_wp;have n:=bD (a:=⟨g,0,none⟩) (ay h 0 (.slice none 0 0)) j (.int .i64 e);have o:=ay (bD (a:=⟨b,0,none⟩) c (Ne.symm j) (.slice none 0 0)) 0 (.int .i64 e);have K:(w.setCell ⟨b,0,none⟩ (.slice none 0 0)).frozen? ⟨g,0,none⟩=false:=an (bD (a:=⟨b,0,none⟩) c (Ne.symm j) (.slice none 0 0)) 0;have I:(w.setCell ⟨b,0,none⟩ (.slice none 0 0)).cell? ⟨g,0,none⟩=some (.int .i64 x):=ab (bD (a:=⟨b,0,none⟩) c (Ne.symm j) (.slice none 0 0)) 0;have H:=yd (.int .i64 e);have t:=R (And.intro n o);clear n o h c q;go_wp2_with fail;refine wp_region_held_drew (S:=fun _=>True) (by kernel_rfl) trivial (fun l=>?_);refine bQ [0,1] ?_;repeat
  refine bS (v:=?_) l (fun L _=>?_) ?_;rotate_left;·go_simp<;>with_reducible rfl
  try simp only[PS]
 refine bO ?_;refine take_one (i:=2) rfl (by kernel_rfl) (fun k d=>?_);go_simp;refine d.out _ _ trivial (fun l=>?_);clear d k;try simp only[PS]
 refine take_one (i:=3) rfl (by kernel_rfl) (fun k d=>?_);go_simp;refine d.out _ _ trivial (fun l=>?_);clear d k;try simp only[PS]
 refine wpAnyH_done (by kernel_rfl) ?_ _;obtain⟨y,h2⟩:=U t;refine⟨rfl,_,rfl,_,(by simp[results,results62,go_sem]),rfl,rfl,y,h2,fun f A h3 z=>?_⟩;exact((A.setCell (p:=⟨b,0,none⟩) h3 _).setCell (p:=⟨g,0,none⟩) z _).drew
theorem CJ(a g:Nat)(w:World):CallsD prog 62 #[.pointer (some ⟨a,0,none⟩),.pointer (some ⟨g,0,none⟩)] .returning w fun c f h=>c=.returned (.tuple #[])∧f=.returning∧h=w:=by refine callsD_of_wpS func62 rfl fun b i e=>?_;apply wpS_seq;apply wpS_region;simp[wpOpsS,go_sem,recoverD,e,ntmps62,Exit.thenS];have d:(#[Value.pointer (some ⟨a,0,none⟩),Value.pointer (some ⟨g,0,none⟩)]++((Array.replicate 6 undef).setIfInBounds 1 Value.nilIface).setIfInBounds 0 Value.nilIface)=#[Value.pointer (some ⟨a,0,none⟩),Value.pointer (some ⟨g,0,none⟩),Value.nilIface,Value.nilIface,undef,undef,undef,undef]:=rfl;rw[d];apply wpS_seq;apply wpS_region;simp[wpOpsS,go_sem,Exit.thenS];refine wpS_cond (t:=false) (by simp[Act.eval]) ?_;simp only[Bool.false_eq_true,if_false];refine wpS_of_wp (wp_skip ?_);cases b;simp_all[bodyPostS,results,results62]
def ml(p:List Fn)(k:Nat):Prop:=p.length≤k∧∀a∈p,a.code.length≤k
theorem stepT_size{p j:List Fn}{m:List (List UInt8)}{k:Nat}(a:stepT p m=some j)(d:ml p k):ml j (k+1):=by
 cases m with
 |nil=>cases a
 |cons l o=>
  cases f:eD o with
  |none=>simp only[stepT,f]at a;cases a
  |some i=>
   simp only[stepT,f]at a;by_cases h:l=[102,117,110,99]
   ·rw[if_pos h]at a;by_cases h2:i.length=2
    ·rw[if_pos h2]at a;cases a;refine⟨by simp;exact d.1,fun e b=>?_⟩;rcases List.mem_append.1 b with b|b;·have:=d.2 e b;omega
     ·obtain rfl:=List.mem_singleton.1 b;simp
    ·rw[if_neg h2]at a;cases a
   ·rw[if_neg h]at a;by_cases c:p=[];·rw[if_pos c]at a;cases a
    ·rw[if_neg c]at a;cases g:gd l i with
     |none=>rw[g]at a;cases a
     |some q=>
      rw[g]at a;cases a;have n:p.getLast?=some (p.getLast c):=List.getLast?_eq_some_getLast c;unfold fI;rw[n];refine⟨?_,fun e b=>?_⟩;·have:=d.1;simp;omega
      ·rcases List.mem_append.1 b with b|b;·have:=d.2 e (List.dropLast_subset p b);omega
       ·obtain rfl:=List.mem_singleton.1 b;have:=d.2 _ (List.getLast_mem c);simp;omega
theorem lO{c:UInt8}:∀{l x:List UInt8},x∈ao c l→x.length≤l.length
 |[],x,a=>by simp[ao]at a;simp[a]
 |e::l,x,a=>by
  unfold ao at a;split at a
  ·rcases List.mem_cons.1 a with rfl|a;·simp
   ·have:=lO a;simp;omega
  ·cases b:ao c l with
   |nil=>exact absurd b (gV c l)
   |cons d f=>
    rw[b]at a;rcases List.mem_cons.1 a with rfl|a;·have:=lO (c:=c) (l:=l) (x:=d) (by rw[b];simp);simp;omega
    ·have:=lO (c:=c) (l:=l) (x:=x) (by rw[b];simp[a]);simp;omega
theorem fH.Ks{w w':World}{d:Nat}{v:Value}{u:Value}{l:List (List UInt8)}(m:fH w v l)(n:w.heap[d]?=some (.cells #[u] 27))(q:∃c s i,u=.slice c s i)(k:aA d w w'):fH w' v l:=by
 obtain⟨c,j,b,p,o⟩:=m;refine⟨c,j,b,p,fun e x r=>?_⟩;obtain⟨h,g,t,a⟩:=o e x r;refine⟨h,g,t,k.cell (fun b=>?_) a⟩;simp only at b;subst b;rw[ab n]at a;obtain⟨_,_,_,rfl⟩:=q;generalize g+e=f at a;cases f with
 |zero=>simp[aG]at a
 |succ f=>simp at a
theorem ri{l:List UInt8}{ls:List (List UInt8)}(b:dj l=some ls)(e:l.length≤8192):ls.length≤8193∧∀d∈ls,d.length≤8192:=by
 unfold dj at b;split at b;·cases b;exact⟨by simp,fun d c=>by simp at c⟩
 ·split at b
  ·cases b;refine⟨?_,fun d c=>?_⟩;·rw[pe];have:=List.count_le_length (a:=(10:UInt8)) (l:=l.dropLast);simp at this;omega
   ·have:=lO c;simp at this;omega
  ·cases b
theorem nV{P:Program}{c:Func}{g:Ending→World→Prop}{t t':Array Value}(d:results c t=results c t'):∀(b:List Deferred)(u:FrameMode)(w:World),Leaves P c t g b u w→Leaves P c t' g b u w
 |[],.returning,w,a=>by obtain⟨h,e,h2⟩:=a;exact⟨h,by rw[←d];exact e,h2⟩
 |[],.panicking _,_,a=>a
 |[],.run,_,a=>a
 |p::b,u,w,a=>by
  obtain⟨n,m,j,l,i,e,h2,h3⟩:=a;refine⟨n,m,j,l,i,e,h2,h3.mono ?_⟩;intro k v x f;cases k with
  |returned h=>exact nV d b _ _ f
  |panicked o=>exact nV d b _ _ f
  |outgrown=>exact f
theorem wE(a:Act)(i:Nat)(v:Value)(h2:i≠2)(h3:i≠3):results f31 (a.put (some i) v).tmps=results f31 a.tmps:=by simp[results,results31,Act.put,Array.getElem?_setIfInBounds_ne h2,Array.getElem?_setIfInBounds_ne h3]
theorem cx.Ky{b m c i:Nat}{w:World}{v u:Value}{p:List Fn}{d:Array Value}(z:cx b m w v p)(B:w.heap[c]?=some (.cells d 27))(T:c<b):cx b m (w.setCell ⟨c,i,none⟩ u) v p:=by
 obtain⟨o,F,n,H,C⟩:=z;have q:∀{a:TypeId}{k j e:Nat}{v:Value}{l:List Value},b≤e→w.ownsRow e a k v j l→(w.setCell ⟨c,i,none⟩ u).ownsRow e a k v j l:=fun{a k j e v l}V g=>by
  obtain⟨a1,D⟩:=g;refine⟨a1,?_⟩;rcases D with G|⟨y,r,s,A,a2,g,a3⟩;·exact .inl G
  ·exact .inr ⟨y,r,s,A,a2,bD g (by simp only;omega) _,a3⟩
 have Q:jl 72 w (w.setCell ⟨c,i,none⟩ u):=fun S n f=>bD f (fun a=>by simp only at a;subst a;rw[B]at f;simp only[Option.some.injEq,Obj.cells.injEq]at f;exact absurd f.2.1 (by decide)) _;refine⟨o,by simpa[World.setCell]using F,n,q (Nat.le_refl _) H,fun I x E=>?_⟩;obtain⟨t,K,L,M,N,O,P⟩:=C I x E;exact⟨t,K,L,M,N,fun h=>q o (O h),fun h=>(P h).Lf (Nat.le_refl _) (Nat.le_refl _) Q⟩
theorem cx.Ld{b m c i:Nat}{w:World}{v u:Value}{p:List Fn}{d:Array Value}(z:cx b m w v p)(B:w.heap[c]?=some (.cells d 22))(T:c<b):cx b m (w.setCell ⟨c,i,none⟩ u) v p:=by
 obtain⟨o,F,n,H,C⟩:=z;have q:∀{a:TypeId}{k j e:Nat}{v:Value}{l:List Value},b≤e→w.ownsRow e a k v j l→(w.setCell ⟨c,i,none⟩ u).ownsRow e a k v j l:=fun{a k j e v l}V g=>by
  obtain⟨a1,D⟩:=g;refine⟨a1,?_⟩;rcases D with G|⟨y,r,s,A,a2,g,a3⟩;·exact .inl G
  ·exact .inr ⟨y,r,s,A,a2,bD g (by simp only;omega) _,a3⟩
 have Q:jl 72 w (w.setCell ⟨c,i,none⟩ u):=fun S n f=>bD f (fun a=>by simp only at a;subst a;rw[B]at f;simp only[Option.some.injEq,Obj.cells.injEq]at f;exact absurd f.2.1 (by decide)) _;refine⟨o,by simpa[World.setCell]using F,n,q (Nat.le_refl _) H,fun I x E=>?_⟩;obtain⟨t,K,L,M,N,O,P⟩:=C I x E;exact⟨t,K,L,M,N,fun h=>q o (O h),fun h=>(P h).Lf (Nat.le_refl _) (Nat.le_refl _) Q⟩
def pI(w w1:World)(a b:Nat)(p:List Fn)(wr:World)(c:Option Addr)(cap m:Nat):Prop:=wr.heap[a]?=some (.cells #[.slice c p.length cap] 27)∧wr.heap[a+1]?=some (.cells #[.int .i64 0] 22)∧cx b m wr (.slice c p.length cap) p∧aA a w1 wr∧J w wr
theorem Jw(w:World)(l:List UInt8)(k7:l.length≤8192)(c5:eL w):Calls prog 31 #[.string ⟨l.toArray⟩] w (mq l w):=by
 have b7:Hid (∀f,J w f→Calls prog 14 #[.string ⟨l.toArray⟩] f (jk l f)):=R fun f l3=>rj f l (by omega) (c5.kept l3);have q:Hid (J w ((w.alloc (.cells #[.slice none 0 0] 27)).alloc (.cells #[.int .i64 0] 22))∧((w.alloc (.cells #[.slice none 0 0] 27)).alloc (.cells #[.int .i64 0] 22)).heap[w.heap.size]?=some (.cells #[.slice none 0 0] 27)∧((w.alloc (.cells #[.slice none 0 0] 27)).alloc (.cells #[.int .i64 0] 22)).heap[w.heap.size+1]?=some (.cells #[.int .i64 0] 22)):=R ⟨((J.refl w).alloc _).alloc _,au (ah rfl) _,ah (by simp)⟩;have e4:=R c5;have k1:Hid (∀f,Calls prog 63 #[.bool true] f fun j e3=>j=.returned (.tuple #[])∧f=e3):=R fun f=>(nC f).mono fun _ _ k=>⟨k.1,k.2.symm⟩;have j1:Hid (∀f,Calls prog 63 #[.bool false] f fun j e3=>j=eQ∧f=e3):=R fun f=>(nB f).mono fun _ _ k=>⟨k.1,k.2.symm⟩;generalize(ByteArray.mk l.toArray)=m3 at*;clear c5;go_enter_defers func31,ntmps31;go_wp2_with fail;generalize(w.alloc (.cells #[.slice none 0 0] 27)).alloc (.cells #[.int .i64 0] 22)=l9 at*;obtain⟨b,g0⟩:∃K,K=w.heap.size:=⟨_,rfl⟩;have Y:Hid (w.heap.size≤b):=R (by omega);rw[←g0]at q⊢;clear g0;refine((U b7) l9 (U q).1).mono ?_;intro j g n;unfold jk at n;cases A:dj l with
 |none=>rw[A]at n;obtain⟨rfl,x⟩:=n;have b5:=R (And.intro ((U q).1.trans x) (And.intro (aw x (U q).2.1) (aw x (U q).2.2)));have M:Hid (eH l=none):=R (by unfold eH;rw[A]);clear x q A b7;go_wp2_with fail;refine((U j1) _).mono ?_;rintro _ _⟨rfl,rfl⟩;dsimp only[eQ];go_wp2_with fail;refine leaves_cons (f:=62) (args:=#[.pointer (some ⟨b,0,none⟩),.pointer (some ⟨b+1,0,none⟩)]) (by simp) (by simp[go_sem]) ?_;refine(te b (b+1) 0 1 _ [] _ (U b5).2.1 (U b5).2.2 (by omega)).mono ?_;rintro j i0 i1⟨rfl,rfl,u,h2,h3⟩;have r:=ab u 0;have s:=ab h2 0;simp only[List.getElem?_toArray,List.getElem?_cons_zero]at r s;have P:=h3 w (U b5).1 (U Y) (by have:=U Y;omega);simp[Leaves,settle,results,results31,go_sem,r,s];unfold mq;rw[U M];exact⟨rfl,P⟩
 |some I=>
  rw[A]at n;obtain⟨F,o,a0,rfl,c8,g7,x⟩:=n;have g3:I.length≤8193∧∀d∈I,d.length≤8192:=ri A k7;obtain⟨h,c,c2,m9,c3,g1⟩:∃(h:Nat)(c:Nat→List Fn),c 0=[]∧h≤o∧(∀a d,a<h→I[a]?=some d→stepT (c a) (ao 32 d)=some (c (a+1)))∧((h=o∧eH l=some (c o))∨(h<o∧eH l=none∧∃d,I[h]?=some d∧stepT (c h) (ao 32 d)=none)):=by
   rcases ue I []with⟨c,N,u,h2⟩|⟨h,c,d,N,u,h2,h3,k3⟩;·exact⟨o,c,N,Nat.le_refl _,fun a d _ C=>u a d C,.inl ⟨rfl,by unfold eH;rw[A,c8];exact h2⟩⟩
   ·have:=(List.getElem?_eq_some_iff.1 u).1;exact⟨h,c,N,by omega,h2,.inr ⟨by omega,by unfold eH;rw[A];exact k3,d,u,h3⟩⟩
  have g8:∀a,a≤h→ml (c a) a:=by
   intro a;induction a with
   |zero=>intro _;rw[c2];exact⟨by simp,fun V c6=>by simp at c6⟩
   |succ a l6=>intro P;obtain⟨d,C⟩:∃d,I[a]?=some d:=⟨_,List.getElem?_eq_getElem (by omega)⟩;exact stepT_size (c3 a d (by omega) C) (l6 (by omega))
  have b6:Hid (pI w g b g.heap.size (c 0) g none 0 g.heap.size∧b+1<g.heap.size):=R (by have u:=aw x (U q).2.1;have h2:=aw x (U q).2.2;rw[c2];exact⟨⟨u,h2,cx.nil _ _ (Nat.le_refl _),aA.refl _ _,(U q).1.trans x⟩,(Array.getElem?_eq_some_iff.1 h2).1⟩);have j3:=R c3;have e5:=R g1;have j7:=R g8;have i7:=R g3;have j5:=R g7;have i8:=R c8;have n2:o≤8193:=by omega
  have j4:Hid (g.heap[b]?=some (.cells #[.slice none 0 0] 27)):=R (aw x (U q).2.1);clear x q A b7 g7 c8 g3 g8 c3 g1 c2;go_wp2_with fail;refine((U k1) _).mono ?_;rintro _ _⟨rfl,rfl⟩;go_wp2_with fail;go_loopw[18](fun e2 wr=>∃a:Nat,a≤h∧e2=.int .i64 a∧Hid (∃F a0 E,pI w g b g.heap.size (c a) wr F a0 E))(fun e2 _=>o-(intOf e2).toNat);case atStart=>exact⟨0,Nat.zero_le _,rfl,R ⟨_,_,_,(U b6).1⟩⟩
  case round=>
   obtain⟨a,k5,rfl,M⟩:=hrel;by_cases P:a<o
   ·obtain⟨y,t,E,a1,a2,a3,a4,a5⟩:=U M;obtain⟨d,C⟩:∃d,I[a]?=some d:=⟨_,List.getElem?_eq_getElem (by rw[←U i8];exact P)⟩;have l2:=(U j5).Ks (U j4) ⟨_,_,_,rfl⟩ a4;obtain⟨n4,m6,j,_,g2⟩:=l2;simp only[Value.slice.injEq]at j;obtain⟨rfl,l0,rfl⟩:=j;clear l0;obtain⟨m5,n5,rfl,e9⟩:=g2 a d C;unfold aG at e9;have n0:(0:Int)≤(a:Int):=by omega
    have n1:(a:Int)<(o:Int):=by omega
    have h6:=(U i7).2 d (List.mem_of_getElem? C);have e6:=R (vE wr.drew d (by omega) ((U e4).kept (a5.drew)));obtain⟨X,K,h1⟩:∃X K,ao 32 d=X::K:=by
     cases k9:ao 32 d with
     |nil=>exact absurd k9 (gV 32 d)
     |cons X K=>exact⟨X,K,rfl⟩
    have b8:=R h1;have e8:=R C;have a8:b+1<g.heap.size:=(U b6).2;have j6:Hid (wr.drew.cell? ⟨b,0,none⟩=some (.slice y (c a).length t)):=R (ab a1 0);have i4:=R (And.intro a1 (And.intro a2 (And.intro a3 (And.intro a4 a5))));have k0:=R h6;have h0:=(U j7) a k5;have e7:=R h0;generalize(ByteArray.mk d.toArray)=m4 at*;generalize g6:(c a).length=a9 at*;clear a1 a2 a3 a4 a5 C h1 g2 M h6 h0;go_wp2_with fail;refine eW 4 [0,1] (fun f=>f.cell? ⟨b,0,none⟩=some (.slice y a9 t)) (by kernel_rfl) ?_;have a6:=U j6;refine cN (v:=?_) (hQ:=by intro _ T w k;exact nV (wE T 22 _ (by decide) (by decide)) _ _ _ k) a6 (fun f c4=>?_) ?_;rotate_left;·((try dsimp only at c4);go_simp)<;>with_reducible rfl
    try simp only[PS]
    refine cN (v:=?_) (hQ:=by intro _ T w k;exact nV (wE T 23 _ (by decide) (by decide)) _ _ _ k) a6 (fun f c4=>?_) ?_;rotate_left;·((try dsimp only at c4);go_simp)<;>with_reducible rfl
    try simp only[PS]
    refine dc ?_;refine az (i:=2) rfl (by kernel_rfl) (fun S z=>?_);go_simp;refine(U e6).mono ?_;rintro _ i2⟨m8,n3,rfl,g4,c9,e0⟩;rw[U b8]at g4 c9;obtain⟨a1,a2,a3,a4,a5⟩:=U i4;have H:J wr i2:=((J.refl wr).drew).trans e0;have b9:=R (JA i2 g.heap.size E (.slice y a9 t) _ (c a) X K (by rw[←g6];rw[←g6]at a3;exact a3.kept H) (by have:=(U e7).1;omega) (fun V c6=>by have:=(U e7).2 V c6;omega) c9 (fun m1 l5=>by have:=lO (c:=32) (l:=d) (x:=m1) (by rw[U b8];exact l5);have:=U k0;omega) ((U e4).kept (a5.trans H)));have b4:=R (And.intro (aw H a1) (And.intro (aw H a2) (And.intro ((aA.of (B:=b) H)|>a4.trans) (a5.trans H))));refine z.out _ _ (fun _=>e0.cell a6) ?_;clear z S a1 a2 a3 a4 a5 H e0 c9 e6 g4;try simp only[PS]
    refine az (i:=3) rfl (by kernel_rfl) (fun S z=>?_);go_simp;refine(U b9).mono ?_;intro j b2 n;unfold jm at n;rw[←U b8]at n;obtain⟨b1,Z,G,m⟩:=U b4;have a7:=U Y;by_cases k6:a<h
    ·rw[(U j3) a d k6 (U e8)]at n;obtain⟨l8,l7,rfl,Q,e⟩:=n;obtain⟨e1,c1,rfl⟩:∃F c0,l8=.slice F (c (a+1)).length c0:=by obtain⟨_,_,c0,l1,_⟩:=Q;obtain⟨F,k2,j,_⟩:=iG l1;exact⟨F,k2,j⟩
     have L:=(e.block b (by omega)).trans b1;have b0:=(e.block (b+1) a8).trans Z;have b3:=ab L 0;have i3:=an L 0;have j0:Hid (∃F a0 E,pI w g b g.heap.size (c (a+1)) (b2.setCell ⟨b,0,none⟩ (.slice e1 (c (a+1)).length c1)) F a0 E):=R (by
      have k4:aA b g b2:=⟨e.os.trans G.os,e.tape.trans G.tape,e.output.trans G.output,Nat.le_trans G.size e.size,fun D O k8=>(e.block D O).trans (G.block D O k8)⟩;have l4:w.heap.size≤g.heap.size:=by omega
      have c7:J w b2:=⟨e.os.trans m.os,e.tape.trans m.tape,e.output.trans m.output,Nat.le_trans m.size e.size,fun D O=>(e.block D (by omega)).trans (m.block D O)⟩;refine⟨e1,c1,l7,by have:=ay L 0 (.slice e1 (c (a+1)).length c1);simpa using this,bD b0 (by simp) _,Q.Ky L (by omega),k4.setCell (.inl rfl) _,c7.setCell (p:=⟨b,0,none⟩) a7 _⟩);generalize(c (a+1)).length=n6 at*;refine z.out _ _ (fun _=>b3) ?_;clear z S Q e L b0 b1 Z G m b9 b4;try simp only[PS]
     refine az (i:=4) rfl (by kernel_rfl) (fun S z=>?_);go_simp;refine z.out _ _ (fun k=>absurd rfl k) ?_;clear z S;try simp only[PS]
     refine df (by kernel_rfl) ?_ _;clear b3 i3 a6 e9;go_wp2_with fail;go_roundw;case rel=>exact⟨a+1,by omega,by go_num,j0⟩
     case measure=>simp[intOf];omega
    ·obtain rfl:a=h:=by omega
     rcases U e5 with⟨N,_⟩|⟨_,g5,n8,h5,g9⟩;·omega
     ·rw[U e8]at h5;cases h5;rw[g9]at n;obtain⟨rfl,e⟩:=n;have L:=(e.block b (by omega)).trans b1;have b0:=(e.block (b+1) a8).trans Z;have l4:w.heap.size≤g.heap.size:=by omega
      have c7:J w b2:=⟨e.os.trans m.os,e.tape.trans m.tape,e.output.trans m.output,Nat.le_trans m.size e.size,fun D O=>(e.block D (by omega)).trans (m.block D O)⟩;have i9:=R g5;clear z g9 b1 Z G m e b9 b4 g5;dsimp only[eQ];refine leaves_cons (f:=62) (args:=#[.pointer (some ⟨b,0,none⟩),.pointer (some ⟨b+1,0,none⟩)]) (by simp) (by simp[go_sem]) ?_;refine(te b (b+1) 0 1 _ [] _ L b0 (by omega)).mono ?_;rintro j i0 i1⟨rfl,rfl,u,h2,h3⟩;have r:=ab u 0;have s:=ab h2 0;simp only[List.getElem?_toArray,List.getElem?_cons_zero]at r s;have P:=h3 w c7 a7 (by omega);simp[Leaves,settle,results,results31,go_sem,r,s];unfold mq;rw[U i9];exact⟨rfl,P⟩
   ·obtain⟨N,h4⟩:h=o∧eH l=some (c o):=by
     rcases U e5 with k|⟨N,_⟩;·exact k
     ·omega
    obtain rfl:a=o:=by omega
    obtain⟨y,t,E,a1,a2,a3,a4,a5⟩:=U M;have a7:=U Y;have a8:b+1<g.heap.size:=(U b6).2;have b3:=ab a1 0;have i3:=an a1 0;have m0:=ab a2 0;have n9:=an a2 0;have h7:=ay a1 0 (.slice y (c a).length t);have W:=bD (a:=⟨b,0,none⟩) a2 (by simp) (.slice y (c a).length t);have h8:=bD (a:=⟨b+1,0,none⟩) h7 (by simp) (.int .i64 0);have h9:=ay W 0 (.int .i64 0);have m2:=ab W 0;have m7:=an W 0;have Q:cx g.heap.size E ((wr.setCell ⟨b,0,none⟩ (.slice y (c a).length t)).setCell ⟨b+1,0,none⟩ (.int .i64 0)) (.slice y (c a).length t) (c a):=(a3.Ky a1 (by omega)).Ld W a8;have j2:=R Q;have i6:=R ((a5.setCell (p:=⟨b,0,none⟩) a7 (.slice y (c a).length t)).setCell (p:=⟨b+1,0,none⟩) (by show w.heap.size≤b+1;omega) (.int .i64 0));have r:=ab h8 0;have s:=ab h9 0;simp only[List.setIfInBounds_toArray,List.set_cons_zero,List.getElem?_toArray,List.getElem?_cons_zero]at b3 m0 m2 r s;have j8:=R (And.intro r s);have j9:=R h4;have i5:Hid (w.heap.size≤g.heap.size):=R (by omega);generalize(c a).length=a9 at*;clear a1 a2 a3 a4 a5 h7 W h8 h9 r s M h4 Q;go_wp2_with fail;generalize(wr.setCell ⟨b,0,none⟩ (.slice y a9 t)).setCell ⟨b+1,0,none⟩ (.int .i64 0)=n7 at*;refine leaves_cons (f:=62) (args:=#[.pointer (some ⟨b,0,none⟩),.pointer (some ⟨b+1,0,none⟩)]) (by simp) (by simp[go_sem]) ?_;refine(CJ b (b+1) _).mono ?_;rintro j i0 i1⟨rfl,rfl,rfl⟩;obtain⟨r,s⟩:=U j8;simp[Leaves,settle,results,results31,go_sem,r,s];unfold mq;rw[U j9];exact⟨_,_,E,rfl,U i5,U j2,U i6⟩
open Go.RowKit
theorem dI(i n:Int)(w:World):Calls prog 82 #[.int .i64 i,.int .i64 n] w fun a c=>a=.returned (.bool (aX i n))∧w=c:=by
 by_cases b:0≤i
 ·by_cases h2:i<n;·rw[dV b h2];go_enter func82,ntmps82;go_wp2;go_ret;exact⟨rfl,rfl⟩
  ·rw[gQ (by omega)];go_enter func82,ntmps82;go_wp2;go_ret;exact⟨rfl,rfl⟩
 ·rw[gQ (by omega)];go_enter func82,ntmps82;go_wp2;go_ret;exact⟨rfl,rfl⟩
theorem qF(a l:Int)(c:Value)(w:World):Calls prog 83 #[.agg #[.int .i64 a,.int .i64 l,c]] w fun b e=>b=.returned (.bool (cI a l))∧e=w.alloc (.cells #[.int .i64 a,.int .i64 l,c] 69):=by
 by_cases d:0≤a
 ·by_cases h2:a≤l
  ·by_cases h3:l≤4;·rw[show cI a l=true from by rw[fg];exact⟨d,h2,h3⟩];go_enter func83,ntmps83;go_wp2;go_ret;exact⟨rfl,rfl⟩
   ·rw[show cI a l=false from by rw[←Bool.not_eq_true,fg];omega];go_enter func83,ntmps83;go_wp2;go_ret;exact⟨rfl,rfl⟩
  ·rw[show cI a l=false from by rw[←Bool.not_eq_true,fg];omega];go_enter func83,ntmps83;go_wp2;go_ret;exact⟨rfl,rfl⟩
 ·rw[show cI a l=false from by rw[←Bool.not_eq_true,fg];omega];go_enter func83,ntmps83;go_wp2;go_ret;exact⟨rfl,rfl⟩
theorem DS(a:Int)(w:World):Calls prog 114 #[.int .i64 a] w fun b c=>b=.returned (.bool (a==0))∧c=w:=by go_enter func114,ntmps114;go_wp2;go_ret;exact⟨rfl,rfl⟩
theorem DT(a:Int)(w:World):Calls prog 115 #[.int .i64 a] w fun b d=>b=.returned (.bool (ax a 0 999))∧d=w:=by
 by_cases c:0≤a
 ·by_cases h2:a≤999;·rw[fM c h2];go_enter func115,ntmps115;go_wp2;go_ret;exact⟨rfl,rfl⟩
  ·rw[ig (by omega)];go_enter func115,ntmps115;go_wp2;go_ret;exact⟨rfl,rfl⟩
 ·rw[ig (by omega)];go_enter func115,ntmps115;go_wp2;go_ret;exact⟨rfl,rfl⟩
theorem DU(a l:Int)(B:Nat)(w:World)(d:w.cell? ⟨B,1,none⟩=some (.int .i64 l)):Calls prog 116 #[.int .i64 a,.pointer (some ⟨B,0,none⟩)] w fun b c=>b=.returned (.bool (aX a l))∧c=w:=by go_enter func116,ntmps116;go_wp2_with(go_at_call 82;refine(dI _ _ _).mono ?_;rintro b c⟨rfl,rfl⟩);go_ret;exact⟨rfl,rfl⟩
theorem DV(a:Int)(B:Nat)(d:Option Addr)(n cap:Nat)(w:World)(e:w.cell? ⟨B,2,none⟩=some (.slice d n cap)):Calls prog 117 #[.int .i64 a,.pointer (some ⟨B,0,none⟩)] w fun b c=>b=.returned (.bool (aX a n))∧c=w:=by go_enter func117,ntmps117;go_wp2_with(go_at_call 82;refine(dI _ _ _).mono ?_;rintro b c⟨rfl,rfl⟩);go_ret;exact⟨rfl,rfl⟩
theorem DW(a:Int)(B:Nat)(d:Option Addr)(n cap:Nat)(w:World)(e:w.cell? ⟨B,0,none⟩=some (.slice d n cap))(f:aX a n=false):Calls prog 118 #[.int .i64 a,.pointer (some ⟨B,0,none⟩)] w fun b c=>b=.returned (.bool false)∧c=w:=by go_enter func118,ntmps118;go_wp2_with(go_at_call 82;refine(dI _ _ _).mono ?_;rintro b c⟨rfl,rfl⟩);go_ret;exact⟨rfl,rfl⟩
theorem DX(i B b o n cap:Nat)(d lo:Int)(e:Value)(w:World)(j:w.cell? ⟨B,0,none⟩=some (.slice (some ⟨b,o,none⟩) n cap))(l:i<n)(f:w.cell? ⟨b,o+i*3,none⟩=some (.int .i64 d))(g:w.cell? ⟨b,o+i*3+1,none⟩=some (.int .i64 lo))(h:w.cell? ⟨b,o+i*3+2,none⟩=some e):Calls prog 118 #[.int .i64 i,.pointer (some ⟨B,0,none⟩)] w fun a c=>a=.returned (.bool (cI d lo))∧J w c:=by have k:aX i n=true:=dV (by omega) (by omega);go_enter func118,ntmps118;go_wp2_with(first|(go_at_call 82;refine(dI _ _ _).mono ?_;rintro a c⟨rfl,rfl⟩)|(go_at_call 83;refine(qF _ _ _ _).mono ?_;rintro a c⟨rfl,rfl⟩));go_ret;exact⟨rfl,(J.refl _).alloc _⟩
theorem vj(p:List Fn)(v:Value)(a:Int)(B:Nat)(w:World)(f:w.cell? ⟨B,0,none⟩=some v)(o:aK w v p):Calls prog 118 #[.int .i64 a,.pointer (some ⟨B,0,none⟩)] w fun e g=>e=.returned (.bool (aX a p.length&&cI (p.getD a.toNat Fn.zero).args (p.getD a.toNat Fn.zero).locals))∧J w g:=by
 obtain⟨r,d,rfl,s,n⟩:=o;by_cases b:0≤a∧a<p.length;·obtain⟨c,rfl⟩:=Int.eq_ofNat_of_zero_le b.1;obtain⟨h,q,l,rfl,i,j,k,_⟩:=n c _ (aD p c Fn.zero (by omega));rw[Int.toNat_natCast,dV b.1 b.2,Bool.true_and];exact DX c B h q p.length d _ _ l w f (by omega) i j k
 ·rw[gQ b,Bool.false_and];exact(DW a B r p.length d w f (gQ b)).mono fun e g⟨m,h2⟩=>⟨m,h2▸J.refl _⟩
def da(b a:Nat):Value:=.agg #[.func (.func 114) #[] #[],.func (.func 115) #[] #[],.func (.func 116) #[] #[.pointer (some ⟨a,0,none⟩)],.func (.func 117) #[] #[.pointer (some ⟨a,0,none⟩)],.func (.func 118) #[] #[.pointer (some ⟨b,0,none⟩)]]
theorem yv(e:Option Addr)(n cap:Nat)(g lo:Int)(f:Option Addr)(m d:Nat)(w:World):Calls prog 84 #[.slice e n cap,.agg #[.int .i64 g,.int .i64 lo,.slice f m d]] w fun h a=>∃c b,h=.returned (da c b)∧a.cell? ⟨c,0,none⟩=some (.slice e n cap)∧a.cell? ⟨b,1,none⟩=some (.int .i64 lo)∧a.cell? ⟨b,2,none⟩=some (.slice f m d)∧J w a:=by
 go_enter func84,ntmps84;go_wp2;refine bodyPost_ret (v:=da w.heap.size (w.heap.size+1)) (by simp[results,results84,go_sem,da]) rfl ⟨w.heap.size,w.heap.size+1,rfl,?_,?_,?_,?_⟩;·exact ab (au (au (ah rfl) _) _) 0
 ·exact ab (au (ah (by simp)) _) 1
 ·exact ab (au (ah (by simp)) _) 2
 ·exact(((J.refl _).alloc _).alloc _).alloc _
