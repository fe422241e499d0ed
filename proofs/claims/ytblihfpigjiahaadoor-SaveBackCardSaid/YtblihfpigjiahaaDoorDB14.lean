/- StateTq, GoodA, GoodB, GoodC -/
import Derived.Test.YtblihfpigjiahaaDoorDB13
import Derived.Test.YtblihfpigjiahaaDoorDB11
set_option maxRecDepth 100000
set_option maxHeartbeats 8000000
namespace Go.Proofs.YtblihfpigjiahaaDoor
theorem Zaq {p:List Fn} {s:St} (h:Xi p s=0):Xd p=0∧Qn s=0∧Yb p s=true:=by
 unfold Xi at h
 split at h
 ·rename_i h1
  split at h
  ·rename_i h2
   split at h
   ·rename_i h3;exact ⟨h1,h2,h3⟩
   ·cases h
  ·rename_i h2;exact absurd h h2
 ·rename_i h1;exact absurd h h1
theorem Ziq {p:List Fn} {s:St} (h:Xi p s=0):∃ l,Qb s=some l∧∀ k,k<s.fibers.length→Qu p (Zc s k) (decide ((k:Int)∈l)) (decide ((k:Int)=s.now))=true:=by
 obtain ⟨_,_,h3⟩:=Zaq h
 unfold Yb at h3
 cases hl:Qb s with
 | none=>rw [hl] at h3;cases h3
 | some l =>
  rw [hl] at h3
  simp only [Bool.and_eq_true] at h3
  refine ⟨l,rfl,fun k hk=>?_⟩
  have:=Wm.1 h3.2 k hk
  simp only [Bool.and_eq_true] at this
  exact this.1
theorem Zkn {p:List Fn}:∀ (l:List Fr) (j:Nat),Qt p l=true→j+1<l.length→((l.getD j Fr.zero).stack.length:Int)=hAt p (l.getD j Fr.zero) - 1
 | [],j,_,hj=>by simp at hj
 | [x],j,_,hj=>by simp at hj
 | x :: y :: r,0,h,_=>by
  simp only [Qt,Bool.and_eq_true] at h
  obtain ⟨h1,_⟩:=h
  unfold Qi at h1
  simp only [Bool.and_eq_true,decide_eq_true_eq] at h1
  exact h1.1.2
 | x :: y :: r,j+1,h,hj=>by
  simp only [Qt,Bool.and_eq_true] at h
  exact Zkn (y :: r) j h.2 (by simpa using hj)
theorem Ph {p:List Fn} {x:Fr} (h:Zx p x=true):(0≤x.fn∧x.fn<p.length)∧(x.locals.length:Int)=(p.getD x.fn.toNat Fn.zero).locals∧(0≤x.at_∧x.at_<(Zw p x.fn.toNat).length)∧0≤hAt p x:=by
 unfold Zx at h
 simp only [Bool.and_eq_true,decide_eq_true_eq] at h
 obtain ⟨h1,h2,h3,h4⟩:=h
 exact ⟨Ji.1 h1,h2,Ji.1 h3,h4⟩
theorem Zly {p:List Fn} {s:St} (h:Xi p s=0) {k j:Nat} (hk:k<s.fibers.length) (hj:j<(Zc s k).frames.length) :
  Zx p (Ze s k j)=true∧(Ze s k j).stack.length≤8:=by
 obtain ⟨hp,_,_⟩:=Zaq h
 obtain ⟨l,_,hf⟩:=Ziq h
 have hfk:=hf k hk
 unfold Qu at hfk
 cases hlast:(Zc s k).frames.getLast? with
 | none =>
  have:=List.getLast?_eq_none_iff.1 hlast
  rw [this] at hj
  simp at hj
 | some t =>
  rw [hlast] at hfk
  simp only [Bool.and_eq_true] at hfk
  obtain ⟨hfr,hcond⟩:=hfk
  obtain ⟨hall,hjw⟩:=(Zdl p _).1 hfr
  have hfj:Zx p (Ze s k j)=true:=Pu hall hj
  refine ⟨hfj,?_⟩
  obtain ⟨⟨q1,q2⟩,_,_,q3⟩:=Ph hfj
  have hle:=(Zlh hp (k:=(Ze s k j).fn.toNat) (by omega) (Ze s k j).at_.toNat).2
  have hle':hAt p (Ze s k j)≤8:=hle
  by_cases hjl:j+1<(Zc s k).frames.length
  ·have:=Zkn _ j hjw hjl
   have h2:((Ze s k j).stack.length:Int)=hAt p (Ze s k j) - 1:=this
   omega
  ·have ht:t=Ze s k j:=by
    rw [List.getLast?_eq_getElem?] at hlast
    have hj2:j=(Zc s k).frames.length - 1:=by omega
    unfold Ze
    rw [hj2]
    simp [List.getD,hlast]
   subst ht
   split at hcond
   ·have:=of_decide_eq_true hcond;omega
   ·split at hcond
    ·unfold Jc at hcond
     simp only [Bool.and_eq_true,decide_eq_true_eq] at hcond
     have:=hcond.1.2
     omega
    ·simp only [Bool.and_eq_true,Bool.or_eq_true] at hcond
     rcases hcond.2 with h1 | h1
     ·unfold Jn at h1
      split at h1
      ·rename_i x hx
       simp only [Bool.and_eq_true,decide_eq_true_eq] at h1
       have:Ze s k j=x:=by unfold Ze;rw [hx] at hj ⊢;simp at hj;rw [hj];rfl
       rw [this,h1.1.2.2]
       omega
      ·cases h1
     ·unfold Jc at h1
      simp only [Bool.and_eq_true,decide_eq_true_eq] at h1
      have:=h1.1.2
      omega
def Yy (fs:List Fb):Int→List Int→Prop
 | n,[]=>n=-1
 | n,x :: r=>n=x∧0≤x∧x<fs.length∧Yy fs (Xo fs x) r
theorem Zjq {fs:List Fb} (hc:∀ b,b∈fs→-1≤b.caller∧b.caller<fs.length):∀ (k:Nat) (n:Int) (acc l:List Int),Xu fs k n acc=some l→-1≤n→n<fs.length→acc.Nodup→∃ r,l=acc++r∧Yy fs n r∧l.Nodup
 | 0,_,_,_,h,_,_,_=>by cases h
 | k+1,n,acc,l,h,h1,h2,hd=>by
  unfold Xu at h
  split at h
  ·obtain rfl:=Option.some.inj h
   exact ⟨[],by simp,by show n=-1;omega,hd⟩
  ·split at h
   ·cases h
   ·rename_i hn hna
    have hc':-1≤Xo fs n∧Xo fs n<fs.length:=hc _ (List.mem_of_getElem? (Zp fs n.toNat Fb.zero (by omega)))
    obtain ⟨r,e,hp,hl⟩:=Zjq hc k _ _ l h hc'.1 hc'.2 (by
     rw [List.nodup_append]
     refine ⟨hd,by simp,fun a ha b hb e=>?_⟩
     simp only [List.mem_singleton] at hb
     subst hb e
     exact hna ha)
    exact ⟨n :: r,by rw [e];simp,⟨rfl,by omega,h2,hp⟩,hl⟩
theorem Zle {fs:List Fb}:∀ (k:Nat) (n:Int) (acc r:List Int),Yy fs n r→(acc++r).Nodup→r.length<k→Xu fs k n acc=some (acc++r)
 | 0,_,_,_,_,_,h=>by omega
 | k+1,n,acc,[],hp,_,_=>by
  have:n=-1:=hp
  unfold Xu
  rw [if_pos (by omega)]
  simp
 | k+1,n,acc,x :: r,hp,hd,hk=>by
  obtain ⟨rfl,h0,_,hp'⟩:=hp
  have hna:n ∉ acc:=fun h=>(List.nodup_append.1 hd).2.2 n h n (by simp) rfl
  unfold Xu
  rw [if_neg (by omega),if_neg hna]
  have:=Zle k (Xo fs n) (acc++[n]) r hp' (by simpa using hd) (by simpa using hk)
  simpa using this
theorem Yy.inside {fs:List Fb}:∀ {n:Int} {l:List Int},Yy fs n l→∀ z,z∈l→0≤z∧z<fs.length
 | _,[],_,z,hz=>by cases hz
 | _,x :: r,⟨_,h0,h1,h2⟩,z,hz=>by
  rcases List.mem_cons.1 hz with rfl | hz
  ·exact ⟨h0,h1⟩
  ·exact h2.inside z hz
theorem Yy.congr {fs fs':List Fb} (hl:fs.length≤fs'.length):∀ {n:Int} {l:List Int},Yy fs n l→(∀ z,z∈l→Xo fs' z=Xo fs z)→Yy fs' n l
 | _,[],h,_=>h
 | _,x :: r,⟨h0,h1,h2,h3⟩,hc=>⟨h0,h1,by omega,by rw [hc x (by simp)];exact h3.congr hl (fun z hz=>hc z (List.mem_cons_of_mem _ hz))⟩
theorem Yy.range {fs:List Fb} {n:Int} {l:List Int} (h:Yy fs n l):-1≤n∧(n<fs.length∨n=-1):=by
 cases l with
 | nil=>have:n=-1:=h;omega
 | cons x r=>obtain ⟨rfl,h0,h1,_⟩:=h;omega
theorem Yy.next {fs:List Fb}:∀ {n:Int} {l:List Int},Yy fs n l→∀ z,z∈l→(Xo fs z=-1∧l.getLast?=some z)∨(Xo fs z∈l)
 | _,[],_,z,hz=>by cases hz
 | _,x :: r,⟨_,_,_,h3⟩,z,hz=>by
  rcases List.mem_cons.1 hz with rfl | hz
  ·cases r with
   | nil=>exact .inl ⟨h3,rfl⟩
   | cons y r'=>obtain ⟨h4,_⟩:=h3;right;rw [h4];simp
  ·rcases h3.next z hz with ⟨h4,h5⟩ | h4
   ·refine .inl ⟨h4,?_⟩
    cases r with
    | nil=>cases hz
    | cons y r'=>rw [List.getLast?_cons_cons];exact h5
   ·exact .inr (List.mem_cons_of_mem _ h4)
structure Xw (p:List Fn) (s:St) (l:List Int):Prop where
 prog:Xd p=0
 n5:s.fibers.length≤5
 o30:s.out.length≤30
 f6:∀ k,k<s.fibers.length→(Zc s k).frames.length≤6
 path:Yy s.fibers s.now l
 nodup:l.Nodup
 last:l=[]∨l.getLast?=some 0
 pos:0<s.fibers.length
 main:(0:Int) ∉ l→(Zc s 0).frames=[]
 each:∀ k,k<s.fibers.length→Qu p (Zc s k) (decide ((k:Int)∈l)) (decide ((k:Int)=s.now))=true
theorem Zdj {s:St} {b:Fb} (h:b∈s.fibers):∃ k,k<s.fibers.length∧Zc s k=b:=by
 obtain ⟨k,hk,rfl⟩:=List.getElem_of_mem h
 exact ⟨k,hk,by simp [Zc,List.getD,hk]⟩
theorem Zlg {p:List Fn} {s:St} (h:Xi p s=0):∃ l,Qb s=some l∧Xw p s l:=by
 obtain ⟨hp,hlim,hf⟩:=Zaq h
 obtain ⟨l,hl,hfib⟩:=Ziq h
 obtain ⟨h5,h30,h6,hpos,⟨hn1,hn2⟩,hcal⟩:=Zaz hlim
 have hl':=hl
 unfold Qb at hl'
 cases hlf:Xu s.fibers (s.fibers.length+1) s.now [] with
 | none=>rw [hlf] at hl';cases hl'
 | some l' =>
  rw [hlf] at hl'
  simp only at hl'
  split at hl'
  ·rename_i hlast
   obtain rfl:=Option.some.inj hl'
   obtain ⟨r,e,hpath,hnd⟩:=Zjq hcal _ _ _ _ hlf hn1 hn2 List.nodup_nil
   rw [List.nil_append] at e
   subst e
   refine ⟨_,hl,hp,h5,h30,fun k hk=>h6 _ (Zdt k hk),hpath,hnd,hlast,hpos,fun h0=>?_,hfib⟩
   unfold Yb at hf
   rw [hl] at hf
   simp only [Bool.and_eq_true] at hf
   have:=Wm.1 hf.2 0 hpos
   simp only [Bool.and_eq_true,decide_true,Bool.true_and] at this
   have h2:=this.2
   rw [decide_eq_false h0] at h2
   have h3:(s.fibers.getD 0 Fb.zero).frames.isEmpty=true:=by simpa using h2
   exact List.isEmpty_iff.1 h3
  ·cases hl'
theorem Zvx {p:List Fn} {b:Fb} {r:Bool} (h:Qu p b false r=true) (hr:r=false):b.caller=-1:=by
 subst hr
 unfold Qu at h
 split at h
 ·simpa using h
 ·simp only [Bool.and_eq_true,Bool.false_eq_true,if_false,decide_eq_true_eq] at h
  exact h.2.1
theorem Xw.head {p:List Fn} {s:St} {l:List Int} (h:Xw p s l) (hn:0≤s.now):∃ r,l=s.now :: r:=by
 have hp:=h.path
 cases l with
 | nil=>have:s.now=-1:=hp;omega
 | cons x r=>obtain ⟨h1,_⟩:=hp;exact ⟨r,by rw [h1]⟩
theorem Xw.now_mem {p:List Fn} {s:St} {l:List Int} (h:Xw p s l) (hn:0≤s.now):s.now∈l:=by
 obtain ⟨r,rfl⟩:=h.head hn;simp
theorem Xw.off {p:List Fn} {s:St} {l:List Int} (h:Xw p s l) {k:Nat} (hk:k<s.fibers.length) (hm:(k:Int) ∉ l):(Zc s k).caller=-1:=by
 have:=h.each k hk
 rw [decide_eq_false hm] at this
 refine Zvx this (decide_eq_false fun e=>hm ?_)
 rw [e];exact h.now_mem (by omega)
theorem Xw.caller {p:List Fn} {s:St} {l:List Int} (h:Xw p s l) {k:Nat} (hk:k<s.fibers.length):-1≤(Zc s k).caller∧(Zc s k).caller<s.fibers.length:=by
 by_cases hm:(k:Int)∈l
 ·rcases h.path.next _ hm with ⟨e,_⟩ | e
  ·have:(Zc s k).caller=-1:=e
   omega
  ·have h1:=h.path.inside _ e
   have:Xo s.fibers (k:Int)=(Zc s k).caller:=rfl
   omega
 ·have:=h.off hk hm
  omega
theorem Xw.line {p:List Fn} {s:St} {l:List Int} (h:Xw p s l):Xu s.fibers (s.fibers.length+1) s.now []=some l∧Qb s=some l:=by
 have hlen:l.length≤s.fibers.length:=few h.nodup h.path.inside
 have h1:Xu s.fibers (s.fibers.length+1) s.now []=some l:=by
  have:=Zle (fs:=s.fibers) (s.fibers.length+1) s.now [] l h.path (by simpa using h.nodup) (by omega)
  simpa using this
 refine ⟨h1,?_⟩
 unfold Qb
 rw [h1]
 simp only
 rw [if_pos h.last]
theorem Xw.lim {p:List Fn} {s:St} {l:List Int} (h:Xw p s l):Qn s=0:=by
 have hr:=h.path.range
 unfold Qn
 rw [if_pos ⟨h.n5,h.o30⟩,if_pos,if_pos h.pos,if_pos,if_pos]
 ·rw [List.all_eq_true]
  intro b hb
  obtain ⟨k,hk,rfl⟩:=Zdj hb
  have:=h.caller hk
  rw [Pz];omega
 ·rw [Pz]
  have:=h.pos
  rcases hr.2 with h1 | h1 <;> omega
 ·rw [List.all_eq_true]
  intro b hb
  obtain ⟨k,hk,rfl⟩:=Zdj hb
  exact decide_eq_true (h.f6 k hk)
theorem Zts {p:List Fn} {s:St} {l:List Int} (h:Xw p s l):Xi p s=0:=by
 unfold Xi
 rw [if_pos h.prog,if_pos h.lim,if_pos]
 unfold Yb
 rw [h.line.2]
 simp only [Bool.and_eq_true]
 have hmain:(0:Int) ∉ l→(s.fibers.getD 0 Fb.zero).frames.isEmpty=true:=fun h0=>List.isEmpty_iff.2 (h.main h0)
 constructor
 ·by_cases hn:s.now=-1
  ·have:l=[]:=by
    have hp:=h.path
    cases l with
    | nil=>rfl
    | cons x r=>obtain ⟨h1,h2,_⟩:=hp;omega
   rw [hmain (by rw [this];simp)]
   simp
  ·rw [decide_eq_false hn];rfl
 ·rw [Wm]
  intro k hk
  simp only [Bool.and_eq_true]
  refine ⟨h.each k hk,?_⟩
  by_cases h0:k=0
  ·by_cases hm:(0:Int)∈l
   ·rw [decide_eq_true hm];simp
   ·rw [hmain hm];simp
  ·rw [decide_eq_false h0];rfl
theorem Zcq {p:List Fn}:∀ (l:List Fr) (u t:Fr),Qt p (l++[u,t])=(Qt p (l++[u]) && Qi p u (11,t.fn))
 | [],u,t=>by simp [Qt]
 | [x],u,t=>by simp [Qt]
 | x :: y :: l,u,t=>by
  have:=Zcq (p:=p) (y :: l) u t
  simp only [List.cons_append,Qt] at this ⊢
  rw [this,Bool.and_assoc]
theorem Znw {p:List Fn} (l:List Fr) (t t':Fr) (h:t'.fn=t.fn):Qt p (l++[t'])=Qt p (l++[t]):=by
 rcases List.eq_nil_or_concat l with rfl | ⟨l',u,rfl⟩
 ·rfl
 ·simp only [List.concat_eq_append,List.append_assoc,List.cons_append,List.nil_append]
  rw [Zcq,Zcq,h]
def Jq (p:List Fn) (fs:List Fr) (t:Fr):Prop:=(∀ f,f∈fs→Zx p f=true)∧Zx p t=true∧Qt p (fs++[t])=true
theorem Jq.bool {p:List Fn} {fs:List Fr} {t:Fr}:Wq p (fs++[t])=true↔Jq p fs t:=by
 rw [Zdl]
 unfold Jq
 simp only [List.all_append,List.all_cons,List.all_nil,Bool.and_true,Bool.and_eq_true,List.all_eq_true]
 exact and_assoc
theorem Jq.turn {p:List Fn} {fs:List Fr} {t t':Fr} (h:Jq p fs t) (ht:Zx p t'=true) (hf:t'.fn=t.fn):Jq p fs t':=⟨h.1,ht,by rw [Znw _ _ _ hf];exact h.2.2⟩
theorem Jq.push {p:List Fn} {fs:List Fr} {t u:Fr} (h:Jq p fs t) (hw:Qi p t (11,u.fn)=true) (hu:Zx p u=true):Jq p (fs++[t]) u:=by
 refine ⟨fun f hf=>?_,hu,?_⟩
 ·rcases List.mem_append.1 hf with hf | hf
  ·exact h.1 f hf
  ·rw [List.mem_singleton.1 hf];exact h.2.1
 ·rw [List.append_assoc]
  show Qt p (fs++[t,u])=true
  rw [Zcq,h.2.2,hw];rfl
theorem Jq.pop {p:List Fn} {fs:List Fr} {t u:Fr} (h:Jq p (fs++[t]) u):Jq p fs t∧Qi p t (11,u.fn)=true:=by
 obtain ⟨h1,_,h3⟩:=h
 rw [List.append_assoc] at h3
 have h3':Qt p (fs++[t,u])=true:=h3
 rw [Zcq,Bool.and_eq_true] at h3'
 exact ⟨⟨fun f hf=>h1 f (by simp [hf]),h1 t (by simp),h3'.1⟩,h3'.2⟩
theorem Pf {p:List Fn} {fs:List Fr} {t:Fr} {c:Int} {on runs:Bool}:Qu p ⟨fs++[t],c⟩ on runs=true↔Jq p fs t ∧
  (if runs=true then (t.stack.length:Int)=hAt p t else if on=true then Jc p t 14 0=true else c=-1∧(Jn p ⟨fs++[t],c⟩=true∨Jc p t 15 0=true)):=by
 unfold Qu
 simp only [List.getLast?_append,List.getLast?_singleton,Option.some_or,Bool.and_eq_true,Jq.bool]
 cases runs <;> cases on <;> simp
theorem Zig {p:List Fn} {c:Int} {on runs:Bool}:Qu p ⟨[],c⟩ on runs=true↔on=false∧c=-1:=by
 unfold Qu
 simp
theorem Fb.form (b:Fb):b=⟨[],b.caller⟩∨∃ fs t,b=⟨fs++[t],b.caller⟩:=by
 rcases List.eq_nil_or_concat b.frames with h | ⟨fs,t,h⟩
 ·left;rw [← h]
 ·right;exact ⟨fs,t,by rw [List.concat_eq_append] at h;rw [← h]⟩
theorem Xw.on {p:List Fn} {s:St} {l:List Int} (h:Xw p s l) {k:Nat} (hk:(k:Int)∈l):∃ fs t,Zc s k=⟨fs++[t],(Zc s k).caller⟩:=by
 rcases Fb.form (Zc s k) with e | e
 ·have:=h.each k (by have:=h.path.inside _ hk;omega)
  rw [e,Zig,decide_eq_true hk] at this
  cases this.1
 ·exact e
end Go.Proofs.YtblihfpigjiahaaDoor
namespace Go.Proofs.YtblihfpigjiahaaDoor
theorem Jm (s:St) (n:Nat) (a b:Fb):Zg (Zg s n a) n b=Zg s n b:=by simp [Zg]
structure Yq (s:St) (n:Nat) (fs:List Fr) (t:Fr) (c:Int):Prop where
 lt:n<s.fibers.length
 eq:Zc s n=⟨fs++[t],c⟩
theorem Yq.set {s:St} {n:Nat} {fs:List Fr} {t:Fr} {c:Int} (h:Yq s n fs t c) (gs:List Fr) (u:Fr) (d:Int):Yq (Zg s n ⟨gs++[u],d⟩) n gs u d :=
 ⟨by rw [Xb];exact h.lt,Qa _ h.lt⟩
theorem Zcb {s:St} {n:Nat} {fs:List Fr} {t:Fr} {c:Int} (h:Yq s n fs t c) (g:Fr→Fr):s.turnTop (n:Int) g=Zg s n ⟨fs++[g t],c⟩:=by
 unfold St.turnTop
 rw [Ug,h.eq]
 unfold Fb.turnTop Fb.top
 simp
theorem Zbd {s:St} {n:Nat} {fs:List Fr} {t:Fr} {c:Int} (h:Yq s n fs t c) (hn:s.now=n):s.top=t:=by
 unfold St.top
 rw [hn,Yw,h.eq]
 simp [Fb.top]
def Fr.stk (t:Fr) (l:List Int):Fr:=⟨t.fn,t.at_,t.locals,l⟩
theorem Zai {s:St} {n:Nat} {fs:List Fr} {t:Fr} {c:Int} (h:Yq s n fs t c) (v:Int):Xz s n v=Zg s n ⟨fs++[t.stk (t.stack++[v])],c⟩:=Zcb h _
theorem Pb {s:St} {n:Nat} {fs:List Fr} {t:Fr} {c:Int} (h:Yq s n fs t c) (hn:s.now=n):Zh s=Zg s n ⟨fs++[t.stk t.stack.dropLast],c⟩:=by
 unfold Zh;rw [hn,Zcb h];rfl
theorem Zfp {s:St} {n:Nat} {fs:List Fr} {t:Fr} {c:Int} (h:Yq s n fs t c) (hn:s.now=n) (a:Int):Yg s a=Zg s n ⟨fs++[{ t with at_:=a }],c⟩:=by
 unfold Yg;rw [hn,Zcb h]
theorem Zbh {s:St} {n:Nat} {fs:List Fr} {t:Fr} {c:Int} (h:Yq s n fs t c) (hn:s.now=n):Zu s=t.stack.getLast?.getD 0:=by
 unfold Zu;rw [Zbd h hn]
structure Op (p:List Fn) (s:St) (n:Nat) (fs:List Fr) (t:Fr) (c:Int) (kd a:Int):Prop where
 tops:Yq s n fs t c
 now:s.now=n
 op:(Zw p t.fn.toNat).getD t.at_.toNat (0,0)=(kd,a)
def Fr.on (t:Fr):Fr:=⟨t.fn,t.at_+1,t.locals,t.stack⟩
section
variable {p:List Fn} {s:St} {n:Nat} {fs:List Fr} {t:Fr} {c:Int} {kd a:Int}
theorem Op.next (h:Op p s n fs t c kd a):Yg s (s.top.at_+1)=Zg s n ⟨fs++[t.on],c⟩:=by
 rw [Zfp h.tops h.now,Zbd h.tops h.now];rfl
theorem Pg (h:Op p s n fs t c kd a) {s1:St} (h1:Zg s n ⟨fs++[t.on],c⟩=s1):Xf p s =
  (if kd=0 then (Xz s1 n a,0)
   else if kd=1 then (Zh s1,0)
   else if kd=2 then (Xz s1 n (t.locals.getD a.toNat 0),0)
   else if kd=3 then ((Zh s1).turnTop n fun f=>{ f with locals:=f.locals.set a.toNat (Zu s1) },0)
   else if kd=9 then (Yg s1 a,0)
   else if kd=10 then (if Zu s1=0 then Yg (Zh s1) a else Zh s1,0)
   else if kd=11 then Ux p s1 a
   else if kd=12 then Wl s1
   else if kd=13 then Wy p s1 a
   else if kd=14 then Uh s1
   else if kd=15 then Ub s1
   else if kd=16 then Jl (Zh s1) (Zu s1)
   else (Xz (Zh (Zh s1)) n (Zah kd (Zu (Zh s1)) (Zu s1)),0)):=by
 have ht:s.top=t:=Zbd h.tops h.now
 have hnow:s1.now=n:=by rw [← h1];exact h.now
 have htop:s1.top=t.on:=by rw [← h1];exact Zbd (h.tops.set fs t.on c) h.now
 unfold Xf
 simp only
 rw [h.next,ht,h.op,h1]
 simp only [hnow,htop]
 rfl
theorem Zyf (h:Op p s n fs t c kd a) (h0:0≤kd) (h10:kd≤10) {ta lb:Int} (he:Qj p kd a=(ta,lb,0)) (hst:ta≤t.stack.length) (hat:0≤t.at_) (ha:kd=9∨kd=10→0≤a) :
  ∃ t' j,Xf p s=(Zg s n ⟨fs++[t'],c⟩,0)∧t'.fn=t.fn∧t'.locals.length=t.locals.length∧(t'.stack.length:Int)=t.stack.length - ta+lb∧j∈nexts (kd,a) t.at_.toNat∧t'.at_=(j:Int):=by
 have hT:=h.tops.set fs t.on c
 have hN:(Zg s n ⟨fs++[t.on],c⟩).now=n:=h.now
 have hat':t.on.at_=((t.at_.toNat+1:Nat):Int):=by show t.at_+1=_;omega
 have hP:=Pb hT hN
 have hT2:=hT.set fs (t.on.stk (t.on.stack.dropLast)) c
 rw [← hP] at hT2
 have hN2:(Zh (Zg s n ⟨fs++[t.on],c⟩)).now=n:=by rw [hP];exact h.now
 rw [Pg h rfl]
 have hstk:t.on.stack=t.stack:=rfl
 have hloc:t.on.locals=t.locals:=rfl
 have heff:kd≠11→ta=tk kd.toNat∧lb=lv kd.toNat:=fun hk=>by
  unfold Qj at he
  rw [if_pos (by omega),if_neg hk] at he
  simp only [Prod.mk.injEq] at he
  exact ⟨he.1.symm,he.2.1.symm⟩
 obtain ⟨hta,hlb⟩:=heff (by omega)
 have hnext:kd≠9→kd≠10→nexts (kd,a) t.at_.toNat=[t.at_.toNat+1]:=fun h1 h2=>by
  unfold nexts;simp only;rw [if_neg (by omega),if_neg h1,if_neg h2]
 by_cases k0:kd=0
 ·subst k0
  rw [if_pos rfl,Zai hT,Jm]
  refine ⟨_,_,rfl,rfl,rfl,?_,by rw [hnext (by omega) (by omega)];exact List.mem_singleton.2 rfl,hat'⟩
  have h1:ta=0:=hta
  have h2:lb=1:=hlb
  simp only [Fr.stk,List.length_append,List.length_singleton,hstk];omega
 rw [if_neg k0]
 by_cases k1:kd=1
 ·subst k1
  rw [if_pos rfl,hP,Jm]
  refine ⟨_,_,rfl,rfl,rfl,?_,by rw [hnext (by omega) (by omega)];exact List.mem_singleton.2 rfl,hat'⟩
  have h1:ta=1:=hta
  have h2:lb=0:=hlb
  simp only [Fr.stk,List.length_dropLast,hstk];omega
 rw [if_neg k1]
 by_cases k2:kd=2
 ·subst k2
  rw [if_pos rfl,Zai hT,Jm]
  refine ⟨_,_,rfl,rfl,rfl,?_,by rw [hnext (by omega) (by omega)];exact List.mem_singleton.2 rfl,hat'⟩
  have h1:ta=0:=hta
  have h2:lb=1:=hlb
  simp only [Fr.stk,List.length_append,List.length_singleton,hstk];omega
 rw [if_neg k2]
 by_cases k3:kd=3
 ·subst k3
  rw [if_pos rfl,Zcb hT2,hP,Jm,Jm]
  refine ⟨_,_,rfl,rfl,by simp [Fr.stk,hloc],?_,by rw [hnext (by omega) (by omega)];exact List.mem_singleton.2 rfl,hat'⟩
  have h1:ta=1:=hta
  have h2:lb=0:=hlb
  simp only [Fr.stk,List.length_dropLast,hstk];omega
 rw [if_neg k3]
 by_cases k9:kd=9
 ·subst k9
  rw [if_pos rfl,Zfp hT hN,Jm]
  have h1:ta=0:=hta
  have h2:lb=0:=hlb
  have:=ha (.inl rfl)
  refine ⟨_,a.toNat,rfl,rfl,rfl,?_,by simp [nexts],by show a=_;omega⟩
  simp only [hstk];omega
 rw [if_neg k9]
 by_cases k10:kd=10
 ·subst k10
  have h1:ta=1:=hta
  have h2:lb=0:=hlb
  have:=ha (.inr rfl)
  rw [if_pos rfl]
  split
  ·rw [Zfp hT2 hN2,hP,Jm,Jm]
   refine ⟨_,a.toNat,rfl,rfl,rfl,?_,by simp [nexts],by show a=_;omega⟩
   simp only [Fr.stk,List.length_dropLast,hstk];omega
  ·rw [hP,Jm]
   refine ⟨_,t.at_.toNat+1,rfl,rfl,rfl,?_,by simp [nexts],hat'⟩
   simp only [Fr.stk,List.length_dropLast,hstk];omega
 rw [if_neg k10,if_neg (by omega),if_neg (by omega),if_neg (by omega),if_neg (by omega),if_neg (by omega),if_neg (by omega)]
 have hP2:=Pb hT2 hN2
 have hT3:=hT2.set fs ((t.on.stk t.on.stack.dropLast).stk (t.on.stk t.on.stack.dropLast).stack.dropLast) c
 rw [← hP2] at hT3
 rw [Zai hT3,hP2,hP]
 simp only [Jm]
 refine ⟨_,_,rfl,rfl,rfl,?_,by rw [hnext k9 k10];exact List.mem_singleton.2 rfl,hat'⟩
 have h3:ta=2∧lb=1:=by
  have:kd=4∨kd=5∨kd=6∨kd=7∨kd=8:=by omega
  rcases this with rfl | rfl | rfl | rfl | rfl <;> exact ⟨hta,hlb⟩
 simp only [Fr.stk,List.length_append,List.length_singleton,List.length_dropLast,hstk];omega
theorem Znt (h:Op p s n fs t c 11 a):Xf p s=if fs.length+1=6 then (St.zero,2) else
  (Zg s n ⟨fs++[(t.on.stk (t.stack.take (t.stack.length - (p.getD a.toNat Fn.zero).args.toNat)))]++[Yh p a (t.stack.drop (t.stack.length - (p.getD a.toNat Fn.zero).args.toNat))],c⟩,0):=by
 have hT:=h.tops.set fs t.on c
 have hN:(Zg s n ⟨fs++[t.on],c⟩).now=n:=h.now
 rw [Pg h rfl]
 simp only [show ¬ ((11:Int)=0) by omega,show ¬ ((11:Int)=1) by omega,show ¬ ((11:Int)=2) by omega,show ¬ ((11:Int)=3) by omega,show ¬ ((11:Int)=9) by omega,show ¬ ((11:Int)=10) by omega,if_false,if_true]
 unfold Ux
 simp only [hN,Zbd hT hN,Zcb hT,Yw,Ug]
 rw [Jm,Qa _ h.tops.lt]
 simp only [List.length_append,List.length_singleton]
 split
 ·rfl
 ·rw [Jm];rfl
theorem Zdk {l:List Int} (h:0<l.length):∃ st v,l=st++[v]:=by
 rcases List.eq_nil_or_concat l with rfl | ⟨st,v,e⟩
 ·simp at h
 ·exact ⟨st,v,by rw [e,List.concat_eq_append]⟩
theorem Zvb {l:List Int} (h:2≤l.length):∃ st x v,l=st++[x,v]:=by
 obtain ⟨st,v,rfl⟩:=Zdk (l:=l) (by omega)
 simp only [List.length_append,List.length_singleton] at h
 obtain ⟨st',x,rfl⟩:=Zdk (l:=st) (by omega)
 exact ⟨st',x,v,by simp⟩
theorem Zra {gs:List Fr} {u:Fr} (h:Op p s n (gs++[u]) t c 12 a) {st:List Int} {v:Int} (hst:t.stack=st++[v]):Xf p s=(Zg s n ⟨gs++[(u.stk (u.stack++[v]))],c⟩,0):=by
 have hT:=h.tops.set (gs++[u]) t.on c
 have hN:(Zg s n ⟨gs++[u]++[t.on],c⟩).now=n:=h.now
 have hv:t.on.stack=st++[v]:=hst
 rw [Pg h rfl]
 simp only [show ¬ ((12:Int)=0) by omega,show ¬ ((12:Int)=1) by omega,show ¬ ((12:Int)=2) by omega,show ¬ ((12:Int)=3) by omega,show ¬ ((12:Int)=9) by omega,show ¬ ((12:Int)=10) by omega,show ¬ ((12:Int)=11) by omega,if_false,if_true]
 unfold Wl
 simp only [hN,Zbh hT hN,Pb hT hN,Yw,Ug,hv,List.getLast?_append,List.getLast?_singleton,Option.some_or,Option.getD_some]
 simp only [Jm,Qa _ h.tops.lt]
 simp only [List.dropLast_concat]
 rw [if_neg (by simp)]
 have hT2:=h.tops.set gs u c
 rw [Zai hT2,Jm]
theorem Zyv (h:Op p s n [] t c 12 a) {st:List Int} {v:Int} (hst:t.stack=st++[v]) (hc:c<0):Xf p s=Jl { Zg s n ⟨[],c⟩ with now:=-1 } v:=by
 have hT:=h.tops.set [] t.on c
 have hN:(Zg s n ⟨[]++[t.on],c⟩).now=n:=h.now
 have hv:t.on.stack=st++[v]:=hst
 rw [Pg h rfl]
 simp only [show ¬ ((12:Int)=0) by omega,show ¬ ((12:Int)=1) by omega,show ¬ ((12:Int)=2) by omega,show ¬ ((12:Int)=3) by omega,show ¬ ((12:Int)=9) by omega,show ¬ ((12:Int)=10) by omega,show ¬ ((12:Int)=11) by omega,if_false,if_true]
 unfold Wl
 simp only [hN,Zbh hT hN,Pb hT hN,Yw,Ug,hv,List.getLast?_append,List.getLast?_singleton,Option.some_or,Option.getD_some]
 simp only [Jm,Qa _ h.tops.lt]
 simp [hc]
theorem Zkh {s:St} {n m:Nat} (hne:n≠m) (b:Fb):Zc (Zg s n b) m=Zc s m:=Qs b hne
theorem Zqu (h:Op p s n [] t c 12 a) {st:List Int} {v:Int} (hst:t.stack=st++[v]) {m:Nat} (hc:c=m) (hne:n≠m) {gs:List Fr} {u:Fr} {d:Int} (hm:Yq s m gs u d) :
  Xf p s=({ Zg (Zg s n ⟨[],-1⟩) m ⟨gs++[(u.stk (u.stack++[v]))],d⟩ with now:=m },0):=by
 have hT:=h.tops.set [] t.on c
 have hN:(Zg s n ⟨[]++[t.on],c⟩).now=n:=h.now
 have hv:t.on.stack=st++[v]:=hst
 rw [Pg h rfl]
 simp only [show ¬ ((12:Int)=0) by omega,show ¬ ((12:Int)=1) by omega,show ¬ ((12:Int)=2) by omega,show ¬ ((12:Int)=3) by omega,show ¬ ((12:Int)=9) by omega,show ¬ ((12:Int)=10) by omega,show ¬ ((12:Int)=11) by omega,if_false,if_true]
 unfold Wl
 simp only [hN,Zbh hT hN,Pb hT hN,Yw,Ug,hv,List.getLast?_append,List.getLast?_singleton,Option.some_or,Option.getD_some]
 simp only [Jm,Qa _ h.tops.lt]
 rw [if_pos (by simp),if_neg (by omega)]
 simp only [hc]
 have hT2:Yq { Zg s n ⟨[],-1⟩ with now:=(m:Int) } m gs u d:=⟨by show m<(Zg s n ⟨[],-1⟩).fibers.length;rw [Xb];exact hm.lt,(Zkh hne _).trans hm.eq⟩
 have:=Zai hT2 v
 simp only [List.nil_append,List.dropLast_singleton] at this ⊢
 rw [this]
 rfl
theorem Zug (h:Op p s n fs t c 13 a):Xf p s=if s.fibers.length=5 then (St.zero,2) else
  ({ s with fibers:=(Zg s n ⟨fs++[(t.on.stk (t.stack++[(s.fibers.length:Int)]))],c⟩).fibers++[⟨[Yh p a []],-1⟩] },0):=by
 have hT:=h.tops.set fs t.on c
 have hN:(Zg s n ⟨fs++[t.on],c⟩).now=n:=h.now
 rw [Pg h rfl]
 simp only [show ¬ ((13:Int)=0) by omega,show ¬ ((13:Int)=1) by omega,show ¬ ((13:Int)=2) by omega,show ¬ ((13:Int)=3) by omega,show ¬ ((13:Int)=9) by omega,show ¬ ((13:Int)=10) by omega,show ¬ ((13:Int)=11) by omega,show ¬ ((13:Int)=12) by omega,if_false,if_true]
 unfold Wy
 rw [hN,Xb,Zai hT,Jm]
 rfl
theorem Zuo (h:Op p s n fs t c 15 a) (hc:c<0):Xf p s=(St.zero,7):=by
 have hT:=h.tops.set fs t.on c
 have hN:(Zg s n ⟨fs++[t.on],c⟩).now=n:=h.now
 rw [Pg h rfl]
 simp only [show ¬ ((15:Int)=0) by omega,show ¬ ((15:Int)=1) by omega,show ¬ ((15:Int)=2) by omega,show ¬ ((15:Int)=3) by omega,show ¬ ((15:Int)=9) by omega,show ¬ ((15:Int)=10) by omega,show ¬ ((15:Int)=11) by omega,show ¬ ((15:Int)=12) by omega,show ¬ ((15:Int)=13) by omega,show ¬ ((15:Int)=14) by omega,if_false,if_true]
 unfold Ub
 simp only [hN,Pb hT hN,Yw]
 rw [Jm,Qa _ h.tops.lt,if_pos hc]
theorem Zqh (h:Op p s n fs t c 15 a) {st:List Int} {v:Int} (hst:t.stack=st++[v]) {m:Nat} (hc:c=m) (hne:n≠m) {gs:List Fr} {u:Fr} {d:Int} (hm:Yq s m gs u d) :
  Xf p s=({ Zg (Zg s n ⟨fs++[(t.on.stk (st))],-1⟩) m ⟨gs++[(u.stk (u.stack++[v]))],d⟩ with now:=m },0):=by
 have hT:=h.tops.set fs t.on c
 have hN:(Zg s n ⟨fs++[t.on],c⟩).now=n:=h.now
 have hv:t.on.stack=st++[v]:=hst
 rw [Pg h rfl]
 simp only [show ¬ ((15:Int)=0) by omega,show ¬ ((15:Int)=1) by omega,show ¬ ((15:Int)=2) by omega,show ¬ ((15:Int)=3) by omega,show ¬ ((15:Int)=9) by omega,show ¬ ((15:Int)=10) by omega,show ¬ ((15:Int)=11) by omega,show ¬ ((15:Int)=12) by omega,show ¬ ((15:Int)=13) by omega,show ¬ ((15:Int)=14) by omega,if_false,if_true]
 unfold Ub
 simp only [hN,Zbh hT hN,Pb hT hN,Yw,Ug,hv,List.getLast?_append,List.getLast?_singleton,Option.some_or,Option.getD_some,List.dropLast_concat]
 simp only [Jm,Qa _ h.tops.lt]
 rw [if_neg (by omega)]
 simp only [hc]
 have hT2:Yq { Zg s n ⟨fs++[(t.on.stk (st))],-1⟩ with now:=(m:Int) } m gs u d:=⟨by show m<(Zg s n _).fibers.length;rw [Xb];exact hm.lt,(Zkh hne _).trans hm.eq⟩
 have:=Zai hT2 v
 rw [this]
 rfl
theorem Zno (h:Op p s n fs t c 16 a) {st:List Int} {v:Int} (hst:t.stack=st++[v]):Xf p s=Jl (Zg s n ⟨fs++[(t.on.stk (st))],c⟩) v:=by
 have hT:=h.tops.set fs t.on c
 have hN:(Zg s n ⟨fs++[t.on],c⟩).now=n:=h.now
 have hv:t.on.stack=st++[v]:=hst
 rw [Pg h rfl]
 simp only [show ¬ ((16:Int)=0) by omega,show ¬ ((16:Int)=1) by omega,show ¬ ((16:Int)=2) by omega,show ¬ ((16:Int)=3) by omega,show ¬ ((16:Int)=9) by omega,show ¬ ((16:Int)=10) by omega,show ¬ ((16:Int)=11) by omega,show ¬ ((16:Int)=12) by omega,show ¬ ((16:Int)=13) by omega,show ¬ ((16:Int)=14) by omega,show ¬ ((16:Int)=15) by omega,if_false,if_true]
 rw [Zbh hT hN,Pb hT hN,Jm,hv]
 simp
def Fr.got (u:Fr) (v:Int):Fr:=if u.at_=0 then ⟨u.fn,u.at_,u.locals.set 0 v,u.stack⟩ else u.stk (u.stack++[v])
theorem Zyz (h:Op p s n fs t c 14 a) {st:List Int} {x v:Int} (hst:t.stack=st++[x,v]) :
  Xf p s=if ixB x s.fibers.length=true then (if x∈(Xu s.fibers (s.fibers.length+1) s.now []).getD []∨(Zc (Zg s n ⟨fs++[(t.on.stk (st))],c⟩) x.toNat).frames=[] then (St.zero,6) else
   ({ (Zg (Zg s n ⟨fs++[(t.on.stk (st))],c⟩) x.toNat ((⟨(Zc (Zg s n ⟨fs++[(t.on.stk (st))],c⟩) x.toNat).frames,n⟩:Fb).turnTop fun u=>u.got v)) with now:=x },0)) else (St.zero,5):=by
 have hT:=h.tops.set fs t.on c
 have hN:(Zg s n ⟨fs++[t.on],c⟩).now=n:=h.now
 have hv:t.on.stack=st++[x,v]:=hst
 have hd:(st++[x,v]).dropLast=st++[x]:=by
  have:st++[x,v]=(st++[x])++[v]:=by simp
  rw [this,List.dropLast_concat]
 have hP:=Pb hT hN
 rw [Jm,hv,hd] at hP
 have hT2:Yq (Zh (Zg s n ⟨fs++[t.on],c⟩)) n fs (t.on.stk (st++[x])) c:=by rw [hP];exact h.tops.set _ _ _
 have hN2:(Zh (Zg s n ⟨fs++[t.on],c⟩)).now=n:=by rw [hP];exact h.now
 have hP2:=Pb hT2 hN2
 rw [hP,Jm,show (t.on.stk (st++[x])).stack.dropLast=st from List.dropLast_concat,show (t.on.stk (st++[x])).stk st=t.on.stk st from rfl] at hP2
 rw [Pg h rfl]
 simp only [show ¬ ((14:Int)=0) by omega,show ¬ ((14:Int)=1) by omega,show ¬ ((14:Int)=2) by omega,show ¬ ((14:Int)=3) by omega,show ¬ ((14:Int)=9) by omega,show ¬ ((14:Int)=10) by omega,show ¬ ((14:Int)=11) by omega,show ¬ ((14:Int)=12) by omega,show ¬ ((14:Int)=13) by omega,if_false,if_true]
 unfold Uh
 have hl1:Zu (Zg s n ⟨fs++[t.on],c⟩)=v:=by rw [Zbh hT hN,hv];simp
 have hl2:Zu (Zh (Zg s n ⟨fs++[t.on],c⟩))=x:=by rw [Zbh hT2 hN2,show (t.on.stk (st++[x])).stack=st++[x] from rfl];simp
 simp only [hl1,hl2]
 rw [hP,hP2]
 have hline:∀ k z acc,Xu (Zg s n ⟨fs++[(t.on.stk (st))],c⟩).fibers k z acc=Xu s.fibers k z acc:=fun k z acc=>Zej (fun y=>by
  show (Zc (Zg s n _) y.toNat).caller=(Zc s y.toNat).caller
  by_cases e:n=y.toNat
  ·rw [← e,Qa _ h.tops.lt,h.tops.eq]
  ·rw [Qs _ e]) k z acc
 have hnow:(Zg s n ⟨fs++[(t.on.stk (st))],c⟩).now=s.now:=rfl
 rw [hline,hnow,Xb]
 generalize hs1:Zg s n ⟨fs++[(t.on.stk (st))],c⟩=s1
 have hs1n:s1.now=n:=by rw [← hs1];exact h.now
 split
 ·rename_i hix
  obtain ⟨hx0,hx1⟩:=Ji.1 hix
  obtain ⟨m,rfl⟩:∃ m:Nat,x=m:=⟨x.toNat,by omega⟩
  simp only [Yw,Int.toNat_natCast]
  split
  ·rfl
  ·rename_i hne
   simp only [Ug]
   have hfr:(Zc s1 m).frames≠[]:=fun e=>hne (.inr e)
   obtain ⟨gs,u,hgu⟩:∃ gs u,(Zc s1 m).frames=gs++[u]:=by
    rcases List.eq_nil_or_concat (Zc s1 m).frames with e | ⟨gs,u,e⟩
    ·exact absurd e hfr
    ·exact ⟨gs,u,by rw [e,List.concat_eq_append]⟩
   have hml:m<s1.fibers.length:=by rw [← hs1,Xb];omega
   have hT3:Yq { Zg s1 m { Zc s1 m with caller:=s.now } with now:=(m:Int) } m gs u s.now:=⟨by show m<(Zg s1 m _).fibers.length;rw [Xb];exact hml,by
    show Zc (Zg s1 m _) m=_
    rw [Qa _ hml,← hgu]⟩
   rw [Zbd hT3 rfl,Zcb hT3,Zai hT3,hgu]
   unfold Fb.turnTop Fb.top Fr.got
   rw [h.now]
   simp only [List.getLast?_append,List.getLast?_singleton,Option.some_or,Option.getD_some,List.length_append,List.length_singleton]
   split <;> simp [Zg,Fr.stk]
 ·rfl
end
end Go.Proofs.YtblihfpigjiahaaDoor
namespace Go.Proofs.YtblihfpigjiahaaDoor
theorem Xw.of {p:List Fn} {s s':St} {l l':List Int} (h:Xw p s l) (hlen:s'.fibers.length=s.fibers.length) (ho:s'.out.length≤30) (hpath:Yy s'.fibers s'.now l') (hnd:l'.Nodup) (hlast:l'=[]∨l'.getLast?=some 0)
  (hmain:(0:Int) ∉ l'→(Zc s' 0).frames=[])
  (heach:∀ k,k<s.fibers.length→(Zc s' k=Zc s k∧((k:Int)∈l'↔(k:Int)∈l)∧((k:Int)=s'.now↔(k:Int)=s.now))∨(Qu p (Zc s' k) (decide ((k:Int)∈l')) (decide ((k:Int)=s'.now))=true∧(Zc s' k).frames.length≤6)):Xw p s' l':=by
 refine ⟨h.prog,by rw [hlen];exact h.n5,ho,fun k hk=>?_,hpath,hnd,hlast,by rw [hlen];exact h.pos,hmain,fun k hk=>?_⟩
 ·rw [hlen] at hk
  rcases heach k hk with ⟨e,_⟩ | ⟨_,e⟩
  ·rw [e];exact h.f6 k hk
  ·exact e
 ·rw [hlen] at hk
  rcases heach k hk with ⟨e,e1,e2⟩ | ⟨e,_⟩
  ·rw [e,decide_eq_decide.2 e1,decide_eq_decide.2 e2];exact h.each k hk
  ·exact e
theorem Zbe {s:St} {n:Nat} {b:Fb} (hn:n<s.fibers.length) (z:Int):Xo (Zg s n b).fibers z=if z.toNat=n then b.caller else Xo s.fibers z:=by
 show (Zc (Zg s n b) z.toNat).caller=_
 by_cases e:z.toNat=n
 ·rw [if_pos e,e,Qa _ hn]
 ·rw [if_neg e,Qs _ (fun h=>e h.symm)];rfl
section
variable {p:List Fn} {s:St} {l:List Int}
theorem Xw.stay (h:Xw p s l) {n:Nat} (hn:s.now=n) {fs:List Fr} {t:Fr} {c:Int} (hl:n<s.fibers.length) (hc:(Zc s n).caller=c) (hf:Jq p fs t) (hs:(t.stack.length:Int)=hAt p t) (h6:fs.length+1≤6) (o:List Int) (ho:o.length≤30) :
  Xw p { Zg s n ⟨fs++[t],c⟩ with out:=o } l:=by
 have hin:(n:Int)∈l:=by rw [← hn];exact h.now_mem (by omega)
 refine h.of (Xb _ _ _) ho ?_ h.nodup h.last (fun h0=>?_) (fun k hk=>?_)
 ·refine h.path.congr (by show s.fibers.length≤(Zg s n _).fibers.length;rw [Xb];omega) (fun z hz=>?_)
  have:=Zbe (s:=s) (b:=⟨fs++[t],c⟩) hl z
  have hz0:=h.path.inside z hz
  show Xo (Zg s n ⟨fs++[t],c⟩).fibers z=_
  rw [this]
  split
  ·rename_i e
   have:Xo s.fibers z=(Zc s n).caller:=by show (Zc s z.toNat).caller=_;rw [e]
   rw [this,hc]
  ·rfl
 ·have hne:n≠0:=by rintro rfl;exact h0 hin
  show (Zc (Zg s n _) 0).frames=[]
  rw [Qs _ hne]
  exact h.main h0
 ·by_cases e:n=k
  ·subst e
   right
   have e1:Zc { Zg s n ⟨fs++[t],c⟩ with out:=o } n=⟨fs++[t],c⟩:=Qa _ hl
   rw [e1]
   refine ⟨Pf.2 ⟨hf,?_⟩,by simpa using h6⟩
   exact (if_pos (decide_eq_true hn.symm)).mpr hs
  ·exact .inl ⟨Qs _ e,Iff.rfl,Iff.rfl⟩
theorem Xw.back (h:Xw p s l) {n m:Nat} (hn:s.now=n) (hl:n<s.fibers.length) (hc:(Zc s n).caller=m) {b:Fb} (hbf:Qu p b false false=true) (hb6:b.frames.length≤6)
  {gs:List Fr} {u:Fr} {d:Int} (hd:(Zc s m).caller=d) (hu:Jq p gs u) (hs:(u.stack.length:Int)=hAt p u) (h6:gs.length+1≤6) :
  ∃ r,l=(n:Int) :: (m:Int) :: r∧Xw p { Zg (Zg s n b) m ⟨gs++[u],d⟩ with now:=m } ((m:Int) :: r):=by
 obtain ⟨r0,rfl⟩:=h.head (by omega)
 have hp:=h.path
 obtain ⟨_,_,_,hp'⟩:=hp
 have hcn:Xo s.fibers s.now=m:=by rw [hn];exact hc
 rw [hcn] at hp'
 cases r0 with
 | nil=>have:(m:Int)=-1:=hp';omega
 | cons x r =>
  obtain ⟨hx,hx0,hx1,hp2⟩:=hp'
  subst hx
  have hnd:=h.nodup
  rw [hn] at hnd
  have hn1:=(List.nodup_cons.1 hnd)
  have hne:n≠m:=by rintro rfl;exact hn1.1 (by simp)
  have hml:m<s.fibers.length:=by omega
  have hml':m<(Zg s n b).fibers.length:=by rw [Xb];exact hml
  refine ⟨r,by rw [hn],?_⟩
  have hfib:∀ k,Zc { Zg (Zg s n b) m ⟨gs++[u],d⟩ with now:=(m:Int) } k=if k=m then ⟨gs++[u],d⟩ else if k=n then b else Zc s k:=fun k=>by
   show Zc (Zg (Zg s n b) m _) k=_
   by_cases e:k=m
   ·rw [if_pos e,e,Qa _ hml']
   ·rw [if_neg e,Qs _ (fun h=>e h.symm)]
    by_cases e':k=n
    ·rw [if_pos e',e',Qa _ hl]
    ·rw [if_neg e',Qs _ (fun h=>e' h.symm)]
  have hlast:(m :: r:List Int).getLast?=some 0:=by
   rcases h.last with e | e
   ·cases e
   ·rw [List.getLast?_cons_cons] at e;exact e
  refine h.of (by show (Zg (Zg s n b) m _).fibers.length=_;rw [Xb,Xb]) h.o30 ?_ hn1.2 (.inr hlast) (fun h0=>absurd (List.mem_of_getLast? hlast) h0) (fun k hk=>?_)
  ·refine ⟨rfl,hx0,by show (m:Int)<(Zg (Zg s n b) m _).fibers.length;rw [Xb,Xb];exact hx1,?_⟩
   have e1:Xo (Zg (Zg s n b) m ⟨gs++[u],d⟩).fibers m=Xo s.fibers m:=by
    rw [Zbe hml',if_pos (by omega)];exact hd.symm
   show Yy (Zg (Zg s n b) m ⟨gs++[u],d⟩).fibers _ _
   rw [e1]
   refine hp2.congr (by rw [Xb,Xb];omega) (fun z hz=>?_)
   have hzm:z≠m:=by rintro rfl;exact (List.nodup_cons.1 hn1.2).1 hz
   have hzn:z≠n:=by rintro rfl;exact hn1.1 (List.mem_cons_of_mem _ hz)
   have hz0:=hp2.inside z hz
   rw [Zbe hml',if_neg (by omega),Zbe hl,if_neg (by omega)]
  ·rw [hfib k]
   by_cases e:k=m
   ·subst e
    rw [if_pos rfl]
    right
    refine ⟨Pf.2 ⟨hu,?_⟩,by simpa using h6⟩
    rw [if_pos (decide_eq_true rfl)]
    exact hs
   ·rw [if_neg e]
    by_cases e':k=n
    ·subst e'
     rw [if_pos rfl]
     right
     rw [decide_eq_false hn1.1,decide_eq_false (show ¬ ((k:Int)=(m:Int)) by omega)]
     exact ⟨hbf,hb6⟩
    ·rw [if_neg e']
     left
     refine ⟨rfl,?_,?_⟩
     ·have:¬ (k:Int)=s.now:=by omega
      simp [this]
     ·constructor
      ·intro h1;have h1:(k:Int)=(m:Int):=h1;omega
      ·intro h1;omega
theorem Xw.forth (h:Xw p s l) {n m:Nat} (hn:s.now=n) (hl:n<s.fibers.length) (hml:m<s.fibers.length) (hm:(m:Int) ∉ l) {fs:List Fr} {t:Fr} {c:Int} (hc:(Zc s n).caller=c) (hf:Jq p fs t) (hw:Jc p t 14 0=true) (h6:fs.length+1≤6)
  {gs:List Fr} {u:Fr} (hu:Jq p gs u) (hs:(u.stack.length:Int)=hAt p u) (h6':gs.length+1≤6) :
  Xw p { Zg (Zg s n ⟨fs++[t],c⟩) m ⟨gs++[u],n⟩ with now:=m } ((m:Int) :: l):=by
 have hin:(n:Int)∈l:=by rw [← hn];exact h.now_mem (by omega)
 have hne:n≠m:=by rintro rfl;exact hm hin
 have hml':m<(Zg s n ⟨fs++[t],c⟩).fibers.length:=by rw [Xb];exact hml
 have hfib:∀ k,Zc { Zg (Zg s n ⟨fs++[t],c⟩) m ⟨gs++[u],n⟩ with now:=(m:Int) } k=if k=m then ⟨gs++[u],n⟩ else if k=n then ⟨fs++[t],c⟩ else Zc s k:=fun k=>by
  show Zc (Zg (Zg s n _) m _) k=_
  by_cases e:k=m
  ·rw [if_pos e,e,Qa _ hml']
  ·rw [if_neg e,Qs _ (fun h=>e h.symm)]
   by_cases e':k=n
   ·rw [if_pos e',e',Qa _ hl]
   ·rw [if_neg e',Qs _ (fun h=>e' h.symm)]
 have hlast:((m:Int) :: l).getLast?=some 0:=by
  obtain ⟨r,rfl⟩:=h.head (by omega)
  rcases h.last with e | e
  ·cases e
  ·rw [List.getLast?_cons_cons];exact e
 refine h.of (by show (Zg (Zg s n _) m _).fibers.length=_;rw [Xb,Xb]) h.o30 ?_ (List.nodup_cons.2 ⟨hm,h.nodup⟩) (.inr hlast) (fun h0=>absurd (List.mem_of_getLast? hlast) h0) (fun k hk=>?_)
 ·refine ⟨rfl,by omega,by show (m:Int)<(Zg (Zg s n _) m _).fibers.length;rw [Xb,Xb];omega,?_⟩
  show Yy (Zg (Zg s n ⟨fs++[t],c⟩) m ⟨gs++[u],n⟩).fibers _ _
  rw [Zbe hml',if_pos (by omega),show ((⟨gs++[u],n⟩:Fb).caller)=s.now from hn.symm]
  refine h.path.congr (by rw [Xb,Xb];omega) (fun z hz=>?_)
  have hzm:z≠m:=by rintro rfl;exact hm hz
  have hz0:=h.path.inside z hz
  rw [Zbe hml',if_neg (by omega),Zbe hl]
  split
  ·rename_i e
   have:Xo s.fibers z=(Zc s n).caller:=by show (Zc s z.toNat).caller=_;rw [e]
   rw [this,hc]
  ·rfl
 ·rw [hfib k]
  by_cases e:k=m
  ·subst e
   rw [if_pos rfl]
   right
   refine ⟨Pf.2 ⟨hu,?_⟩,by simpa using h6'⟩
   rw [if_pos (decide_eq_true rfl)]
   exact hs
  ·rw [if_neg e]
   by_cases e':k=n
   ·subst e'
    rw [if_pos rfl]
    right
    refine ⟨Pf.2 ⟨hf,?_⟩,by simpa using h6⟩
    rw [decide_eq_false (show ¬ ((k:Int)=(m:Int)) by omega),if_neg (by simp),if_pos (decide_eq_true (List.mem_cons_of_mem _ hin))]
    exact hw
   ·rw [if_neg e']
    left
    refine ⟨rfl,?_,?_⟩
    ·have:¬ (k:Int)=(m:Int):=by omega
     simp [this]
    ·constructor
     ·intro h1;have h1:(k:Int)=(m:Int):=h1;omega
     ·intro h1;omega
theorem Xw.over (h:Xw p s l) {n:Nat} (hn:s.now=n) (hl:n<s.fibers.length) {c:Int} (hc:(Zc s n).caller=c) (hc0:c<0) (o:List Int) (ho:o.length≤30) :
  Xw p { Zg s n ⟨[],c⟩ with now:=-1,out:=o } []:=by
 have hcr:=h.caller hl
 obtain rfl:c=-1:=by omega
 obtain ⟨r,rfl⟩:=h.head (by omega)
 have hp:=h.path
 obtain ⟨_,_,_,hp'⟩:=hp
 have hcn:Xo s.fibers s.now=-1:=by rw [hn];exact hc
 rw [hcn] at hp'
 cases r with
 | cons x r'=>obtain ⟨hx,hx0,_⟩:=hp';omega
 | nil =>
  have hn0:n=0:=by
   rcases h.last with e | e
   ·cases e
   ·rw [hn] at e;simp at e;omega
  subst hn0
  refine h.of (Xb _ _ _) ho rfl List.nodup_nil (.inl rfl) (fun _=>?_) (fun k hk=>?_)
  ·show (Zc (Zg s 0 _) 0).frames=[]
   rw [Qa _ hl]
  ·by_cases e:0=k
   ·subst e
    right
    have e1:Zc { Zg s 0 ⟨[],-1⟩ with now:=-1,out:=o } 0=⟨[],-1⟩:=Qa _ hl
    rw [e1]
    exact ⟨Zig.2 ⟨decide_eq_false (by simp),rfl⟩,by simp⟩
   ·left
    refine ⟨Qs _ e,?_,?_⟩
    ·rw [hn];simp;omega
    ·rw [hn]
     constructor
     ·intro h1;have h1:(k:Int)=-1:=h1;omega
     ·intro h1;omega
theorem Xw.more (h:Xw p s l) {b:Fb} (hb:Qu p b false false=true) (hb6:b.frames.length≤6) (h5:s.fibers.length<5):Xw p { s with fibers:=s.fibers++[b] } l:=by
 have hlen:({ s with fibers:=s.fibers++[b] }:St).fibers.length=s.fibers.length+1:=by simp
 have hold:∀ k,k<s.fibers.length→Zc { s with fibers:=s.fibers++[b] } k=Zc s k:=fun k hk=>by simp [Zc,List.getD,List.getElem?_append_left hk]
 have hnew:Zc { s with fibers:=s.fibers++[b] } s.fibers.length=b:=by simp [Zc,List.getD]
 have hoff:((s.fibers.length:Nat):Int) ∉ l:=fun hm=>by have:=h.path.inside _ hm;omega
 refine ⟨h.prog,by rw [hlen];omega,h.o30,fun k hk=>?_,?_,h.nodup,h.last,by rw [hlen];omega,fun h0=>by rw [hold 0 h.pos];exact h.main h0,fun k hk=>?_⟩
 ·by_cases e:k<s.fibers.length
  ·rw [hold k e];exact h.f6 k e
  ·obtain rfl:k=s.fibers.length:=by omega
   rw [hnew];exact hb6
 ·refine h.path.congr (by rw [hlen];omega) (fun z hz=>?_)
  have:=h.path.inside z hz
  show (Zc { s with fibers:=s.fibers++[b] } z.toNat).caller=(Zc s z.toNat).caller
  rw [hold _ (by omega)]
 ·by_cases e:k<s.fibers.length
  ·rw [hold k e];exact h.each k e
  ·obtain rfl:k=s.fibers.length:=by omega
   rw [hnew,decide_eq_false hoff]
   have hr:=h.path.range
   have:decide (((s.fibers.length:Nat):Int)=({ s with fibers:=s.fibers++[b] }:St).now)=false:=decide_eq_false (by show ¬ ((s.fibers.length:Nat):Int)=s.now;omega)
   rw [this]
   exact hb
end
end Go.Proofs.YtblihfpigjiahaaDoor
