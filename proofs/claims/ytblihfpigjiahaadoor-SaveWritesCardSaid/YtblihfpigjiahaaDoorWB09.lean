/- FlowM, FlowN -/
import Derived.Test.YtblihfpigjiahaaDoorWB08
set_option maxRecDepth 100000
set_option maxHeartbeats 8000000
namespace Go.Proofs.YtblihfpigjiahaaDoor
def Wp (p:List Fn) (c:List (Int × Int)) (k:Nat) (h:Int):Prop :=
 ∀ S:Nat→Int→Prop,S 0 0→(∀ k h x m j,S k h→c[k]?=some x→beh p x h=some m→j∈nexts x k→S j m)→S k h
theorem Wp.zero (p:List Fn) (c:List (Int × Int)):Wp p c 0 0:=fun _ h _=>h
theorem Wp.step {p:List Fn} {c:List (Int × Int)} {k:Nat} {h:Int} {x:Int × Int} {m:Int} {j:Nat} (r:Wp p c k h) (hx:c[k]?=some x) (hm:beh p x h=some m) (hj:j∈nexts x k):Wp p c j m :=
 fun S h0 hs=>hs k h x m j (r S h0 hs) hx hm hj
def Pz (p:List Fn) (c:List (Int × Int)) (H:List Int) (k:Nat):Prop :=
 ∃ x m,c[k]?=some x∧beh p x (H.getD k 0)=some m∧∀ j,j∈nexts x k→j<c.length∧H.getD j 0=m
structure Cons (p:List Fn) (c:List (Int × Int)) (H:List Int):Prop where
 len:H.length=c.length
 pos:0<c.length
 first:H.getD 0 0=0
 done:∀ k,k<c.length→H.getD k 0≠-1→Pz p c H k
def Yc (p:List Fn) (c:List (Int × Int)) (H:List Int):Prop :=
 ∀ k,k<c.length→H.getD k 0=-1∨(0≤H.getD k 0∧Wp p c k (H.getD k 0))
def Yk (p:List Fn) (c:List (Int × Int)):Prop:=∃ g:Fn,g.code=c∧∀ x,x∈c→opS p g x=0
theorem Pf {p:List Fn} {c:List (Int × Int)} (hr:Yk p c) {x:Int × Int} (hx:x∈c) {h m:Int} (hm:beh p x h=some m):0≤m∧m≤8:=by
 obtain ⟨g,_,hg⟩:=hr
 have hop:=hg x hx
 have hl:0≤(Qr p x.1 x.2).2.1:=by
  by_cases h11:x.1=11
  ·rw [(Zba hop h11).2.2.2];exact Int.le_of_lt Int.one_pos
  ·obtain ⟨ta,lb,h1,_,_,h4,_⟩:=Zfm hop h11;rw [h1];exact h4
 unfold beh at hm
 split at hm
 ·rename_i hc
  simp only [Option.some.injEq] at hm
  omega
 ·cases hm
theorem Wp.in {p:List Fn} {c:List (Int × Int)} {H:List Int} (hc:Cons p c H) (hr:Yk p c) {k:Nat} {h:Int} (r:Wp p c k h):k<c.length∧H.getD k 0=h∧0≤h:=by
 refine r (fun k h=>k<c.length∧H.getD k 0=h∧0≤h) ⟨hc.pos,hc.first,by omega⟩ ?_
 rintro k h x m j ⟨h1,h2,h3⟩ hx hm hj
 obtain ⟨x',m',hx',hm',hn⟩:=hc.done k h1 (by omega)
 obtain rfl:x=x':=by rw [hx] at hx';exact Option.some.inj hx'
 rw [h2] at hm'
 obtain rfl:m=m':=by rw [hm] at hm';exact Option.some.inj hm'
 obtain ⟨h4,h5⟩:=hn j hj
 exact ⟨h4,h5,(Pf hr (List.mem_of_getElem? hx) hm).1⟩
theorem Znt {p:List Fn} {c:List (Int × Int)} (hr:Yk p c) {H H':List Int} (h:Cons p c H) (s:Yc p c H) (h':Cons p c H') (s':Yc p c H'):H=H':=by
 apply List.ext_getElem (h.len.trans h'.len.symm)
 intro k hk hk'
 have hkc:k<c.length:=h.len ▸ hk
 have e1:H[k]=H.getD k 0:=by simp [List.getD,hk]
 have e2:H'[k]=H'.getD k 0:=by simp [List.getD,hk']
 rw [e1,e2]
 rcases s k hkc with a | ⟨a1,a2⟩
 ·rcases s' k hkc with b | ⟨b1,b2⟩
  ·rw [a,b]
  ·have:=b2.in h hr;omega
 ·have:=a2.in h' hr;omega
def Xy (H H':List Int):Prop:=H'.length=H.length∧∀ k,H.getD k 0≠-1→H'.getD k 0=H.getD k 0
theorem Xy.refl (H:List Int):Xy H H:=⟨rfl,fun _ _=>rfl⟩
theorem Xy.trans {A B C:List Int} (h:Xy A B) (k:Xy B C):Xy A C :=
 ⟨k.1.trans h.1,fun i hi=>by have:=h.2 i hi;rw [k.2 i (by rw [this];exact hi),this]⟩
theorem Wv {H:List Int} {k:Nat} (hk:k<H.length) (z:Int) (i:Nat):(H.set k z).getD i 0=if i=k then z else H.getD i 0:=by
 simp only [List.getD,List.getElem?_set]
 by_cases h:k=i
 ·subst h;simp [hk]
 ·rw [if_neg h,if_neg (fun e=>h e.symm)]
theorem Xy.set {H:List Int} {k:Nat} (hk:k<H.length) {z:Int} (h:H.getD k 0=-1∨H.getD k 0=z):Xy H (H.set k z):=by
 refine ⟨by simp,fun i hi=>?_⟩
 rw [Wv hk]
 split
 ·rename_i e;subst e;rcases h with h | h
  ·exact absurd h hi
  ·exact h.symm
 ·rfl
theorem Pz.mono {p:List Fn} {c:List (Int × Int)} (hr:Yk p c) {H H':List Int} (m:Xy H H') {k:Nat} (hk:H.getD k 0≠-1) (d:Pz p c H k):Pz p c H' k:=by
 obtain ⟨x,n,hx,hn,hj⟩:=d
 refine ⟨x,n,hx,by rw [m.2 k hk];exact hn,fun j hjn=>?_⟩
 obtain ⟨h1,h2⟩:=hj j hjn
 have h3:=(Pf hr (List.mem_of_getElem? hx) hn).1
 exact ⟨h1,by rw [m.2 j (by omega),h2]⟩
theorem Zin {p:List Fn} {c:List (Int × Int)} (hr:Yk p c) (f:List Int→Nat→Int→Bool × List Int)
  (hf:∀ H j m H',H.length=c.length→0≤m→f H j m=(true,H')→Xy H H'∧j<c.length∧H'.getD j 0=m∧(∀ k,k<c.length→H.getD k 0=-1→H'.getD k 0≠-1→Pz p c H' k)∧(Wp p c j m→Yc p c H→Yc p c H')) :
  ∀ (l:List Nat) (H:List Int) (m:Int) (H':List Int),H.length=c.length→0≤m→Yz f l H m=(true,H') →
   Xy H H'∧(∀ j,j∈l→j<c.length∧H'.getD j 0=m)∧(∀ k,k<c.length→H.getD k 0=-1→H'.getD k 0≠-1→Pz p c H' k)∧((∀ j,j∈l→Wp p c j m)→Yc p c H→Yc p c H')
 | [],H,m,H',hl,hm,h=>by
  simp [Yz] at h
  subst h
  exact ⟨Xy.refl _,(fun j hj=>by cases hj),fun k _ h1 h2=>absurd h1 h2,fun _ s=>s⟩
 | i :: l,H,m,H',hl,hm,h=>by
  simp only [Yz] at h
  cases hi:f H i m with
  | mk b H2 =>
   rw [hi] at h
   cases b with
   | false=>simp at h
   | true =>
    obtain ⟨m1,i1,i2,d1,s1⟩:=hf H i m H2 hl hm hi
    obtain ⟨m2,j2,d2,s2⟩:=Zin hr f hf l H2 m H' (m1.1.trans hl) hm h
    refine ⟨m1.trans m2,?_,?_,?_⟩
    ·intro j hj
     rcases List.mem_cons.1 hj with rfl | hj
     ·exact ⟨i1,by rw [m2.2 j (by omega),i2]⟩
     ·exact j2 j hj
    ·intro k hk h1 h2
     by_cases h3:H2.getD k 0=-1
     ·exact d2 k hk h3 h2
     ·exact (d1 k hk h1 h3).mono hr m2 h3
    ·intro hR hs
     exact s2 (fun j hj=>hR j (by simp [hj])) (s1 (hR i (by simp)) hs)
theorem Zgt {p:List Fn} {c:List (Int × Int)} (hr:Yk p c):∀ (n:Nat) (H:List Int) (at_:Nat) (h:Int) (H':List Int),H.length=c.length→0≤h→Ym p c n H at_ h=(true,H') →
  Xy H H'∧at_<c.length∧H'.getD at_ 0=h∧(∀ k,k<c.length→H.getD k 0=-1→H'.getD k 0≠-1→Pz p c H' k)∧(Wp p c at_ h→Yc p c H→Yc p c H')
 | 0,H,at_,h,H',_,_,hc=>by simp [Ym] at hc
 | n+1,H,at_,h,H',hl,hh,hc=>by
  unfold Ym at hc
  by_cases h1:c.length≤at_
  ·rw [if_pos h1] at hc;simp at hc
  ·rw [if_neg h1] at hc
   by_cases h2:H.getD at_ 0=-1
   ·rw [if_pos h2] at hc
    have hx:c[at_]?=some (c.getD at_ (0,0)):=Zq c at_ (0,0) (by omega)
    generalize c.getD at_ (0,0)=x at hx hc
    cases hb:beh p x h with
    | none=>rw [hb] at hc;simp at hc
    | some m =>
     rw [hb] at hc
     have hm:=(Pf hr (List.mem_of_getElem? hx) hb).1
     obtain ⟨m1,j1,d1,s1⟩:=Zin hr (Ym p c n) (fun H j m H' a b=>Zgt hr n H j m H' a b) (nexts x at_) (H.set at_ h) m H' (by simpa using hl) hm hc
     have hlt:at_<H.length:=by omega
     have hset:(H.set at_ h).getD at_ 0=h:=by rw [Wv hlt,if_pos rfl]
     have hat:H'.getD at_ 0=h:=by rw [m1.2 at_ (by omega),hset]
     refine ⟨(Xy.set hlt (.inl h2)).trans m1,by omega,hat,?_,?_⟩
     ·intro k hk k1 k2
      by_cases e:k=at_
      ·subst e
       exact ⟨x,m,hx,by rw [hat];exact hb,j1⟩
      ·exact d1 k hk (by rw [Wv hlt,if_neg e];exact k1) k2
     ·intro hR hs
      refine s1 (fun j hj=>hR.step hx hb hj) ?_
      intro k hk
      rw [Wv hlt]
      by_cases e:k=at_
      ·rw [if_pos e,e];exact .inr ⟨hh,hR⟩
      ·rw [if_neg e];exact hs k hk
   ·rw [if_neg h2] at hc
    simp at hc
    obtain ⟨hd,rfl⟩:=hc
    exact ⟨Xy.refl _,by omega,hd,fun k _ a b=>absurd a b,fun _ s=>s⟩
theorem Zki {c:List (Int × Int)} (f:List Int→Nat→Int→Bool × List Int) {G:List Int} (n:Nat) {m:Int}
  (hf:∀ H j,Xy H G→unv H<n→j<c.length→G.getD j 0=m→∃ H',f H j m=(true,H')∧Xy H' G∧unv H'≤unv H) :
  ∀ (l:List Nat) (H:List Int),Xy H G→unv H<n→(∀ j,j∈l→j<c.length∧G.getD j 0=m)→∃ H',Yz f l H m=(true,H')∧Xy H' G∧unv H'≤unv H
 | [],H,h,_,_=>⟨H,rfl,h,Nat.le_refl _⟩
 | i :: l,H,h,hn,hj=>by
  obtain ⟨H2,h2,m2,u2⟩:=hf H i h hn (hj i (by simp)).1 (hj i (by simp)).2
  obtain ⟨H3,h3,m3,u3⟩:=Zki f n hf l H2 m2 (by omega) (fun j hjl=>hj j (by simp [hjl]))
  exact ⟨H3,by simp only [Yz];rw [h2];exact h3,m3,by omega⟩
theorem Zmx {p:List Fn} {c:List (Int × Int)} (hr:Yk p c) {G:List Int} (hG:Cons p c G):∀ (n:Nat) (H:List Int) (at_:Nat) (h:Int),Xy H G→unv H<n→at_<c.length→G.getD at_ 0=h→0≤h →
  ∃ H',Ym p c n H at_ h=(true,H')∧Xy H' G∧unv H'≤unv H
 | 0,H,at_,h,_,hn,_,_,_=>by omega
 | n+1,H,at_,h,hm,hn,ha,hg,hh=>by
  unfold Ym
  rw [if_neg (by omega)]
  have hlt:at_<H.length:=by rw [← hm.1,hG.len];exact ha
  by_cases h2:H.getD at_ 0=-1
  ·rw [if_pos h2]
   obtain ⟨x,m,hx,hb,hj⟩:=hG.done at_ ha (by omega)
   have hx':=Zq c at_ (0,0) ha
   rw [hx] at hx'
   rw [← Option.some.inj hx',← hg,hb]
   have hmm:=(Pf hr (List.mem_of_getElem? hx) hb).1
   have hu:=Zhv H at_ (G.getD at_ 0) h2 (by omega)
   have hset:Xy (H.set at_ (G.getD at_ 0)) G:=by
    refine ⟨by simpa using hm.1,fun k hk=>?_⟩
    rw [Wv hlt] at hk ⊢
    split
    ·rename_i e;rw [e]
    ·rename_i e;rw [if_neg e] at hk;exact hm.2 k hk
   obtain ⟨H',h3,h4,h5⟩:=Zki (c:=c) (Ym p c n) n (fun H j a b d e=>Zmx hr hG n H j m a b d e hmm) (nexts x at_) (H.set at_ (G.getD at_ 0)) hset (by omega) hj
   exact ⟨H',h3,h4,by omega⟩
  ·rw [if_neg h2]
   have:H.getD at_ 0=h:=by rw [← hm.2 at_ h2,hg]
   exact ⟨H,by simp only [this,decide_true],hm,Nat.le_refl _⟩
def Qv (len:Nat):List Nat→Int→List Int→Option (List Int)
 | [],_,H=>some H
 | j :: r,m,H=>if j=len∨(0≤H.getD j 0∧H.getD j 0≠m) then none else Qv len r m (H.set j m)
def Uw (p:List Fn) (c:List (Int × Int)) (H:List Int) (k:Nat):Option (List Int) :=
 if H.getD k 0<0 then some H else
  match beh p (c.getD k (0,0)) (H.getD k 0) with
  | none=>none
  | some m=>Qv c.length (nexts (c.getD k (0,0)) k) m H
def Ju (p:List Fn) (c:List (Int × Int)):Nat→List Int→Option (List Int)
 | 0,H=>some H
 | k+1,H=>(Ju p c k H).bind fun H'=>Uw p c H' k
def Wm (p:List Fn) (c:List (Int × Int)):Nat→List Int→Option (List Int)
 | 0,H=>some H
 | r+1,H=>(Wm p c r H).bind (Ju p c c.length)
def start (c:List (Int × Int)):List Int:=List.replicate c.length (-1)
def Ql (p:List Fn) (c:List (Int × Int)):Option (List Int) :=
 if c.length=0 then none else Wm p c (c.length+1) ((start c).set 0 0)
theorem Zfx {p:List Fn} {c:List (Int × Int)} (hr:Yk p c) {k:Nat} {x:Int × Int} (hx:c[k]?=some x) {j:Nat} (hj:j∈nexts x k):j≤c.length:=by
 obtain ⟨g,rfl,hg⟩:=hr
 obtain ⟨h1,h2,hm⟩:=Wc (hg x (List.mem_of_getElem? hx))
 have hk:k<g.code.length:=(List.getElem?_eq_some_iff.1 hx).1
 have hJ:(x.1=9∨x.1=10)→x.2.toNat<g.code.length:=by
  intro h
  have ho:opd x.1.toNat=3:=by rcases h with h | h <;> rw [h] <;> rfl
  rw [ho] at hm
  have:=(Jq.1 (show ixB x.2 g.code.length=true from hm))
  omega
 unfold nexts at hj
 split at hj
 ·cases hj
 ·split at hj
  ·rename_i h;simp at hj;have:=hJ (.inl h);omega
  ·split at hj
   ·rename_i h
    simp at hj
    have:=hJ (.inr h)
    omega
   ·simp at hj;omega
def Inv (c:List (Int × Int)) (H:List Int):Prop:=H.length=c.length∧∀ k,k<c.length→H.getD k 0=-1∨0≤H.getD k 0
theorem Zlt {c:List (Int × Int)} {m:Int} (hm:0≤m):∀ (l:List Nat) (H H':List Int),(∀ j,j∈l→j≤c.length)→Inv c H→Qv c.length l m H=some H' →
  Xy H H'∧Inv c H'∧(∀ j,j∈l→j<c.length∧H'.getD j 0=m)∧(∀ k,H.getD k 0=-1→H'.getD k 0≠-1→k∈l∧H'.getD k 0=m)
 | [],H,H',_,hi,h=>by
  simp [Qv] at h
  subst h
  exact ⟨Xy.refl _,hi,(fun j hj=>by cases hj),fun k a b=>absurd a b⟩
 | j :: l,H,H',hl,hi,h=>by
  unfold Qv at h
  by_cases hc:j=c.length∨(0≤H.getD j 0∧H.getD j 0≠m)
  ·rw [if_pos hc] at h;cases h
  ·rw [if_neg hc] at h
   have hj:j<c.length:=by have:=hl j (by simp);omega
   have hlt:j<H.length:=by rw [hi.1];exact hj
   have hold:H.getD j 0=-1∨H.getD j 0=m:=by
    rcases hi.2 j hj with a | a
    ·exact .inl a
    ·exact .inr (Decidable.byContradiction fun b=>hc (.inr ⟨a,b⟩))
   have hi2:Inv c (H.set j m):=by
    refine ⟨by simpa using hi.1,fun k hk=>?_⟩
    rw [Wv hlt]
    split
    ·exact .inr hm
    ·exact hi.2 k hk
   obtain ⟨m1,i1,j1,n1⟩:=Zlt hm l (H.set j m) H' (fun i hil=>hl i (by simp [hil])) hi2 h
   have hjm:H'.getD j 0=m:=by rw [m1.2 j (by rw [Wv hlt,if_pos rfl];omega),Wv hlt,if_pos rfl]
   refine ⟨(Xy.set hlt hold).trans m1,i1,?_,?_⟩
   ·intro i hil
    rcases List.mem_cons.1 hil with rfl | hil
    ·exact ⟨hj,hjm⟩
    ·exact j1 i hil
   ·intro k a b
    by_cases e:k=j
    ·subst e;exact ⟨by simp,hjm⟩
    ·obtain ⟨c1,c2⟩:=n1 k (by rw [Wv hlt,if_neg e];exact a) b
     exact ⟨by simp [c1],c2⟩
theorem Zep {p:List Fn} {c:List (Int × Int)} (hr:Yk p c) {H H':List Int} {k:Nat} (hk:k<c.length) (hi:Inv c H) (h:Uw p c H k=some H') :
  Xy H H'∧Inv c H'∧(H.getD k 0≠-1→Pz p c H' k)∧(Yc p c H→Yc p c H'):=by
 have hx:=Zq c k (0,0) hk
 unfold Uw at h
 generalize c.getD k (0,0)=x at hx h
 by_cases h1:H.getD k 0<0
 ·rw [if_pos h1] at h
  simp at h
  subst h
  exact ⟨Xy.refl _,hi,fun a=>by rcases hi.2 k hk with b | b <;> omega,fun s=>s⟩
 ·rw [if_neg h1] at h
  cases hb:beh p x (H.getD k 0) with
  | none=>rw [hb] at h;cases h
  | some m =>
   rw [hb] at h
   have hm:=(Pf hr (List.mem_of_getElem? hx) hb).1
   obtain ⟨m1,i1,j1,n1⟩:=Zlt hm (nexts x k) H H' (fun j hj=>Zfx hr hx hj) hi h
   refine ⟨m1,i1,fun hne=>⟨x,m,hx,by rw [m1.2 k hne];exact hb,j1⟩,fun s i hil=>?_⟩
   by_cases a:H.getD i 0=-1
   ·by_cases b:H'.getD i 0=-1
    ·exact .inl b
    ·obtain ⟨c1,c2⟩:=n1 i a b
     rw [c2]
     refine .inr ⟨hm,?_⟩
     rcases s k hk with d | ⟨_,d⟩
     ·omega
     ·exact d.step hx hb c1
   ·rw [m1.2 i a];exact s i hil
theorem Zza {H H1:List Int} (a:Xy H H1) (b:Xy H1 H):H1=H:=by
 apply List.ext_getElem a.1
 intro k hk hk'
 have e1:H1[k]=H1.getD k 0:=by simp [List.getD,hk]
 have e2:H[k]=H.getD k 0:=by simp [List.getD,hk']
 rw [e1,e2]
 by_cases h:H.getD k 0=-1
 ·by_cases h':H1.getD k 0=-1
  ·rw [h,h']
  ·exact (b.2 k h').symm
 ·exact a.2 k h
theorem Ziw {p:List Fn} {c:List (Int × Int)} (hr:Yk p c):∀ (k:Nat) (H H':List Int),k≤c.length→Inv c H→Ju p c k H=some H' →
  Xy H H'∧Inv c H'∧(Yc p c H→Yc p c H')∧(H'=H→∀ i,i<k→H.getD i 0≠-1→Pz p c H i)
 | 0,H,H',_,hi,h=>by
  simp [Ju] at h
  subst h
  exact ⟨Xy.refl _,hi,fun s=>s,fun _ i hi=>by omega⟩
 | k+1,H,H',hk,hi,h=>by
  simp only [Ju] at h
  obtain ⟨H1,h1,h2⟩:=Option.bind_eq_some_iff.1 h
  obtain ⟨m1,i1,s1,d1⟩:=Ziw hr k H H1 (by omega) hi h1
  obtain ⟨m2,i2,d2,s2⟩:=Zep hr (by omega) i1 h2
  refine ⟨m1.trans m2,i2,fun s=>s2 (s1 s),fun e i hik hne=>?_⟩
  subst e
  have e1:=Zza m1 m2
  by_cases hlast:i=k
  ·subst hlast
   exact d2 (by rw [e1];exact hne)
  ·exact d1 e1 i (by omega) hne
theorem Zic:∀ (H H':List Int),H'.length=H.length→(∀ k,H.getD k 0≠-1→H'.getD k 0=H.getD k 0)→unv H'≤unv H∧(H'≠H→unv H'<unv H)
 | [],[],_,_=>⟨Nat.le_refl _,fun h=>absurd rfl h⟩
 | [],_ :: _,h,_=>by simp at h
 | _ :: _,[],h,_=>by simp at h
 | z :: H,z' :: H',hl,h=>by
  obtain ⟨a,b⟩:=Zic H H' (by simpa using hl) (fun k hk=>by have:=h (k+1) (by simpa using hk);simpa using this)
  have h0:=h 0
  simp only [List.getD_cons_zero] at h0
  have cz:∀ (z:Int) (H:List Int),unv (z :: H)=(if z=-1 then 1 else 0)+unv H:=by
   intro z H
   unfold unv
   rw [List.filter_cons]
   split
   ·rename_i e;simp at e;rw [if_pos e];simp;omega
   ·rename_i e;simp at e;rw [if_neg e];simp
  rw [cz,cz]
  by_cases e:z=-1
  ·by_cases e':z'=-1
   ·rw [if_pos e,if_pos e']
    refine ⟨by omega,fun hne=>?_⟩
    have:=b (fun q=>hne (by rw [q,e,e']))
    omega
   ·rw [if_pos e,if_neg e']
    exact ⟨by omega,fun _=>by omega⟩
  ·have e2:=h0 e
   rw [e2,if_neg e]
   refine ⟨by omega,fun hne=>?_⟩
   have:=b (fun q=>hne (by rw [q]))
   omega
theorem Zmw {p:List Fn} {c:List (Int × Int)} (hr:Yk p c):∀ (r:Nat) (H H':List Int),Inv c H→Yc p c H→Wm p c r H=some H' →
  Xy H H'∧Inv c H'∧Yc p c H'∧(Ju p c c.length H'=some H'∨unv H'+r≤unv H)
 | 0,H,H',hi,hs,h=>by
  simp [Wm] at h
  subst h
  exact ⟨Xy.refl _,hi,hs,.inr (by omega)⟩
 | r+1,H,H',hi,hs,h=>by
  simp only [Wm] at h
  obtain ⟨H1,h1,h2⟩:=Option.bind_eq_some_iff.1 h
  obtain ⟨m1,i1,s1,d1⟩:=Zmw hr r H H1 hi hs h1
  obtain ⟨m2,i2,s2,_⟩:=Ziw hr c.length H1 H' (Nat.le_refl _) i1 h2
  refine ⟨m1.trans m2,i2,s2 s1,?_⟩
  by_cases e:H'=H1
  ·subst e;exact .inl h2
  ·rcases d1 with d1 | d1
   ·rw [h2] at d1;exact absurd (Option.some.inj d1) e
   ·have:=(Zic H1 H' m2.1 m2.2).2 e
    exact .inr (by omega)
theorem Zip (H:List Int):unv H≤H.length:=List.length_filter_le _ _
theorem Zfg {c:List (Int × Int)} (h:0<c.length):Inv c ((start c).set 0 0)∧(∀ k,k<c.length→((start c).set 0 0).getD k 0=if k=0 then 0 else -1):=by
 have hl:(start c).length=c.length:=by simp [start]
 have hg:∀ k,k<c.length→((start c).set 0 0).getD k 0=if k=0 then 0 else -1:=by
  intro k hk
  rw [Wv (by omega)]
  split
  ·rfl
  ·simp [start,List.getD,hk]
 refine ⟨⟨by simpa using hl,fun k hk=>?_⟩,hg⟩
 rw [hg k hk]
 split
 ·exact .inr (by omega)
 ·exact .inl rfl
theorem Zcy {p:List Fn} {c:List (Int × Int)} (hr:Yk p c) {H:List Int} (h:Ql p c=some H):Cons p c H∧Yc p c H:=by
 unfold Ql at h
 by_cases h0:c.length=0
 ·rw [if_pos h0] at h;cases h
 ·rw [if_neg h0] at h
  obtain ⟨hi,hg⟩:=Zfg (c:=c) (by omega)
  have hs:Yc p c ((start c).set 0 0):=by
   intro k hk
   rw [hg k hk]
   split
   ·rename_i e;subst e;exact .inr ⟨by omega,Wp.zero p c⟩
   ·exact .inl rfl
  obtain ⟨m1,i1,s1,d1⟩:=Zmw hr _ _ H hi hs h
  have hu:=Zip ((start c).set 0 0)
  rw [hi.1] at hu
  have hfix:Ju p c c.length H=some H:=by
   rcases d1 with d | d
   ·exact d
   ·omega
  obtain ⟨_,_,_,d2⟩:=Ziw hr c.length H H (Nat.le_refl _) i1 hfix
  refine ⟨⟨i1.1,by omega,?_,fun k hk hne=>d2 rfl k hk hne⟩,s1⟩
  have h00:=hg 0 (by omega)
  rw [if_pos rfl] at h00
  rw [m1.2 0 (by omega),h00]
theorem Zlg {c:List (Int × Int)} {m:Int} {G:List Int} (hl:G.length=c.length):∀ (l:List Nat) (H:List Int),Xy H G→(∀ j,j∈l→j<c.length∧G.getD j 0=m)→∃ H',Qv c.length l m H=some H'∧Xy H' G
 | [],H,h,_=>⟨H,rfl,h⟩
 | j :: l,H,h,hj=>by
  obtain ⟨h1,h2⟩:=hj j (by simp)
  have hlt:j<H.length:=by rw [← h.1,hl];exact h1
  unfold Qv
  rw [if_neg]
  ·refine Zlg hl l (H.set j m) ⟨by simpa using h.1,fun k hk=>?_⟩ (fun i hil=>hj i (by simp [hil]))
   rw [Wv hlt] at hk ⊢
   split
   ·rename_i e;rw [e,h2]
   ·rename_i e;rw [if_neg e] at hk;exact h.2 k hk
  ·rintro (a | ⟨a,b⟩)
   ·omega
   ·exact b (by rw [← h.2 j (by omega),h2])
theorem Zoe {p:List Fn} {c:List (Int × Int)} {G:List Int} (hG:Cons p c G):∀ (k:Nat) (H:List Int),k≤c.length→Xy H G→∃ H',Ju p c k H=some H'∧Xy H' G
 | 0,H,_,h=>⟨H,rfl,h⟩
 | k+1,H,hk,h=>by
  obtain ⟨H1,h1,m1⟩:=Zoe hG k H (by omega) h
  simp only [Ju,h1,Option.bind_some]
  unfold Uw
  by_cases hz:H1.getD k 0<0
  ·rw [if_pos hz];exact ⟨H1,rfl,m1⟩
  ·rw [if_neg hz]
   have e:=m1.2 k (by omega)
   obtain ⟨x,m,hx,hb,hj⟩:=hG.done k (by omega) (by omega)
   have hx':=Zq c k (0,0) (by omega)
   rw [hx] at hx'
   rw [← Option.some.inj hx',← e,hb]
   exact Zlg hG.len (nexts x k) H1 m1 hj
theorem Zkc {p:List Fn} {c:List (Int × Int)} {G:List Int} (hG:Cons p c G):∀ (r:Nat) (H:List Int),Xy H G→∃ H',Wm p c r H=some H'∧Xy H' G
 | 0,H,h=>⟨H,rfl,h⟩
 | r+1,H,h=>by
  obtain ⟨H1,h1,m1⟩:=Zkc hG r H h
  simp only [Wm,h1,Option.bind_some]
  exact Zoe hG c.length H1 (Nat.le_refl _) m1
theorem Zmu {p:List Fn} {c:List (Int × Int)} {G:List Int} (hG:Cons p c G):Xy ((start c).set 0 0) G∧Xy (start c) G:=by
 obtain ⟨hi,hg⟩:=Zfg (c:=c) hG.pos
 refine ⟨⟨hG.len.trans hi.1.symm,fun k hk=>?_⟩,⟨hG.len.trans (by simp [start]),fun k hk=>?_⟩⟩
 ·by_cases hkl:k<c.length
  ·rw [hg k hkl] at hk ⊢
   split
   ·rename_i e;rw [e];exact hG.first
   ·rename_i e;rw [if_neg e] at hk;exact absurd rfl hk
  ·simp [List.getD,hG.len,hi.1,hkl]
 ·by_cases hkl:k<c.length
  ·exact absurd (by simp [start,List.getD,hkl]) hk
  ·simp [List.getD,hG.len,start,hkl]
def wayS (p:List Fn) (c:List (Int × Int)):Bool × List Int:=Ym p c (c.length+1) (start c) 0 0
theorem Zlz {p:List Fn} {c:List (Int × Int)} (hr:Yk p c) {H:List Int} (h:wayS p c=(true,H)):Cons p c H∧Yc p c H:=by
 have hl:(start c).length=c.length:=by simp [start]
 have hg:∀ k,k<c.length→(start c).getD k 0=-1:=fun k hk=>by simp [start,List.getD,hk]
 obtain ⟨m1,a1,a2,d1,s1⟩:=Zgt hr _ _ _ _ H hl (by omega) h
 refine ⟨⟨m1.1.trans hl,by omega,a2,fun k hk hne=>d1 k hk (hg k hk) hne⟩,s1 (Wp.zero p c) (fun k hk=>.inl (hg k hk))⟩
theorem Zls {p:List Fn} {c:List (Int × Int)} (hr:Yk p c):(∀ H,wayS p c=(true,H)→Ql p c=some H)∧(∀ H,Ql p c=some H→wayS p c=(true,H)):=by
 constructor
 ·intro H h
  obtain ⟨a,b⟩:=Zlz hr h
  obtain ⟨H',h',_⟩:=Zkc a (c.length+1) _ (Zmu a).1
  have hh:Ql p c=some H':=by
   unfold Ql
   rw [if_neg (by have:=a.pos;omega)]
   exact h'
  obtain ⟨a',b'⟩:=Zcy hr hh
  rw [hh,Znt hr a b a' b']
 ·intro H h
  obtain ⟨a,b⟩:=Zcy hr h
  have hu:=Zip (start c)
  rw [show (start c).length=c.length by simp [start]] at hu
  obtain ⟨H',h',_⟩:=Zmx hr a (c.length+1) (start c) 0 0 (Zmu a).2 (by omega) a.pos a.first (by omega)
  obtain ⟨a',b'⟩:=Zlz hr h'
  rw [Znt hr a b a' b']
  exact h'
end Go.Proofs.YtblihfpigjiahaaDoor
