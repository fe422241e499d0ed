/- StateS, StateU, StepS, OkP, DoAt, TrimS, StateLp -/
import Derived.Test.YtblihfpigjiahaaGreatDoorYB11
import Derived.Test.YtblihfpigjiahaaGreatDoorYB12
import Derived.Test.YtblihfpigjiahaaGreatDoorYB09
set_option maxRecDepth 100000
set_option maxHeartbeats 8000000
namespace Go.Proofs.YtblihfpigjiahaaGreatDoor
def hgt (p:List Fn) (k:Nat):List Int:=(Qe p (Xd p k)).getD []
def hAt (p:List Fn) (x:Fr):Int:=(hgt p x.fn.toNat).getD x.at_.toNat 0
def Zag (p:List Fn) (x:Fr):Int × Int:=(Xd p x.fn.toNat).getD (x.at_.toNat - 1) (0,0)
def Xi (p:List Fn) (x:Fr):Bool :=
 ixB x.fn p.length && (decide ((x.locals.length:Int)=(p.getD x.fn.toNat Fn.zero).locals) && (ixB x.at_ (Xd p x.fn.toNat).length && decide (0≤hAt p x)))
def Jf (p:List Fn) (x:Fr) (kd ofn:Int):Bool :=
 (!decide (x.at_=0) && decide ((x.stack.length:Int)=hAt p x - 1)) && (decide ((Zag p x).1=kd) && (!decide (kd=11) || decide ((Zag p x).2=ofn)))
def Ui (l:List Int):Bool:=l.all fun z=>decide (z=0)
def Jt (p:List Fn) (b:Fb):Bool :=
 match b.frames with
 | [x]=>(decide (x.at_=0) && (decide ((p.getD x.fn.toNat Fn.zero).args=1) && decide (x.stack.length=0))) && Ui x.locals
 | _=>false
def Uc (p:List Fn):List Fr→Bool
 | []=>true
 | [x]=>Xi p x
 | x :: y :: r=>Xi p x && (ixB y.fn p.length && Jf p x 11 y.fn) && Uc p (y :: r)
def Qx (p:List Fn) (b:Fb) (on runs:Bool):Bool :=
 match b.frames.getLast? with
 | none=>!on && decide (b.caller=-1)
 | some t=>Uc p b.frames &&
   (if runs=true then decide ((t.stack.length:Int)=hAt p t)
    else if on=true then Jf p t 14 0
    else decide (b.caller=-1) && (Jt p b || Jf p t 15 0))
def Xt (fs:List Fb) (n:Int):Int:=(fs.getD n.toNat Fb.zero).caller
def Xr (fs:List Fb):Nat→Int→List Int→Option (List Int)
 | 0,_,_=>none
 | k+1,n,acc=>if n<0 then some acc else if n∈acc then none else Xr fs k (Xt fs n) (acc++[n])
def Qd (s:St):Option (List Int) :=
 match Xr s.fibers (s.fibers.length+1) s.now [] with
 | none=>none
 | some l=>if l=[]∨l.getLast?=some 0 then some l else none
def Qp (s:St):Int :=
 if s.fibers.length≤5∧s.out.length≤30 then
  if (s.fibers.all fun b=>decide (b.frames.length≤6))=true then
   if 0<s.fibers.length then
    if inB s.now (-1) (s.fibers.length - 1)=true then
     if (s.fibers.all fun b=>inB b.caller (-1) (s.fibers.length - 1))=true then 0 else 3
    else 3
   else 5
  else 2
 else 2
def Yg (p:List Fn) (s:St):Bool :=
 match Qd s with
 | none=>false
 | some l=>!(decide (s.now=-1) && !(s.fibers.getD 0 Fb.zero).frames.isEmpty) &&
   (List.range s.fibers.length).all fun k=>Qx p (s.fibers.getD k Fb.zero) (decide ((k:Int)∈l)) (decide ((k:Int)=s.now)) && !(decide (k=0) && (!decide ((0:Int)∈l) && !(s.fibers.getD 0 Fb.zero).frames.isEmpty))
def Xg (p:List Fn) (s:St):Int :=
 if Xq p=0 then (if Qp s=0 then (if Yg p s=true then 0 else 1) else Qp s) else Xq p
def Qi (p:List Fn) (x:Fr) (op:Int × Int):Bool :=
 (decide (0<x.at_) && decide ((x.stack.length:Int)=hAt p x - 1)) && decide (Zag p x=op)
def Qu (p:List Fn):List Fr→Bool
 | x :: y :: r=>Qi p x (11,y.fn) && Qu p (y :: r)
 | _=>true
def Ye (fs:List Fb):Nat→Int→List Bool→Option (List Bool)
 | 0,_,_=>none
 | k+1,n,B=>if n=-1 then some B else if B.getD n.toNat false=true∨(decide (Xt fs n=-1))≠(decide (n=0)) then none else Ye fs k (Xt fs n) (B.set n.toNat true)
def Ur (s:St):Option (List Bool) :=
 match Ye s.fibers (s.fibers.length+1) s.now (List.replicate s.fibers.length false) with
 | none=>none
 | some B=>if ((List.range s.fibers.length).all fun k=>B.getD k false || decide ((s.fibers.getD k Fb.zero).caller=-1))=true then some B else none
def Wy (p:List Fn) (s:St) (n:Nat) (on:Bool):Bool :=
 match (s.fibers.getD n Fb.zero).frames.getLast? with
 | none=>!on
 | some t=>(on || !decide (n=0)) && ((!on && Jt p (s.fibers.getD n Fb.zero)) || (Qu p (s.fibers.getD n Fb.zero).frames &&
   (if (n:Int)=s.now then decide ((t.stack.length:Int)=hAt p t) else if on=true then Qi p t (14,0) else Qi p t (15,0))))
def Pr (p:List Fn) (s:St):Bool :=
 (s.fibers.all fun b=>b.frames.all (Xi p)) &&
 match Ur s with
 | none=>false
 | some B=>(List.range s.fibers.length).all fun n=>Wy p s n (B.getD n false)
def Pc (p:List Fn) (s:St):Int:=if Qp s=0 then (if Pr p s=true then 0 else 1) else Qp s
theorem Ztn {l S:List Int} (hn:l.Nodup) (hs:∀ x,x∈l→x∈S):l.length≤S.length:=by
 induction l generalizing S with
 | nil=>simp
 | cons x r ih =>
  rw [List.nodup_cons] at hn
  have hx:=hs x (List.mem_cons_self)
  have:=ih (S:=S.erase x) hn.2 (fun y hy=>(List.mem_erase_of_ne (by rintro rfl;exact hn.1 hy)).2 (hs y (List.mem_cons_of_mem _ hy)))
  rw [List.length_erase_of_mem hx] at this
  have hp:=List.length_pos_of_mem hx
  simp
  omega
theorem few {l:List Int} {n:Nat} (hn:l.Nodup) (hs:∀ x,x∈l→0≤x∧x<n):l.length≤n:=by
 have:=Ztn (S:=(List.range n).map fun (k:Nat)=>(k:Int)) hn (fun x hx=>by
  have:=hs x hx
  exact List.mem_map.2 ⟨x.toNat,by simp;omega,by omega⟩)
 simpa using this
theorem Zer (p:List Fn):∀ l:List Fr,Uc p l=true↔(l.all (Xi p)=true∧Qu p l=true)
 | []=>by simp [Uc,Qu]
 | [x]=>by simp [Uc,Qu]
 | x :: y :: r=>by
  have ih:=Zer p (y :: r)
  have hw:Xi p x=true→(Jf p x 11 y.fn=true↔Qi p x (11,y.fn)=true):=by
   intro hx
   simp only [Xi,Bool.and_eq_true,Jm,decide_eq_true_eq] at hx
   simp only [Jf,Qi,Bool.and_eq_true,Bool.or_eq_true,Bool.not_eq_true',decide_eq_true_eq,decide_eq_false_iff_not,Prod.ext_iff]
   have:(¬ x.at_=0)↔0<x.at_:=by omega
   rw [this]
   simp
  simp only [Uc,Qu,Bool.and_eq_true,ih,List.all_cons]
  constructor
  ·rintro ⟨⟨h1,_,h3⟩,h4,h5⟩
   exact ⟨⟨h1,by simpa using h4⟩,(hw h1).1 h3,h5⟩
  ·rintro ⟨⟨h1,h2⟩,h3,h4⟩
   refine ⟨⟨h1,?_,(hw h1).2 h3⟩,by simpa using h2,h4⟩
   have:=h2.1
   simp only [Xi,Bool.and_eq_true] at this
   exact this.1
def Zav (n:Nat) (B:List Bool) (l:List Int):Prop:=B.length=n∧∀ i:Nat,i<n→B.getD i false=decide ((i:Int)∈l)
theorem Zav.set {n:Nat} {B:List Bool} {l:List Int} (h:Zav n B l) {z:Int} (h0:0≤z) (_hz:z<n):Zav n (B.set z.toNat true) (l++[z]):=by
 refine ⟨by simp [h.1],fun i hi=>?_⟩
 have:=h.2 i hi
 by_cases e:z.toNat=i
 ·subst e
  simp [List.getD,h.1,hi]
  right;omega
 ·have hne:¬ ((i:Int)=z):=by omega
  simp [List.getD,e,hne] at this ⊢
  rw [this]
theorem Zkx (fs:List Fb):∀ (k:Nat) (n:Int) (acc acc':List Int),0≤n→Xr fs k n acc=some acc'→∃ z,acc'.getLast?=some z∧z ∉ acc
 | 0,_,_,_,_,h=>by cases h
 | k+1,n,acc,acc',h0,h=>by
  unfold Xr at h
  rw [if_neg (by omega)] at h
  split at h
  ·cases h
  ·rename_i hna
   by_cases hc:Xt fs n<0
   ·cases k with
    | zero=>cases h
    | succ k =>
     unfold Xr at h
     rw [if_pos hc] at h
     cases h
     exact ⟨n,by simp,hna⟩
   ·obtain ⟨z,h1,h2⟩:=Zkx fs k _ _ _ (by omega) h
    exact ⟨z,h1,fun hm=>h2 (List.mem_append_left _ hm)⟩
theorem Zlj {fs:List Fb} (hc:∀ b,b∈fs→-1≤b.caller∧b.caller<fs.length):∀ (k:Nat) (n:Int) (acc:List Int) (B B':List Bool),-1≤n→n<fs.length→Zav fs.length B acc→Ye fs k n B=some B' →
  ∃ acc',Xr fs k n acc=some acc'∧Zav fs.length B' acc'∧(n=-1→acc'=acc)∧(n≠-1→acc'.getLast?=some 0)
 | 0,_,_,_,_,_,_,_,h=>by cases h
 | k+1,n,acc,B,B',h0,hn,hm,h=>by
  unfold Ye at h
  unfold Xr
  by_cases hz:n=-1
  ·rw [if_pos hz] at h
   cases h
   rw [if_pos (by omega)]
   exact ⟨acc,rfl,hm,fun _=>rfl,fun h=>absurd hz h⟩
  ·rw [if_neg hz] at h
   split at h
   ·cases h
   ·rename_i hno
    rw [not_or] at hno
    obtain ⟨hb,hq⟩:=hno
    have hq:decide (Xt fs n=-1)=decide (n=0):=by
     rcases Decidable.em (decide (Xt fs n=-1)=decide (n=0)) with h | h
     ·exact h
     ·exact absurd h hq
    have hna:n ∉ acc:=by
     have:=hm.2 n.toNat (by omega)
     rw [show ((n.toNat:Nat):Int)=n by omega] at this
     intro hin
     rw [this,decide_eq_true hin] at hb
     exact hb rfl
    rw [if_neg (by omega),if_neg hna]
    have hcr:-1≤Xt fs n∧Xt fs n<fs.length:=by
     have hx:=Zs fs n.toNat Fb.zero (by omega)
     exact hc _ (List.mem_of_getElem? hx)
    obtain ⟨acc',h1,h2,h3,h4⟩:=Zlj hc k _ _ _ _ hcr.1 hcr.2 (hm.set (by omega) hn) h
    refine ⟨acc',h1,h2,fun h=>absurd h hz,fun _=>?_⟩
    by_cases hcz:Xt fs n=-1
    ·rw [h3 hcz]
     simp only [hcz,decide_true] at hq
     have:n=0:=by simpa using hq.symm
     simp [this]
    ·exact h4 hcz
theorem Zom {fs:List Fb} (hc:∀ b,b∈fs→-1≤b.caller∧b.caller<fs.length):∀ (k:Nat) (n:Int) (acc acc':List Int) (B:List Bool),-1≤n→n<fs.length→Zav fs.length B acc→Xr fs k n acc=some acc'→(n≠-1→acc'.getLast?=some 0) →
  ∃ B',Ye fs k n B=some B'∧Zav fs.length B' acc'
 | 0,_,_,_,_,_,_,_,h,_=>by cases h
 | k+1,n,acc,acc',B,h0,hn,hm,h,hl=>by
  unfold Xr at h
  unfold Ye
  by_cases hz:n=-1
  ·rw [if_pos (by omega)] at h
   cases h
   exact ⟨B,by rw [if_pos hz],hm⟩
  ·rw [if_neg (by omega)] at h
   split at h
   ·cases h
   ·rename_i hna
    have hcr:-1≤Xt fs n∧Xt fs n<fs.length:=by
     have hx:=Zs fs n.toNat Fb.zero (by omega)
     exact hc _ (List.mem_of_getElem? hx)
    have hb:B.getD n.toNat false=false:=by
     have:=hm.2 n.toNat (by omega)
     rw [show ((n.toNat:Nat):Int)=n by omega] at this
     rw [this,decide_eq_false hna]
    have hl0:=hl hz
    have hq:decide (Xt fs n=-1)=decide (n=0):=by
     rw [decide_eq_decide]
     by_cases hcz:Xt fs n=-1
     ·cases k with
      | zero=>cases h
      | succ k =>
       unfold Xr at h
       rw [if_pos (by omega)] at h
       cases h
       simp at hl0
       subst hl0
       simp [hcz]
     ·obtain ⟨z,h1,h2⟩:=Zkx fs k _ _ _ (by omega) h
      rw [hl0] at h1
      cases h1
      simp only [List.mem_append,List.mem_singleton,not_or] at h2
      constructor
      ·intro h;exact absurd h hcz
      ·intro h;exact absurd h.symm h2.2
    obtain ⟨B',h1,h2⟩:=Zom hc k _ _ _ _ hcr.1 hcr.2 (hm.set (by omega) hn) h (fun _=>hl0)
    refine ⟨B',?_,h2⟩
    rw [if_neg hz,if_neg]
    ·exact h1
    ·rw [hb,hq];simp
theorem Zjd (fs:List Fb):∀ (k:Nat) (n:Int) (acc acc':List Int),Xr fs k n acc=some acc'→(∀ z,z∈acc→z∈acc')∧(0≤n→n∈acc')∧(n<0→acc'=acc)
 | 0,_,_,_,h=>by cases h
 | k+1,n,acc,acc',h=>by
  unfold Xr at h
  split at h
  ·cases h;exact ⟨fun _ h=>h,fun _=>by omega,fun _=>rfl⟩
  ·split at h
   ·cases h
   ·have ih:=Zjd fs k _ _ _ h
    exact ⟨fun z hz=>ih.1 z (List.mem_append_left _ hz),fun _=>ih.1 n (by simp),fun _=>by omega⟩
theorem Zab {s:St} (h:Qp s=0):s.fibers.length≤5∧s.out.length≤30∧(∀ b,b∈s.fibers→b.frames.length≤6)∧0<s.fibers.length∧(-1≤s.now∧s.now<s.fibers.length)∧∀ b,b∈s.fibers→-1≤b.caller∧b.caller<s.fibers.length:=by
 unfold Qp at h
 split at h
 ·rename_i h1
  split at h
  ·rename_i h2
   split at h
   ·rename_i h3
    split at h
    ·rename_i h4
     split at h
     ·rename_i h5
      rw [Zaq] at h4
      simp only [List.all_eq_true,Zaq,decide_eq_true_eq] at h2 h5
      exact ⟨h1.1,h1.2,h2,h3,⟨h4.1,by omega⟩,fun b hb=>⟨(h5 b hb).1,by have:=(h5 b hb).2;omega⟩⟩
     ·cases h
    ·cases h
   ·cases h
  ·cases h
 ·cases h
def Bare (p:List Fn):Prop:=∀ (k i:Nat) (x:Int × Int),(Xd p k)[i]?=some x→x.1=14∨x.1=15→x.2=0
theorem Zcx {p:List Fn} (hb:Bare p) {x:Fr} (hx:Xi p x=true) {kd:Int} (hk:kd=14∨kd=15):Jf p x kd 0=Qi p x (kd,0):=by
 rw [Bool.eq_iff_iff]
 simp only [Xi,Bool.and_eq_true,Jm,decide_eq_true_eq] at hx
 simp only [Jf,Qi,Bool.and_eq_true,Bool.or_eq_true,Bool.not_eq_true',decide_eq_true_eq,decide_eq_false_iff_not,Prod.ext_iff]
 have h1:(¬ x.at_=0)↔0<x.at_:=by omega
 have h2:¬ kd=11:=by omega
 rw [h1]
 constructor
 ·rintro ⟨h3,h4,_⟩
  refine ⟨h3,h4,?_⟩
  have hlt:x.at_.toNat - 1<(Xd p x.fn.toNat).length:=by omega
  have:=hb x.fn.toNat (x.at_.toNat - 1) (Zag p x) (by unfold Zag;rw [Zs _ _ (0,0) hlt]) (by rw [h4];exact hk)
  exact this
 ·rintro ⟨h3,h4,_⟩
  exact ⟨h3,h4,.inl h2⟩
theorem Zar {α:Type} {l:List α} {P:α→Bool} {d:α} (h:l.all P=true) {k:Nat} (hk:k<l.length):P (l.getD k d)=true:=by
 rw [List.all_eq_true] at h
 exact h _ (List.mem_of_getElem? (Zs l k d hk))
theorem Ul {n:Nat} {P:Nat→Bool}:(List.range n).all P=true↔∀ k,k<n→P k=true:=by
 simp [List.all_eq_true]
theorem Ztb {p:List Fn} {b:Fb} (h:Jt p b=true):Qu p b.frames=true∧∃ x,b.frames=[x]:=by
 unfold Jt at h
 split at h
 ·rename_i x e;rw [e];exact ⟨rfl,x,rfl⟩
 ·cases h
theorem Zkq {p:List Fn} (hb:Bare p) {s:St} {k:Nat} {on:Bool} (hrun:(k:Int)=s.now→on=true) :
  (Qx p (s.fibers.getD k Fb.zero) on (decide ((k:Int)=s.now))=true∧¬ (k=0∧on=false∧(s.fibers.getD 0 Fb.zero).frames.isEmpty=false)) ↔
  ((s.fibers.getD k Fb.zero).frames.all (Xi p)=true∧(on || decide ((s.fibers.getD k Fb.zero).caller=-1))=true∧Wy p s k on=true):=by
 have h0:k=0→s.fibers.getD 0 Fb.zero=s.fibers.getD k Fb.zero:=by rintro rfl;rfl
 by_cases hk0:k=0
 ·rw [h0 hk0]
  generalize hbe:s.fibers.getD k Fb.zero=b at *
  unfold Qx Wy
  rw [hbe]
  cases hl:b.frames.getLast? with
  | none =>
   have:b.frames=[]:=by simpa using hl
   simp only [this,List.all_nil,List.isEmpty_nil]
   cases on <;> simp
  | some t =>
   have hne:b.frames.isEmpty=false:=by
    cases hf:b.frames with
    | nil=>rw [hf] at hl;cases hl
    | cons _ _=>rfl
   have ht:t∈b.frames:=by
    rw [List.getLast?_eq_some_iff] at hl
    obtain ⟨ys,hy⟩:=hl
    rw [hy];simp
   cases on with
   | false=>simp [hk0,hne]
   | true =>
    simp only [Bool.and_eq_true,Zer]
    by_cases hr:(k:Int)=s.now
    ·simp only [hr,decide_true,if_true]
     simp [and_assoc]
    ·simp only [hr,decide_false,if_false]
     simp
     constructor
     ·rintro ⟨⟨h1,h2⟩,h3⟩
      have:=Zcx hb (h1 t ht) (.inl rfl)
      exact ⟨h1,h2,by rw [← this];exact h3⟩
     ·rintro ⟨h1,h2,h3⟩
      have:=Zcx hb (h1 t ht) (.inl rfl)
      exact ⟨⟨h1,h2⟩,by rw [this];exact h3⟩
 ·generalize hbe:s.fibers.getD k Fb.zero=b at *
  unfold Qx Wy
  rw [hbe]
  cases hl:b.frames.getLast? with
  | none =>
   have:b.frames=[]:=by simpa using hl
   simp only [this,List.all_nil]
   cases on <;> simp [hk0]
  | some t =>
   have ht:t∈b.frames:=by
    rw [List.getLast?_eq_some_iff] at hl
    obtain ⟨ys,hy⟩:=hl
    rw [hy];simp
   simp only [Bool.and_eq_true,Zer]
   cases on with
   | true =>
    by_cases hr:(k:Int)=s.now
    ·simp only [hr,decide_true,if_true]
     simp [hk0,and_assoc]
    ·simp only [hr,decide_false,if_false]
     simp [hk0]
     constructor
     ·rintro ⟨⟨h1,h2⟩,h3⟩
      have:=Zcx hb (h1 t ht) (.inl rfl)
      exact ⟨h1,h2,by rw [← this];exact h3⟩
     ·rintro ⟨h1,h2,h3⟩
      have:=Zcx hb (h1 t ht) (.inl rfl)
      exact ⟨⟨h1,h2⟩,by rw [this];exact h3⟩
   | false =>
    have hr:¬ (k:Int)=s.now:=fun h=>by have:=hrun h;cases this
    simp only [hr,decide_false,if_false]
    simp [hk0]
    constructor
    ·rintro ⟨⟨h1,h2⟩,h3,h4⟩
     have:=Zcx hb (h1 t ht) (.inr rfl)
     refine ⟨h1,h3,?_⟩
     rcases h4 with h4 | h4
     ·exact .inl h4
     ·exact .inr ⟨h2,by rw [← this];exact h4⟩
    ·rintro ⟨h1,h3,h4⟩
     have:=Zcx hb (h1 t ht) (.inr rfl)
     rcases h4 with h4 | h4
     ·exact ⟨⟨h1,(Ztb h4).1⟩,h3,.inl h4⟩
     ·exact ⟨⟨h1,h4.1⟩,h3,.inr (by rw [this];exact h4.2)⟩
theorem Xae {p:List Fn} (hb:Bare p) {s:St} (hlim:Qp s=0):Pr p s=Yg p s:=by
 obtain ⟨hf5,ho,hfr,hpos,hnow,hcal⟩:=Zab hlim
 have hm0:Zav s.fibers.length (List.replicate s.fibers.length false) []:=⟨by simp,fun i hi=>by simp [List.getD,hi]⟩
 rw [Bool.eq_iff_iff]
 constructor
 ·intro h
  simp only [Pr,Bool.and_eq_true] at h
  obtain ⟨hall,h⟩:=h
  unfold Ur at h
  cases hj:Ye s.fibers (s.fibers.length+1) s.now (List.replicate s.fibers.length false) with
  | none=>rw [hj] at h;cases h
  | some B =>
   rw [hj] at h
   simp only at h
   by_cases hcl:((List.range s.fibers.length).all fun k=>B.getD k false || decide ((s.fibers.getD k Fb.zero).caller=-1))=true
   ·rw [if_pos hcl] at h
    simp only at h
    obtain ⟨l,h1,h2,h3,h4⟩:=Zlj hcal _ _ _ _ _ hnow.1 hnow.2 hm0 hj
    have hmem:=Zjd _ _ _ _ _ h1
    have hls:Qd s=some l:=by
     unfold Qd
     rw [h1]
     simp only
     rw [if_pos]
     by_cases hz:s.now=-1
     ·exact .inl (h3 hz)
     ·exact .inr (h4 hz)
    have hk:∀ k,k<s.fibers.length→(Qx p (s.fibers.getD k Fb.zero) (decide ((k:Int)∈l)) (decide ((k:Int)=s.now))=true∧¬ (k=0∧decide ((k:Int)∈l)=false∧(s.fibers.getD 0 Fb.zero).frames.isEmpty=false)):=by
     intro k hk
     rw [Ul] at h hcl
     have e:=h2.2 k hk
     have:=h k hk
     have hc:=hcl k hk
     rw [e] at this hc
     exact (Zkq hb (fun hn=>decide_eq_true (by rw [hn];exact hmem.2.1 (by omega)))).2 ⟨Zar hall hk,hc,this⟩
    unfold Yg
    rw [hls]
    simp only [Bool.and_eq_true]
    refine ⟨?_,Ul.2 fun k hk'=>?_⟩
    ·have:=(hk 0 hpos).2
     by_cases hz:s.now=-1
     ·have:l=[]:=h3 hz
      subst this
      simp at this ⊢
      exact .inr this
     ·simp [hz]
    ·obtain ⟨h5,h6⟩:=hk k hk'
     rw [Bool.and_eq_true]
     refine ⟨h5,?_⟩
     by_cases hk0:k=0
     ·subst hk0
      simp at h6 ⊢
      by_cases h7:(0:Int)∈l
      ·exact .inl h7
      ·exact .inr (h6 h7)
     ·simp [hk0]
   ·rw [if_neg hcl] at h;cases h
 ·intro h
  unfold Yg at h
  cases hls:Qd s with
  | none=>rw [hls] at h;cases h
  | some l =>
   rw [hls] at h
   simp only [Bool.and_eq_true] at h
   obtain ⟨_,h⟩:=h
   unfold Qd at hls
   cases hl:Xr s.fibers (s.fibers.length+1) s.now [] with
   | none=>rw [hl] at hls;cases hls
   | some l' =>
    rw [hl] at hls
    simp only at hls
    split at hls
    ·rename_i hlast
     cases hls
     have hmem:=Zjd _ _ _ _ _ hl
     obtain ⟨B,h1,h2⟩:=Zom hcal _ _ _ _ _ hnow.1 hnow.2 hm0 hl (fun hz=>by
      rcases hlast with rfl | h
      ·have:=hmem.2.1 (by omega);simp at this
      ·exact h)
     have hk:∀ k,k<s.fibers.length→((s.fibers.getD k Fb.zero).frames.all (Xi p)=true∧(decide ((k:Int)∈l) || decide ((s.fibers.getD k Fb.zero).caller=-1))=true∧Wy p s k (decide ((k:Int)∈l))=true):=by
      intro k hk
      have:=Ul.1 h k hk
      rw [Bool.and_eq_true] at this
      refine (Zkq hb (fun hn=>decide_eq_true (by rw [hn];exact hmem.2.1 (by omega)))).1 ⟨this.1,?_⟩
      rintro ⟨rfl,h5,h6⟩
      have h7:=this.2
      have h8:(0:Int) ∉ l:=by simpa using h5
      rw [h6] at h7
      simp [h8] at h7
     unfold Pr
     rw [Bool.and_eq_true]
     refine ⟨?_,?_⟩
     ·rw [List.all_eq_true]
      intro b hbm
      obtain ⟨i,hi,rfl⟩:=List.getElem_of_mem hbm
      have:=(hk i hi).1
      simpa [List.getD,hi] using this
     ·unfold Ur
      rw [h1]
      simp only
      rw [if_pos]
      ·simp only
       exact Ul.2 fun k hk'=>by rw [h2.2 k hk'];exact (hk k hk').2.2
      ·exact Ul.2 fun k hk'=>by rw [h2.2 k hk'];exact (hk k hk').2.1
    ·cases hls
theorem Zvu {p:List Fn} (hb:Bare p) (s:St):Pc p s=if Qp s=0 then (if Yg p s=true then 0 else 1) else Qp s:=by
 unfold Pc
 by_cases h:Qp s=0
 ·rw [if_pos h,if_pos h,Xae hb h]
 ·rw [if_neg h,if_neg h]
def Fb.top (b:Fb):Fr:=b.frames.getLast?.getD Fr.zero
def St.fib (s:St) (n:Int):Fb:=s.fibers.getD n.toNat Fb.zero
def St.turn (s:St) (n:Int) (g:Fb→Fb):St:={ s with fibers:=s.fibers.set n.toNat (g (s.fib n)) }
def Fb.turnTop (b:Fb) (g:Fr→Fr):Fb:={ b with frames:=b.frames.set (b.frames.length - 1) (g b.top) }
def St.top (s:St):Fr:=(s.fib s.now).top
def St.turnTop (s:St) (n:Int) (g:Fr→Fr):St:=s.turn n fun b=>b.turnTop g
def Zy (s:St) (n v:Int):St:=s.turnTop n fun f=>{ f with stack:=f.stack++[v] }
def Zl (s:St):Int:=s.top.stack.getLast?.getD 0
def Zf (s:St):St:=s.turnTop s.now fun f=>{ f with stack:=f.stack.dropLast }
def Jk (s:St) (a:Int):St:=s.turnTop s.now fun f=>{ f with at_:=a }
def Qq (s:St) (v:Int):St × Int:=if s.out.length=30 then (St.zero,2) else ({ s with out:=s.out++[v] },0)
def Jy (p:List Fn) (f:Int) (vals:List Int):Fr:=⟨f,0,vals++List.replicate ((p.getD f.toNat Fn.zero).locals.toNat - vals.length) 0,[]⟩
def Wg (s:St):St × Int :=
 let v:=Zl s
 let s1:St:=(Zf s).turn s.now fun b=>{ b with frames:=b.frames.dropLast }
 if (s1.fib s.now).frames=[] then
  if (s1.fib s.now).caller<0 then Qq { s1 with now:=-1 } v
  else (Zy { (s1.turn s.now fun b=>{ b with caller:=-1 }) with now:=(s1.fib s.now).caller } (s1.fib s.now).caller v,0)
 else (Zy s1 s.now v,0)
def Ue (s:St):St × Int :=
 let v:=Zl s
 let n:=Zl (Zf s)
 let s1:=Zf (Zf s)
 if ixB n s1.fibers.length=true then
  if n∈(Xr s1.fibers (s1.fibers.length+1) s1.now []).getD []∨(s1.fib n).frames=[] then (St.zero,6)
  else
   let s2:St:={ (s1.turn n fun b=>{ b with caller:=s1.now }) with now:=n }
   if s2.top.at_=0 then (s2.turnTop n fun f=>{ f with locals:=f.locals.set 0 v },0) else (Zy s2 n v,0)
 else (St.zero,5)
def Pk (p:List Fn) (s:St) (f:Int):St × Int :=
 let k:=(p.getD f.toNat Fn.zero).args.toNat
 let vals:=s.top.stack.drop (s.top.stack.length - k)
 let s1:=s.turnTop s.now fun x=>{ x with stack:=x.stack.take (x.stack.length - k) }
 if (s1.fib s.now).frames.length=6 then (St.zero,2)
 else (s1.turn s.now fun b=>{ b with frames:=b.frames++[Jy p f vals] },0)
def Wp (s:St):St × Int :=
 let v:=Zl s
 let s1:=Zf s
 if (s1.fib s.now).caller<0 then (St.zero,7)
 else (Zy { (s1.turn s.now fun b=>{ b with caller:=-1 }) with now:=(s1.fib s.now).caller } (s1.fib s.now).caller v,0)
def Zaw (z:Int):Int:=Int.bmod z (2 ^ 64)
def Zde (b:Bool):Int:=if b=true then 1 else 0
def Jl (kd a b:Int):Int :=
 if kd=4 then Zaw (a+b) else if kd=5 then Zaw (a - b) else if kd=6 then Zaw (a*b) else if kd=7 then Zde (decide (a<b)) else Zde (decide (a=b))
def Ww (p:List Fn) (s:St) (f:Int):St × Int :=
 if s.fibers.length=5 then (St.zero,2)
 else ({ Zy s s.now s.fibers.length with fibers:=(Zy s s.now s.fibers.length).fibers++[⟨[Jy p f []],-1⟩] },0)
def Zz (p:List Fn) (s0:St):St × Int :=
 let x:=(Xd p s0.top.fn.toNat).getD s0.top.at_.toNat (0,0)
 let s:=Jk s0 (s0.top.at_+1)
 if x.1=0 then (Zy s s.now x.2,0)
 else if x.1=1 then (Zf s,0)
 else if x.1=2 then (Zy s s.now (s.top.locals.getD x.2.toNat 0),0)
 else if x.1=3 then ((Zf s).turnTop s.now fun f=>{ f with locals:=f.locals.set x.2.toNat (Zl s) },0)
 else if x.1=9 then (Jk s x.2,0)
 else if x.1=10 then (if Zl s=0 then Jk (Zf s) x.2 else Zf s,0)
 else if x.1=11 then Pk p s x.2
 else if x.1=12 then Wg s
 else if x.1=13 then Ww p s x.2
 else if x.1=14 then Ue s
 else if x.1=15 then Wp s
 else if x.1=16 then Qq (Zf s) (Zl s)
 else (Zy (Zf (Zf s)) s.now (Jl x.1 (Zl (Zf s)) (Zl s)),0)
def Uf (p:List Fn) (s:St):St × Int:=if s.now<0 then (St.zero,8) else Zz p s
def Qf (p:List Fn):Nat→St→St × Nat × Int
 | 0,s=>(s,0,0)
 | k+1,s=>if s.now<0 then (s,0,0) else if (Uf p s).2=0 then ((Qf p k (Uf p s).1).1,(Qf p k (Uf p s).1).2.1+1,(Qf p k (Uf p s).1).2.2) else (s,0,(Uf p s).2)
def Pe (p:List Fn):St:=⟨[⟨[⟨0,0,List.replicate (p.getD 0 Fn.zero).locals.toNat 0,[]⟩],-1⟩],0,[]⟩
theorem Zem (s:St) (i:Nat):(Zc s i).top=Ze s i ((Zc s i).frames.length - 1):=by
 unfold Fb.top Ze
 rw [List.getLast?_eq_getElem?]
 simp [List.getD]
theorem Uj (s:St) (i:Nat) (g:Fr→Fr):s.turnTop (i:Int) g=Qc s i ((Zc s i).frames.length - 1) (g (Ze s i ((Zc s i).frames.length - 1))):=by
 unfold St.turnTop St.turn Fb.turnTop Qc Zj St.fib
 rw [Int.toNat_natCast]
 show _={ s with fibers:=_ }
 rw [← Zem s i]
 rfl
structure Zu (s:St) (i:Nat):Prop where
 lt:i<s.fibers.length
 fr:0<(Zc s i).frames.length
 frs:(Zc s i).frames.length≤1000
 st:(Ze s i ((Zc s i).frames.length - 1)).stack.length≤1000
theorem Ym (s:St) (i:Nat):s.fib (i:Int)=Zc s i:=by unfold St.fib Zc;rw [Int.toNat_natCast]
theorem Wj (s:St) (i:Nat) (g:Fb→Fb):s.turn (i:Int) g=Zj s i (g (Zc s i)):=by
 unfold St.turn;rw [Ym,Int.toNat_natCast];rfl
theorem Yj {s:St} {i:Nat} (hn:s.now=i):Zf s=Qc s i ((Zc s i).frames.length - 1) { Ze s i ((Zc s i).frames.length - 1) with stack:=(Ze s i ((Zc s i).frames.length - 1)).stack.dropLast }:=by
 unfold Zf
 rw [hn,Uj]
theorem Zcs {s:St} {i j k:Nat} (f:Fr) (h:i≠k):Zc (Qc s i j f) k=Zc s k:=Qo _ h
theorem Zu.other {s s':St} {k:Nat} (h:Zu s k) (hl:s'.fibers.length=s.fibers.length) (hf:Zc s' k=Zc s k):Zu s' k:=by
 have hfr:∀ j,Ze s' k j=Ze s k j:=fun j=>by unfold Ze;rw [hf]
 exact ⟨by rw [hl];exact h.lt,by rw [hf];exact h.fr,by rw [hf];exact h.frs,by rw [hfr,hf];exact h.st⟩
def Zi (s:St) (i ai:Nat):St:=Qc s i ((Zc s i).frames.length - 1) { Ze s i ((Zc s i).frames.length - 1) with at_:=(ai:Int)+1 }
theorem Zgk {s:St} {i:Nat} (hn:s.now=i) (a:Int):Jk s a=Qc s i ((Zc s i).frames.length - 1) { Ze s i ((Zc s i).frames.length - 1) with at_:=a }:=by
 unfold Jk
 rw [hn,Uj]
theorem Zak {s:St} {i:Nat} (hn:s.now=i):s.top=Ze s i ((Zc s i).frames.length - 1):=by
 unfold St.top St.fib
 rw [hn,Int.toNat_natCast,show s.fibers.getD i Fb.zero=Zc s i from rfl,Zem]
theorem Yr {s:St} {i:Nat} (hn:s.now=i) (hr:Zu s i) (ai:Nat) :
  (Zi s i ai).now=i∧(Zi s i ai).fibers.length=s.fibers.length∧(Zi s i ai).out=s.out∧(∀ k,(Zc (Zi s i ai) k).caller=(Zc s k).caller)∧(∀ k,(Zc (Zi s i ai) k).frames.length=(Zc s k).frames.length) ∧
  Ze (Zi s i ai) i ((Zc s i).frames.length - 1)={ Ze s i ((Zc s i).frames.length - 1) with at_:=(ai:Int)+1 }∧(∀ k,k≠i→Zc (Zi s i ai) k=Zc s k)∧Zu (Zi s i ai) i:=by
 have hj:(Zc s i).frames.length - 1<(Zc s i).frames.length:=by have:=hr.fr;omega
 have h6:Ze (Zi s i ai) i ((Zc s i).frames.length - 1)={ Ze s i ((Zc s i).frames.length - 1) with at_:=(ai:Int)+1 }:=Wd _ hr.lt hj
 have h5:∀ k,(Zc (Zi s i ai) k).frames.length=(Zc s k).frames.length:=fun k=>Ua _ hr.lt k
 have h2:(Zi s i ai).fibers.length=s.fibers.length:=Xh _ _ _
 refine ⟨hn,h2,rfl,fun k=>Zad _ hr.lt k,h5,h6,fun k hk=>Zcs _ (fun e=>hk e.symm),⟨by rw [h2];exact hr.lt,by rw [h5];exact hr.fr,by rw [h5];exact hr.frs,?_⟩⟩
 rw [h5,h6]
 exact hr.st
theorem Zgw {s:St} {i:Nat} (ai k:Nat) (hk:k≠i) (h:Zu s k):Zu (Zi s i ai) k :=
 h.other (Xh _ _ _) (Zcs _ (fun e=>hk e.symm))
theorem Zcn {s:St} {i:Nat} (hr:Zu s i) (ai t q:Nat):(Ze (Zi s i ai) t q).stack=(Ze s t q).stack∧(Ze (Zi s i ai) t q).locals=(Ze s t q).locals∧(Ze (Zi s i ai) t q).fn=(Ze s t q).fn:=by
 have hj:(Zc s i).frames.length - 1<(Zc s i).frames.length:=by have:=hr.fr;omega
 unfold Zi
 by_cases e:i=t∧(Zc s i).frames.length - 1=q
 ·obtain ⟨rfl,rfl⟩:=e
  rw [Wd _ hr.lt hj]
  exact ⟨rfl,rfl,rfl⟩
 ·rw [Pj _ hr.lt e]
  exact ⟨rfl,rfl,rfl⟩
theorem Znm {p:List Fn} {s:St} {i fi ai:Nat} {kd a:Int} (hn:s.now=i) (hf:(Ze s i ((Zc s i).frames.length - 1)).fn=fi) (ha:(Ze s i ((Zc s i).frames.length - 1)).at_=ai) (hx:(Xd p fi).getD ai (0,0)=(kd,a)) :
  Zz p s=(if kd=0 then (Zy (Zi s i ai) i a,0)
   else if kd=1 then (Zf (Zi s i ai),0)
   else if kd=2 then (Zy (Zi s i ai) i ((Zi s i ai).top.locals.getD a.toNat 0),0)
   else if kd=3 then ((Zf (Zi s i ai)).turnTop i fun f=>{ f with locals:=f.locals.set a.toNat (Zl (Zi s i ai)) },0)
   else if kd=9 then (Jk (Zi s i ai) a,0)
   else if kd=10 then (if Zl (Zi s i ai)=0 then Jk (Zf (Zi s i ai)) a else Zf (Zi s i ai),0)
   else if kd=11 then Pk p (Zi s i ai) a
   else if kd=12 then Wg (Zi s i ai)
   else if kd=13 then Ww p (Zi s i ai) a
   else if kd=14 then Ue (Zi s i ai)
   else if kd=15 then Wp (Zi s i ai)
   else if kd=16 then Qq (Zf (Zi s i ai)) (Zl (Zi s i ai))
   else (Zy (Zf (Zf (Zi s i ai))) i (Jl kd (Zl (Zf (Zi s i ai))) (Zl (Zi s i ai))),0)):=by
 unfold Zz
 have ht:=Zak hn
 have hs:Jk s (s.top.at_+1)=Zi s i ai:=by rw [Zgk hn,ht,ha];rfl
 have hnow:(Zi s i ai).now=i:=hn
 simp only []
 rw [hs,ht,hf,ha,Int.toNat_natCast,Int.toNat_natCast,hx,hnow]
def Zdb (kd:Int):Nat:=if kd=0∨kd=2∨kd=9∨kd=11∨kd=13 then 0 else if kd=1∨kd=3∨kd=10∨kd=12∨kd=15∨kd=16 then 1 else 2
def Jd (p:List Fn) (f:Fr):Int × Int:=(Xd p f.fn.toNat).getD f.at_.toNat (0,0)
def Zey (p:List Fn) (f:Fr):Prop :=
 Zdb (Jd p f).1≤f.stack.length ∧
 ((Jd p f).1=2∨(Jd p f).1=3→0≤(Jd p f).2∧(Jd p f).2.toNat<f.locals.length) ∧
 ((Jd p f).1=11→0≤(Jd p f).2∧(Jd p f).2.toNat<p.length∧0≤(p.getD (Jd p f).2.toNat Fn.zero).args∧(p.getD (Jd p f).2.toNat Fn.zero).args≤(p.getD (Jd p f).2.toNat Fn.zero).locals∧(p.getD (Jd p f).2.toNat Fn.zero).locals≤1000∧(p.getD (Jd p f).2.toNat Fn.zero).args.toNat≤f.stack.length) ∧
 ((Jd p f).1=13→0≤(Jd p f).2∧(Jd p f).2.toNat<p.length∧0≤(p.getD (Jd p f).2.toNat Fn.zero).locals∧(p.getD (Jd p f).2.toNat Fn.zero).locals≤1000)
def OkS (p:List Fn) (s:St):Prop :=
 (0≤s.now∧s.now.toNat<s.fibers.length∧s.fibers.length≤5∧s.out.length≤30) ∧
 (∀ b∈s.fibers,(b.frames.length≤6∧-1≤b.caller∧b.caller<s.fibers.length)∧∀ f∈b.frames,f.locals.length≤1000∧f.stack.length≤1000) ∧
 0<(Zc s s.now.toNat).frames.length ∧
 (0≤(Zc s s.now.toNat).caller→(Zc s s.now.toNat).caller≠s.now∧0<(Zc s (Zc s s.now.toNat).caller.toNat).frames.length) ∧
 ((Qd s).isSome=true∧s.now∈(Qd s).getD []) ∧
 (∀ k,k<s.fibers.length→(k:Int) ∉ (Qd s).getD []→0<(Zc s k).frames.length→(Ze s k ((Zc s k).frames.length - 1)).at_=0→0<(Ze s k ((Zc s k).frames.length - 1)).locals.length) ∧
 (0≤s.top.fn∧s.top.fn.toNat<p.length∧0≤s.top.at_∧s.top.at_.toNat<(Xd p s.top.fn.toNat).length∧(Xd p s.top.fn.toNat).length≤1000)∧Zey p s.top
theorem Zbs {s:St} (i:Nat) (hi:i<s.fibers.length):Zc s i∈s.fibers:=by
 have:Zc s i=s.fibers[i]:=by simp [Zc,List.getD,hi]
 rw [this];exact List.getElem_mem hi
theorem Zho {s:St} (i j:Nat) (hj:j<(Zc s i).frames.length):Ze s i j∈(Zc s i).frames:=by
 have:Ze s i j=(Zc s i).frames[j]:=by simp [Ze,List.getD,hj]
 rw [this];exact List.getElem_mem hj
theorem Zoj (s:St) (v:Int) (h:(Qq s v).2≠0):(Qq s v).1=St.zero:=by
 unfold Qq at h ⊢
 split
 ·rfl
 ·rename_i hh;rw [if_neg hh] at h;exact absurd rfl h
theorem Zxd (s:St) (h:(Wg s).2≠0):(Wg s).1=St.zero:=by
 unfold Wg at h ⊢
 simp only at h ⊢
 split
 ·rename_i h1
  rw [if_pos h1] at h
  split
  ·rename_i h2
   rw [if_pos h2] at h
   exact Zoj _ _ h
  ·rename_i h2
   rw [if_neg h2] at h
   exact absurd rfl h
 ·rename_i h1
  rw [if_neg h1] at h
  exact absurd rfl h
theorem Xah (s:St) (h:(Ue s).2≠0):(Ue s).1=St.zero:=by
 unfold Ue at h ⊢
 simp only at h ⊢
 split
 ·rename_i h1
  rw [if_pos h1] at h
  split
  ·rfl
  ·rename_i h2
   rw [if_neg h2] at h
   split
   ·rename_i h3;rw [if_pos h3] at h;exact absurd rfl h
   ·rename_i h3;rw [if_neg h3] at h;exact absurd rfl h
 ·rfl
theorem Xbx (p:List Fn) (s:St) (f:Int) (h:(Pk p s f).2≠0):(Pk p s f).1=St.zero:=by
 unfold Pk at h ⊢
 simp only at h ⊢
 split
 ·rfl
 ·rename_i hh;rw [if_neg hh] at h;exact absurd rfl h
theorem Zwd (s:St) (h:(Wp s).2≠0):(Wp s).1=St.zero:=by
 unfold Wp at h ⊢
 simp only at h ⊢
 split
 ·rfl
 ·rename_i hh;rw [if_neg hh] at h;exact absurd rfl h
theorem Zoz (p:List Fn) (s:St) (f:Int) (h:(Ww p s f).2≠0):(Ww p s f).1=St.zero:=by
 unfold Ww at h ⊢
 split
 ·rfl
 ·rename_i hh;rw [if_neg hh] at h;exact absurd rfl h
theorem Zmj {p:List Fn} {s:St} (h:(Zz p s).2≠0):(Zz p s).1=St.zero:=by
 unfold Zz at h ⊢
 simp only at h ⊢
 generalize (Xd p s.top.fn.toNat).getD s.top.at_.toNat (0,0)=x at h ⊢
 generalize Jk s (s.top.at_+1)=t at h ⊢
 by_cases k0:x.1=0
 ·rw [if_pos k0] at h;exact absurd rfl h
 rw [if_neg k0] at h ⊢
 by_cases k1:x.1=1
 ·rw [if_pos k1] at h;exact absurd rfl h
 rw [if_neg k1] at h ⊢
 by_cases k2:x.1=2
 ·rw [if_pos k2] at h;exact absurd rfl h
 rw [if_neg k2] at h ⊢
 by_cases k3:x.1=3
 ·rw [if_pos k3] at h;exact absurd rfl h
 rw [if_neg k3] at h ⊢
 by_cases k9:x.1=9
 ·rw [if_pos k9] at h;exact absurd rfl h
 rw [if_neg k9] at h ⊢
 by_cases k10:x.1=10
 ·rw [if_pos k10] at h;exact absurd rfl h
 rw [if_neg k10] at h ⊢
 by_cases k11:x.1=11
 ·rw [if_pos k11] at h ⊢;exact Xbx _ _ _ h
 rw [if_neg k11] at h ⊢
 by_cases k12:x.1=12
 ·rw [if_pos k12] at h ⊢;exact Zxd _ h
 rw [if_neg k12] at h ⊢
 by_cases k13:x.1=13
 ·rw [if_pos k13] at h ⊢;exact Zoz _ _ _ h
 rw [if_neg k13] at h ⊢
 by_cases k14:x.1=14
 ·rw [if_pos k14] at h ⊢;exact Xah _ h
 rw [if_neg k14] at h ⊢
 by_cases k15:x.1=15
 ·rw [if_pos k15] at h ⊢;exact Zwd _ h
 rw [if_neg k15] at h ⊢
 by_cases k16:x.1=16
 ·rw [if_pos k16] at h ⊢;exact Zoj _ _ h
 rw [if_neg k16] at h
 exact absurd rfl h
def Zch (p:List Fn):Nat→St→Prop
 | 0,_=>True
 | k+1,s=>s.now<0∨(OkS p s∧Jn (Zz p s).1∧((Zz p s).2=0→Zch p k (Zz p s).1))
theorem Zcd (p:List Fn) (k:Nat) (s:St) (h:k=0∨s.now<0):Qf p k s=(s,0,0):=by
 cases k with
 | zero=>rfl
 | succ k =>
  rcases h with h | h
  ·cases h
  ·unfold Qf;rw [if_pos h]
theorem Zgt (p:List Fn) (k:Nat) (s:St) (h:¬ s.now<0) (he:(Zz p s).2≠0):Qf p (k+1) s=(s,0,(Zz p s).2):=by
 unfold Qf
 have:Uf p s=Zz p s:=by unfold Uf;rw [if_neg h]
 rw [if_neg h,this,if_neg he]
theorem Zhq (p:List Fn) (k:Nat) (s:St) (h:¬ s.now<0) (he:(Zz p s).2=0):Qf p (k+1) s=((Qf p k (Zz p s).1).1,(Qf p k (Zz p s).1).2.1+1,(Qf p k (Zz p s).1).2.2):=by
 conv=>lhs;unfold Qf
 have:Uf p s=Zz p s:=by unfold Uf;rw [if_neg h]
 rw [if_neg h,this,if_pos he]
theorem Zct {fs fs':List Fb} (h:∀ n,Xt fs n=Xt fs' n):∀ (k:Nat) (n:Int) (acc:List Int),Xr fs k n acc=Xr fs' k n acc
 | 0,_,_=>rfl
 | k+1,n,acc=>by
  unfold Xr
  rw [h n,Zct h k]
def Xw (s:St) (i t:Nat):St:=Qc s i ((Zc s i).frames.length - 1) { Ze s i ((Zc s i).frames.length - 1) with stack:=(Ze s i ((Zc s i).frames.length - 1)).stack.take ((Ze s i ((Zc s i).frames.length - 1)).stack.length - t) }
theorem Ziw {α:Type} (l:List α) (i:Nat) (d:α) (h:i<l.length):l.set i (l.getD i d)=l:=by
 apply List.ext_getElem
 ·simp
 ·intro k h1 h2
  rw [List.getElem_set]
  split
  ·rename_i e;subst e;simp [List.getD,h]
  ·rfl
theorem Zpm {s:St} {i:Nat} (hr:Zu s i):Xw s i 0=s:=by
 unfold Xw Qc Zj
 rw [Nat.sub_zero,List.take_length]
 have h1:(Zc s i).frames.set ((Zc s i).frames.length - 1) (Ze s i ((Zc s i).frames.length - 1))=(Zc s i).frames:=Ziw _ _ _ (by have:=hr.fr;omega)
 have h2:({ Zc s i with frames:=(Zc s i).frames.set ((Zc s i).frames.length - 1) { Ze s i ((Zc s i).frames.length - 1) with stack:=(Ze s i ((Zc s i).frames.length - 1)).stack } }:Fb)=Zc s i:=by
  show ({ Zc s i with frames:=(Zc s i).frames.set ((Zc s i).frames.length - 1) (Ze s i ((Zc s i).frames.length - 1)) }:Fb)=Zc s i
  rw [h1]
 rw [h2]
 have h3:s.fibers.set i (Zc s i)=s.fibers:=Ziw _ _ _ hr.lt
 rw [h3]
theorem Zes {s:St} {i:Nat} (hr:Zu s i) (t:Nat):(Xw s i t).fibers.length=s.fibers.length∧(Xw s i t).now=s.now∧(Xw s i t).out=s.out∧(Zc (Xw s i t) i).frames.length=(Zc s i).frames.length ∧
  (Ze (Xw s i t) i ((Zc s i).frames.length - 1)).stack=(Ze s i ((Zc s i).frames.length - 1)).stack.take ((Ze s i ((Zc s i).frames.length - 1)).stack.length - t)∧Zu (Xw s i t) i:=by
 have hj:(Zc s i).frames.length - 1<(Zc s i).frames.length:=by have:=hr.fr;omega
 have h5:(Ze (Xw s i t) i ((Zc s i).frames.length - 1)).stack=(Ze s i ((Zc s i).frames.length - 1)).stack.take ((Ze s i ((Zc s i).frames.length - 1)).stack.length - t):=by
  unfold Xw;rw [Wd _ hr.lt hj]
 have h1:(Xw s i t).fibers.length=s.fibers.length:=Xh _ _ _
 have h4:(Zc (Xw s i t) i).frames.length=(Zc s i).frames.length:=Ua _ hr.lt i
 refine ⟨h1,rfl,rfl,h4,h5,⟨by rw [h1];exact hr.lt,by rw [h4];exact hr.fr,by rw [h4];exact hr.frs,?_⟩⟩
 rw [h4,h5,List.length_take]
 have:=hr.st
 omega
theorem Ztz {s:St} {i:Nat} (hn:s.now=i) (hr:Zu s i) {t:Nat} (ht:t<(Ze s i ((Zc s i).frames.length - 1)).stack.length) :
  Zf (Xw s i t)=Xw s i (t+1)∧Zl (Xw s i t)=(Ze s i ((Zc s i).frames.length - 1)).stack.getD ((Ze s i ((Zc s i).frames.length - 1)).stack.length - t - 1) 0:=by
 obtain ⟨f1,f2,f3,f4,f5,f6⟩:=Zes hr t
 have hj:(Zc s i).frames.length - 1<(Zc s i).frames.length:=by have:=hr.fr;omega
 have hn':(Xw s i t).now=i:=by rw [f2];exact hn
 constructor
 ·rw [Yj hn',f4]
  have hfr:Ze (Xw s i t) i ((Zc s i).frames.length - 1)={ Ze s i ((Zc s i).frames.length - 1) with stack:=(Ze s i ((Zc s i).frames.length - 1)).stack.take ((Ze s i ((Zc s i).frames.length - 1)).stack.length - t) }:=by
   unfold Xw;rw [Wd _ hr.lt hj]
  rw [hfr]
  generalize hl:(Ze s i ((Zc s i).frames.length - 1)).stack=l at *
  have hdl:(l.take (l.length - t)).dropLast=l.take (l.length - (t+1)):=by
   rw [List.dropLast_eq_take,List.length_take,List.take_take]
   congr 1
   omega
  simp only [hdl]
  unfold Xw
  rw [hl]
  unfold Qc Zj
  simp only
  have hset:Zc { s with fibers:=s.fibers.set i { Zc s i with frames:=(Zc s i).frames.set ((Zc s i).frames.length - 1) { Ze s i ((Zc s i).frames.length - 1) with stack:=l.take (l.length - t) } } } i={ Zc s i with frames:=(Zc s i).frames.set ((Zc s i).frames.length - 1) { Ze s i ((Zc s i).frames.length - 1) with stack:=l.take (l.length - t) } }:=Xu (s:=s) _ hr.lt
  rw [hset]
  simp only [List.set_set]
 ·unfold Zl St.top
  rw [hn',Ym,Zem,f4,f5,List.getLast?_eq_getElem?,List.length_take]
  generalize (Ze s i ((Zc s i).frames.length - 1)).stack=l at *
  rw [Nat.min_eq_left (by omega),List.getElem?_take,if_pos (by omega)]
  rfl
theorem Zmb {p:List Fn} {s:St} {i f2 a2 lo2:Nat} (hn:s.now=i) (hr:Zu s i) (ha:(p.getD f2 Fn.zero).args=a2) (hl:(p.getD f2 Fn.zero).locals=lo2) :
  Pk p s f2=if (Zc s i).frames.length=6 then (St.zero,(2:Int)) else (Zj (Xw s i a2) i { Zc (Xw s i a2) i with frames:=(Zc (Xw s i a2) i).frames++[⟨f2,0,(Ze s i ((Zc s i).frames.length - 1)).stack.drop ((Ze s i ((Zc s i).frames.length - 1)).stack.length - a2)++List.replicate (lo2 - ((Ze s i ((Zc s i).frames.length - 1)).stack.drop ((Ze s i ((Zc s i).frames.length - 1)).stack.length - a2)).length) 0,[]⟩] },0):=by
 have ht:=Zak hn
 have hs1:(s.turnTop s.now fun x=>{ x with stack:=x.stack.take (x.stack.length - a2) })=Xw s i a2:=by rw [hn,Uj];rfl
 obtain ⟨f1,f2',f3,f4,f5,f6⟩:=Zes hr a2
 unfold Pk
 simp only [Int.toNat_natCast,ha]
 rw [hs1,hn,Ym,Wj,f4,ht]
 unfold Jy
 rw [Int.toNat_natCast,hl,Int.toNat_natCast]
open Go.RowKit
theorem Zg.kept {base bs:Nat} {w w':World} {V:Key→Value} {s:St} (h:Zg base w bs V s) (hk:Za w w'):Zg base w' bs V s :=
 ⟨(hk.block bs (lt_of_block h.var)).trans h.var,h.own.same (fun k g hlk hg=>hk.block g ((h.own.piece k hlk).block g hg).2),h.off,h.low⟩
theorem Zg.below {base bs:Nat} {w w':World} {V:Key→Value} {s:St} (h:Zg base w bs V s) (hk:Za w w'):Below base w w' :=
 Below.mono hk (by have:=h.low;have:=lt_of_block h.var;omega)
structure DoAt (base:Nat) (w:World) (s:St) (i bp op n fi ai cb co cl cc:Nat) (kd a:Int):Prop where
 now:s.now=i
 runs:Zu s i
 fn:(Ze s i ((Zc s i).frames.length - 1)).fn=fi
 at_:(Ze s i ((Zc s i).frames.length - 1)).at_=ai
 fin:fi<n
 ain:ai<cl
 most:cl≤1000
 cells:∀ u,Below base w u→u.cell? ⟨bp,op+fi*3+2,none⟩=some (.slice (some ⟨cb,co,none⟩) cl cc)∧u.cell? ⟨cb,co+ai*2,none⟩=some (.int .i64 kd)∧u.cell? ⟨cb,co+ai*2+1,none⟩=some (.int .i64 a)
theorem Zcv (z:Int):wrap64 z=Zaw z:=by
 unfold wrap64 Zaw
 rw [Int.bmod_def]
 omega
def Zfl (p q:List Fn):Prop:=q.length=p.length∧∀ k,(q.getD k Fn.zero).args=(p.getD k Fn.zero).args∧(q.getD k Fn.zero).locals=(p.getD k Fn.zero).locals
theorem Zfl.eff {p q:List Fn} (h:Zfl p q) (kd a:Int):Qn q kd a=Qn p kd a:=by
 unfold Qn
 rw [h.1,(h.2 a.toNat).1]
theorem Zfl.beh {p q:List Fn} (h:Zfl p q) (x:Int × Int) (z:Int):beh q x z=beh p x z:=by
 unfold Proofs.YtblihfpigjiahaaGreatDoor.beh
 rw [h.eff]
def hgtL (p:List Fn) (k:Nat):List Int:=(Qe p (Xd p k)).getD []
theorem Zhd {p:List Fn} (h:Xq p=0) {k:Nat} (hk:k<p.length):Qe p (Xd p k)=some (hgtL p k):=by
 unfold Xq at h
 split at h
 ·cases h
 ·split at h
  ·cases h
  ·split at h
   ·cases h
   ·split at h
    ·have:=Zen h k (by omega) (by omega)
     unfold Yn at this
     unfold hgtL
     split at this
     ·rename_i H hH;rw [hH];rfl
     ·cases this
    ·rename_i h0;exact absurd h h0
theorem Zlm {p:List Fn} (h:Xq p=0) {k:Nat} (hk:k<p.length):Yf p (Xd p k):=by
 obtain ⟨_,_,hck⟩:=Zaj h
 obtain ⟨_,_,hops⟩:=Zjf (hck k hk)
 exact ⟨p.getD k Fn.zero,rfl,fun x hx=>Zdi hops x hx⟩
theorem Zeo {p:List Fn} (h:Xq p=0) {k:Nat} (hk:k<p.length):Cons p (Xd p k) (hgt p k)∧Yb p (Xd p k) (hgt p k) :=
 Zef (Zlm h hk) (Zhd h hk)
theorem Zns {p:List Fn} (h:Xq p=0) {k:Nat} (hk:k<p.length) (a:Nat):-1≤(hgt p k).getD a 0∧(hgt p k).getD a 0≤8:=by
 by_cases ha:a<(hgt p k).length
 ·obtain ⟨hc,hs⟩:=Zeo h hk
  rcases hs a (by rw [← hc.len];exact ha) with e | ⟨h0,hr⟩
  ·omega
  ·have:=hr (fun _ z=>z≤8) (by omega) (fun k' z x m j _ hx hm _=>(Pp (Zlm h hk) (List.mem_of_getElem? hx) hm).2)
   exact ⟨by omega,this⟩
 ·simp [List.getD,List.getElem?_eq_none (by omega:(hgt p k).length≤a)]
theorem Zvw {p:List Fn} (h:Xq p=0):Bare p:=by
 intro k i x hx hk
 by_cases hkl:k<p.length
 ·obtain ⟨_,_,hck⟩:=Zaj h
  obtain ⟨_,_,hops⟩:=Zjf (hck k hkl)
  obtain ⟨_,_,hm⟩:=Wm (Zdi hops x (List.mem_of_getElem? hx))
  have ho:opd x.1.toNat=0:=by rcases hk with e | e <;> rw [e] <;> rfl
  rw [ho] at hm
  simpa [Qg] using hm
 ·have:Xd p k=[]:=by
   unfold Xd
   simp [List.getD,List.getElem?_eq_none (by omega:p.length≤k),Fn.zero]
  rw [this] at hx
  simp at hx
end Go.Proofs.YtblihfpigjiahaaGreatDoor
