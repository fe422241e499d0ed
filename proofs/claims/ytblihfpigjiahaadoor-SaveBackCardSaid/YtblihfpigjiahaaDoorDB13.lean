/- StateS, StateU, StepS, OkP, DoAt, TrimS, StateLp -/
import Derived.Test.YtblihfpigjiahaaDoorDB11
import Derived.Test.YtblihfpigjiahaaDoorDB12
import Derived.Test.YtblihfpigjiahaaDoorDB09
set_option maxRecDepth 100000
set_option maxHeartbeats 8000000
namespace Go.Proofs.YtblihfpigjiahaaDoor
def hgt (p:List Fn) (k:Nat):List Int:=(Qc p (Zw p k)).getD []
def hAt (p:List Fn) (x:Fr):Int:=(hgt p x.fn.toNat).getD x.at_.toNat 0
def Pr (p:List Fn) (x:Fr):Int × Int:=(Zw p x.fn.toNat).getD (x.at_.toNat - 1) (0,0)
def Zx (p:List Fn) (x:Fr):Bool :=
 ixB x.fn p.length && (decide ((x.locals.length:Int)=(p.getD x.fn.toNat Fn.zero).locals) && (ixB x.at_ (Zw p x.fn.toNat).length && decide (0≤hAt p x)))
def Jc (p:List Fn) (x:Fr) (kd ofn:Int):Bool :=
 (!decide (x.at_=0) && decide ((x.stack.length:Int)=hAt p x - 1)) && (decide ((Pr p x).1=kd) && (!decide (kd=11) || decide ((Pr p x).2=ofn)))
def Wt (l:List Int):Bool:=l.all fun z=>decide (z=0)
def Jn (p:List Fn) (b:Fb):Bool :=
 match b.frames with
 | [x]=>(decide (x.at_=0) && (decide ((p.getD x.fn.toNat Fn.zero).args=1) && decide (x.stack.length=0))) && Wt x.locals
 | _=>false
def Wq (p:List Fn):List Fr→Bool
 | []=>true
 | [x]=>Zx p x
 | x :: y :: r=>Zx p x && (ixB y.fn p.length && Jc p x 11 y.fn) && Wq p (y :: r)
def Qu (p:List Fn) (b:Fb) (on runs:Bool):Bool :=
 match b.frames.getLast? with
 | none=>!on && decide (b.caller=-1)
 | some t=>Wq p b.frames &&
   (if runs=true then decide ((t.stack.length:Int)=hAt p t)
    else if on=true then Jc p t 14 0
    else decide (b.caller=-1) && (Jn p b || Jc p t 15 0))
def Xo (fs:List Fb) (n:Int):Int:=(fs.getD n.toNat Fb.zero).caller
def Xu (fs:List Fb):Nat→Int→List Int→Option (List Int)
 | 0,_,_=>none
 | k+1,n,acc=>if n<0 then some acc else if n∈acc then none else Xu fs k (Xo fs n) (acc++[n])
def Qb (s:St):Option (List Int) :=
 match Xu s.fibers (s.fibers.length+1) s.now [] with
 | none=>none
 | some l=>if l=[]∨l.getLast?=some 0 then some l else none
def Qn (s:St):Int :=
 if s.fibers.length≤5∧s.out.length≤30 then
  if (s.fibers.all fun b=>decide (b.frames.length≤6))=true then
   if 0<s.fibers.length then
    if inB s.now (-1) (s.fibers.length - 1)=true then
     if (s.fibers.all fun b=>inB b.caller (-1) (s.fibers.length - 1))=true then 0 else 3
    else 3
   else 5
  else 2
 else 2
def Yb (p:List Fn) (s:St):Bool :=
 match Qb s with
 | none=>false
 | some l=>!(decide (s.now=-1) && !(s.fibers.getD 0 Fb.zero).frames.isEmpty) &&
   (List.range s.fibers.length).all fun k=>Qu p (s.fibers.getD k Fb.zero) (decide ((k:Int)∈l)) (decide ((k:Int)=s.now)) && !(decide (k=0) && (!decide ((0:Int)∈l) && !(s.fibers.getD 0 Fb.zero).frames.isEmpty))
def Xi (p:List Fn) (s:St):Int :=
 if Xd p=0 then (if Qn s=0 then (if Yb p s=true then 0 else 1) else Qn s) else Xd p
def Qi (p:List Fn) (x:Fr) (op:Int × Int):Bool :=
 (decide (0<x.at_) && decide ((x.stack.length:Int)=hAt p x - 1)) && decide (Pr p x=op)
def Qt (p:List Fn):List Fr→Bool
 | x :: y :: r=>Qi p x (11,y.fn) && Qt p (y :: r)
 | _=>true
def Jt (fs:List Fb):Nat→Int→List Bool→Option (List Bool)
 | 0,_,_=>none
 | k+1,n,B=>if n=-1 then some B else if B.getD n.toNat false=true∨(decide (Xo fs n=-1))≠(decide (n=0)) then none else Jt fs k (Xo fs n) (B.set n.toNat true)
def Uc (s:St):Option (List Bool) :=
 match Jt s.fibers (s.fibers.length+1) s.now (List.replicate s.fibers.length false) with
 | none=>none
 | some B=>if ((List.range s.fibers.length).all fun k=>B.getD k false || decide ((s.fibers.getD k Fb.zero).caller=-1))=true then some B else none
def Wg (p:List Fn) (s:St) (n:Nat) (on:Bool):Bool :=
 match (s.fibers.getD n Fb.zero).frames.getLast? with
 | none=>!on
 | some t=>(on || !decide (n=0)) && ((!on && Jn p (s.fibers.getD n Fb.zero)) || (Qt p (s.fibers.getD n Fb.zero).frames &&
   (if (n:Int)=s.now then decide ((t.stack.length:Int)=hAt p t) else if on=true then Qi p t (14,0) else Qi p t (15,0))))
def Uy (p:List Fn) (s:St):Bool :=
 (s.fibers.all fun b=>b.frames.all (Zx p)) &&
 match Uc s with
 | none=>false
 | some B=>(List.range s.fibers.length).all fun n=>Wg p s n (B.getD n false)
def Uq (p:List Fn) (s:St):Int:=if Qn s=0 then (if Uy p s=true then 0 else 1) else Qn s
theorem Zov {l S:List Int} (hn:l.Nodup) (hs:∀ x,x∈l→x∈S):l.length≤S.length:=by
 induction l generalizing S with
 | nil=>simp
 | cons x r ih =>
  rw [List.nodup_cons] at hn
  have hx:=hs x (List.mem_cons_self)
  have:=ih (S:=S.erase x) hn.2 (fun y hy=>(List.mem_erase_of_ne (by rintro rfl;exact hn.1 hy)).2 (hs y (List.mem_cons_of_mem _ hy)))
  rw [List.length_erase_of_mem hx] at this
  have hp:=List.length_pos_of_mem hx
  simp
  omega
theorem few {l:List Int} {n:Nat} (hn:l.Nodup) (hs:∀ x,x∈l→0≤x∧x<n):l.length≤n:=by
 have:=Zov (S:=(List.range n).map fun (k:Nat)=>(k:Int)) hn (fun x hx=>by
  have:=hs x hx
  exact List.mem_map.2 ⟨x.toNat,by simp;omega,by omega⟩)
 simpa using this
theorem Zdl (p:List Fn):∀ l:List Fr,Wq p l=true↔(l.all (Zx p)=true∧Qt p l=true)
 | []=>by simp [Wq,Qt]
 | [x]=>by simp [Wq,Qt]
 | x :: y :: r=>by
  have ih:=Zdl p (y :: r)
  have hw:Zx p x=true→(Jc p x 11 y.fn=true↔Qi p x (11,y.fn)=true):=by
   intro hx
   simp only [Zx,Bool.and_eq_true,Ji,decide_eq_true_eq] at hx
   simp only [Jc,Qi,Bool.and_eq_true,Bool.or_eq_true,Bool.not_eq_true',decide_eq_true_eq,decide_eq_false_iff_not,Prod.ext_iff]
   have:(¬ x.at_=0)↔0<x.at_:=by omega
   rw [this]
   simp
  simp only [Wq,Qt,Bool.and_eq_true,ih,List.all_cons]
  constructor
  ·rintro ⟨⟨h1,_,h3⟩,h4,h5⟩
   exact ⟨⟨h1,by simpa using h4⟩,(hw h1).1 h3,h5⟩
  ·rintro ⟨⟨h1,h2⟩,h3,h4⟩
   refine ⟨⟨h1,?_,(hw h1).2 h3⟩,by simpa using h2,h4⟩
   have:=h2.1
   simp only [Zx,Bool.and_eq_true] at this
   exact this.1
def Px (n:Nat) (B:List Bool) (l:List Int):Prop:=B.length=n∧∀ i:Nat,i<n→B.getD i false=decide ((i:Int)∈l)
theorem Px.set {n:Nat} {B:List Bool} {l:List Int} (h:Px n B l) {z:Int} (h0:0≤z) (_hz:z<n):Px n (B.set z.toNat true) (l++[z]):=by
 refine ⟨by simp [h.1],fun i hi=>?_⟩
 have:=h.2 i hi
 by_cases e:z.toNat=i
 ·subst e
  simp [List.getD,h.1,hi]
  right;omega
 ·have hne:¬ ((i:Int)=z):=by omega
  simp [List.getD,e,hne] at this ⊢
  rw [this]
theorem Zir (fs:List Fb):∀ (k:Nat) (n:Int) (acc acc':List Int),0≤n→Xu fs k n acc=some acc'→∃ z,acc'.getLast?=some z∧z ∉ acc
 | 0,_,_,_,_,h=>by cases h
 | k+1,n,acc,acc',h0,h=>by
  unfold Xu at h
  rw [if_neg (by omega)] at h
  split at h
  ·cases h
  ·rename_i hna
   by_cases hc:Xo fs n<0
   ·cases k with
    | zero=>cases h
    | succ k =>
     unfold Xu at h
     rw [if_pos hc] at h
     cases h
     exact ⟨n,by simp,hna⟩
   ·obtain ⟨z,h1,h2⟩:=Zir fs k _ _ _ (by omega) h
    exact ⟨z,h1,fun hm=>h2 (List.mem_append_left _ hm)⟩
theorem Zjt {fs:List Fb} (hc:∀ b,b∈fs→-1≤b.caller∧b.caller<fs.length):∀ (k:Nat) (n:Int) (acc:List Int) (B B':List Bool),-1≤n→n<fs.length→Px fs.length B acc→Jt fs k n B=some B' →
  ∃ acc',Xu fs k n acc=some acc'∧Px fs.length B' acc'∧(n=-1→acc'=acc)∧(n≠-1→acc'.getLast?=some 0)
 | 0,_,_,_,_,_,_,_,h=>by cases h
 | k+1,n,acc,B,B',h0,hn,hm,h=>by
  unfold Jt at h
  unfold Xu
  by_cases hz:n=-1
  ·rw [if_pos hz] at h
   cases h
   rw [if_pos (by omega)]
   exact ⟨acc,rfl,hm,fun _=>rfl,fun h=>absurd hz h⟩
  ·rw [if_neg hz] at h
   split at h
   ·cases h
   ·rename_i hno
    rw [not_or] at hno
    obtain ⟨hb,hq⟩:=hno
    have hq:decide (Xo fs n=-1)=decide (n=0):=by
     rcases Decidable.em (decide (Xo fs n=-1)=decide (n=0)) with h | h
     ·exact h
     ·exact absurd h hq
    have hna:n ∉ acc:=by
     have:=hm.2 n.toNat (by omega)
     rw [show ((n.toNat:Nat):Int)=n by omega] at this
     intro hin
     rw [this,decide_eq_true hin] at hb
     exact hb rfl
    rw [if_neg (by omega),if_neg hna]
    have hcr:-1≤Xo fs n∧Xo fs n<fs.length:=by
     have hx:=Zp fs n.toNat Fb.zero (by omega)
     exact hc _ (List.mem_of_getElem? hx)
    obtain ⟨acc',h1,h2,h3,h4⟩:=Zjt hc k _ _ _ _ hcr.1 hcr.2 (hm.set (by omega) hn) h
    refine ⟨acc',h1,h2,fun h=>absurd h hz,fun _=>?_⟩
    by_cases hcz:Xo fs n=-1
    ·rw [h3 hcz]
     simp only [hcz,decide_true] at hq
     have:n=0:=by simpa using hq.symm
     simp [this]
    ·exact h4 hcz
theorem Zlr {fs:List Fb} (hc:∀ b,b∈fs→-1≤b.caller∧b.caller<fs.length):∀ (k:Nat) (n:Int) (acc acc':List Int) (B:List Bool),-1≤n→n<fs.length→Px fs.length B acc→Xu fs k n acc=some acc'→(n≠-1→acc'.getLast?=some 0) →
  ∃ B',Jt fs k n B=some B'∧Px fs.length B' acc'
 | 0,_,_,_,_,_,_,_,h,_=>by cases h
 | k+1,n,acc,acc',B,h0,hn,hm,h,hl=>by
  unfold Xu at h
  unfold Jt
  by_cases hz:n=-1
  ·rw [if_pos (by omega)] at h
   cases h
   exact ⟨B,by rw [if_pos hz],hm⟩
  ·rw [if_neg (by omega)] at h
   split at h
   ·cases h
   ·rename_i hna
    have hcr:-1≤Xo fs n∧Xo fs n<fs.length:=by
     have hx:=Zp fs n.toNat Fb.zero (by omega)
     exact hc _ (List.mem_of_getElem? hx)
    have hb:B.getD n.toNat false=false:=by
     have:=hm.2 n.toNat (by omega)
     rw [show ((n.toNat:Nat):Int)=n by omega] at this
     rw [this,decide_eq_false hna]
    have hl0:=hl hz
    have hq:decide (Xo fs n=-1)=decide (n=0):=by
     rw [decide_eq_decide]
     by_cases hcz:Xo fs n=-1
     ·cases k with
      | zero=>cases h
      | succ k =>
       unfold Xu at h
       rw [if_pos (by omega)] at h
       cases h
       simp at hl0
       subst hl0
       simp [hcz]
     ·obtain ⟨z,h1,h2⟩:=Zir fs k _ _ _ (by omega) h
      rw [hl0] at h1
      cases h1
      simp only [List.mem_append,List.mem_singleton,not_or] at h2
      constructor
      ·intro h;exact absurd h hcz
      ·intro h;exact absurd h.symm h2.2
    obtain ⟨B',h1,h2⟩:=Zlr hc k _ _ _ _ hcr.1 hcr.2 (hm.set (by omega) hn) h (fun _=>hl0)
    refine ⟨B',?_,h2⟩
    rw [if_neg hz,if_neg]
    ·exact h1
    ·rw [hb,hq];simp
theorem Zfq (fs:List Fb):∀ (k:Nat) (n:Int) (acc acc':List Int),Xu fs k n acc=some acc'→(∀ z,z∈acc→z∈acc')∧(0≤n→n∈acc')∧(n<0→acc'=acc)
 | 0,_,_,_,h=>by cases h
 | k+1,n,acc,acc',h=>by
  unfold Xu at h
  split at h
  ·cases h;exact ⟨fun _ h=>h,fun _=>by omega,fun _=>rfl⟩
  ·split at h
   ·cases h
   ·have ih:=Zfq fs k _ _ _ h
    exact ⟨fun z hz=>ih.1 z (List.mem_append_left _ hz),fun _=>ih.1 n (by simp),fun _=>by omega⟩
theorem Zaz {s:St} (h:Qn s=0):s.fibers.length≤5∧s.out.length≤30∧(∀ b,b∈s.fibers→b.frames.length≤6)∧0<s.fibers.length∧(-1≤s.now∧s.now<s.fibers.length)∧∀ b,b∈s.fibers→-1≤b.caller∧b.caller<s.fibers.length:=by
 unfold Qn at h
 split at h
 ·rename_i h1
  split at h
  ·rename_i h2
   split at h
   ·rename_i h3
    split at h
    ·rename_i h4
     split at h
     ·rename_i h5
      rw [Pz] at h4
      simp only [List.all_eq_true,Pz,decide_eq_true_eq] at h2 h5
      exact ⟨h1.1,h1.2,h2,h3,⟨h4.1,by omega⟩,fun b hb=>⟨(h5 b hb).1,by have:=(h5 b hb).2;omega⟩⟩
     ·cases h
    ·cases h
   ·cases h
  ·cases h
 ·cases h
def Bare (p:List Fn):Prop:=∀ (k i:Nat) (x:Int × Int),(Zw p k)[i]?=some x→x.1=14∨x.1=15→x.2=0
theorem Zbu {p:List Fn} (hb:Bare p) {x:Fr} (hx:Zx p x=true) {kd:Int} (hk:kd=14∨kd=15):Jc p x kd 0=Qi p x (kd,0):=by
 rw [Bool.eq_iff_iff]
 simp only [Zx,Bool.and_eq_true,Ji,decide_eq_true_eq] at hx
 simp only [Jc,Qi,Bool.and_eq_true,Bool.or_eq_true,Bool.not_eq_true',decide_eq_true_eq,decide_eq_false_iff_not,Prod.ext_iff]
 have h1:(¬ x.at_=0)↔0<x.at_:=by omega
 have h2:¬ kd=11:=by omega
 rw [h1]
 constructor
 ·rintro ⟨h3,h4,_⟩
  refine ⟨h3,h4,?_⟩
  have hlt:x.at_.toNat - 1<(Zw p x.fn.toNat).length:=by omega
  have:=hb x.fn.toNat (x.at_.toNat - 1) (Pr p x) (by unfold Pr;rw [Zp _ _ (0,0) hlt]) (by rw [h4];exact hk)
  exact this
 ·rintro ⟨h3,h4,_⟩
  exact ⟨h3,h4,.inl h2⟩
theorem Pu {α:Type} {l:List α} {P:α→Bool} {d:α} (h:l.all P=true) {k:Nat} (hk:k<l.length):P (l.getD k d)=true:=by
 rw [List.all_eq_true] at h
 exact h _ (List.mem_of_getElem? (Zp l k d hk))
theorem Wm {n:Nat} {P:Nat→Bool}:(List.range n).all P=true↔∀ k,k<n→P k=true:=by
 simp [List.all_eq_true]
theorem Znd {p:List Fn} {b:Fb} (h:Jn p b=true):Qt p b.frames=true∧∃ x,b.frames=[x]:=by
 unfold Jn at h
 split at h
 ·rename_i x e;rw [e];exact ⟨rfl,x,rfl⟩
 ·cases h
theorem Ziv {p:List Fn} (hb:Bare p) {s:St} {k:Nat} {on:Bool} (hrun:(k:Int)=s.now→on=true) :
  (Qu p (s.fibers.getD k Fb.zero) on (decide ((k:Int)=s.now))=true∧¬ (k=0∧on=false∧(s.fibers.getD 0 Fb.zero).frames.isEmpty=false)) ↔
  ((s.fibers.getD k Fb.zero).frames.all (Zx p)=true∧(on || decide ((s.fibers.getD k Fb.zero).caller=-1))=true∧Wg p s k on=true):=by
 have h0:k=0→s.fibers.getD 0 Fb.zero=s.fibers.getD k Fb.zero:=by rintro rfl;rfl
 by_cases hk0:k=0
 ·rw [h0 hk0]
  generalize hbe:s.fibers.getD k Fb.zero=b at *
  unfold Qu Wg
  rw [hbe]
  cases hl:b.frames.getLast? with
  | none =>
   have:b.frames=[]:=by simpa using hl
   simp only [this,List.all_nil,List.isEmpty_nil]
   cases on <;> simp
  | some t =>
   have hne:b.frames.isEmpty=false:=by
    cases hf:b.frames with
    | nil=>rw [hf] at hl;cases hl
    | cons _ _=>rfl
   have ht:t∈b.frames:=by
    rw [List.getLast?_eq_some_iff] at hl
    obtain ⟨ys,hy⟩:=hl
    rw [hy];simp
   cases on with
   | false=>simp [hk0,hne]
   | true =>
    simp only [Bool.and_eq_true,Zdl]
    by_cases hr:(k:Int)=s.now
    ·simp only [hr,decide_true,if_true]
     simp [and_assoc]
    ·simp only [hr,decide_false,if_false]
     simp
     constructor
     ·rintro ⟨⟨h1,h2⟩,h3⟩
      have:=Zbu hb (h1 t ht) (.inl rfl)
      exact ⟨h1,h2,by rw [← this];exact h3⟩
     ·rintro ⟨h1,h2,h3⟩
      have:=Zbu hb (h1 t ht) (.inl rfl)
      exact ⟨⟨h1,h2⟩,by rw [this];exact h3⟩
 ·generalize hbe:s.fibers.getD k Fb.zero=b at *
  unfold Qu Wg
  rw [hbe]
  cases hl:b.frames.getLast? with
  | none =>
   have:b.frames=[]:=by simpa using hl
   simp only [this,List.all_nil]
   cases on <;> simp [hk0]
  | some t =>
   have ht:t∈b.frames:=by
    rw [List.getLast?_eq_some_iff] at hl
    obtain ⟨ys,hy⟩:=hl
    rw [hy];simp
   simp only [Bool.and_eq_true,Zdl]
   cases on with
   | true =>
    by_cases hr:(k:Int)=s.now
    ·simp only [hr,decide_true,if_true]
     simp [hk0,and_assoc]
    ·simp only [hr,decide_false,if_false]
     simp [hk0]
     constructor
     ·rintro ⟨⟨h1,h2⟩,h3⟩
      have:=Zbu hb (h1 t ht) (.inl rfl)
      exact ⟨h1,h2,by rw [← this];exact h3⟩
     ·rintro ⟨h1,h2,h3⟩
      have:=Zbu hb (h1 t ht) (.inl rfl)
      exact ⟨⟨h1,h2⟩,by rw [this];exact h3⟩
   | false =>
    have hr:¬ (k:Int)=s.now:=fun h=>by have:=hrun h;cases this
    simp only [hr,decide_false,if_false]
    simp [hk0]
    constructor
    ·rintro ⟨⟨h1,h2⟩,h3,h4⟩
     have:=Zbu hb (h1 t ht) (.inr rfl)
     refine ⟨h1,h3,?_⟩
     rcases h4 with h4 | h4
     ·exact .inl h4
     ·exact .inr ⟨h2,by rw [← this];exact h4⟩
    ·rintro ⟨h1,h3,h4⟩
     have:=Zbu hb (h1 t ht) (.inr rfl)
     rcases h4 with h4 | h4
     ·exact ⟨⟨h1,(Znd h4).1⟩,h3,.inl h4⟩
     ·exact ⟨⟨h1,h4.1⟩,h3,.inr (by rw [this];exact h4.2)⟩
theorem Zxk {p:List Fn} (hb:Bare p) {s:St} (hlim:Qn s=0):Uy p s=Yb p s:=by
 obtain ⟨hf5,ho,hfr,hpos,hnow,hcal⟩:=Zaz hlim
 have hm0:Px s.fibers.length (List.replicate s.fibers.length false) []:=⟨by simp,fun i hi=>by simp [List.getD,hi]⟩
 rw [Bool.eq_iff_iff]
 constructor
 ·intro h
  simp only [Uy,Bool.and_eq_true] at h
  obtain ⟨hall,h⟩:=h
  unfold Uc at h
  cases hj:Jt s.fibers (s.fibers.length+1) s.now (List.replicate s.fibers.length false) with
  | none=>rw [hj] at h;cases h
  | some B =>
   rw [hj] at h
   simp only at h
   by_cases hcl:((List.range s.fibers.length).all fun k=>B.getD k false || decide ((s.fibers.getD k Fb.zero).caller=-1))=true
   ·rw [if_pos hcl] at h
    simp only at h
    obtain ⟨l,h1,h2,h3,h4⟩:=Zjt hcal _ _ _ _ _ hnow.1 hnow.2 hm0 hj
    have hmem:=Zfq _ _ _ _ _ h1
    have hls:Qb s=some l:=by
     unfold Qb
     rw [h1]
     simp only
     rw [if_pos]
     by_cases hz:s.now=-1
     ·exact .inl (h3 hz)
     ·exact .inr (h4 hz)
    have hk:∀ k,k<s.fibers.length→(Qu p (s.fibers.getD k Fb.zero) (decide ((k:Int)∈l)) (decide ((k:Int)=s.now))=true∧¬ (k=0∧decide ((k:Int)∈l)=false∧(s.fibers.getD 0 Fb.zero).frames.isEmpty=false)):=by
     intro k hk
     rw [Wm] at h hcl
     have e:=h2.2 k hk
     have:=h k hk
     have hc:=hcl k hk
     rw [e] at this hc
     exact (Ziv hb (fun hn=>decide_eq_true (by rw [hn];exact hmem.2.1 (by omega)))).2 ⟨Pu hall hk,hc,this⟩
    unfold Yb
    rw [hls]
    simp only [Bool.and_eq_true]
    refine ⟨?_,Wm.2 fun k hk'=>?_⟩
    ·have:=(hk 0 hpos).2
     by_cases hz:s.now=-1
     ·have:l=[]:=h3 hz
      subst this
      simp at this ⊢
      exact .inr this
     ·simp [hz]
    ·obtain ⟨h5,h6⟩:=hk k hk'
     rw [Bool.and_eq_true]
     refine ⟨h5,?_⟩
     by_cases hk0:k=0
     ·subst hk0
      simp at h6 ⊢
      by_cases h7:(0:Int)∈l
      ·exact .inl h7
      ·exact .inr (h6 h7)
     ·simp [hk0]
   ·rw [if_neg hcl] at h;cases h
 ·intro h
  unfold Yb at h
  cases hls:Qb s with
  | none=>rw [hls] at h;cases h
  | some l =>
   rw [hls] at h
   simp only [Bool.and_eq_true] at h
   obtain ⟨_,h⟩:=h
   unfold Qb at hls
   cases hl:Xu s.fibers (s.fibers.length+1) s.now [] with
   | none=>rw [hl] at hls;cases hls
   | some l' =>
    rw [hl] at hls
    simp only at hls
    split at hls
    ·rename_i hlast
     cases hls
     have hmem:=Zfq _ _ _ _ _ hl
     obtain ⟨B,h1,h2⟩:=Zlr hcal _ _ _ _ _ hnow.1 hnow.2 hm0 hl (fun hz=>by
      rcases hlast with rfl | h
      ·have:=hmem.2.1 (by omega);simp at this
      ·exact h)
     have hk:∀ k,k<s.fibers.length→((s.fibers.getD k Fb.zero).frames.all (Zx p)=true∧(decide ((k:Int)∈l) || decide ((s.fibers.getD k Fb.zero).caller=-1))=true∧Wg p s k (decide ((k:Int)∈l))=true):=by
      intro k hk
      have:=Wm.1 h k hk
      rw [Bool.and_eq_true] at this
      refine (Ziv hb (fun hn=>decide_eq_true (by rw [hn];exact hmem.2.1 (by omega)))).1 ⟨this.1,?_⟩
      rintro ⟨rfl,h5,h6⟩
      have h7:=this.2
      have h8:(0:Int) ∉ l:=by simpa using h5
      rw [h6] at h7
      simp [h8] at h7
     unfold Uy
     rw [Bool.and_eq_true]
     refine ⟨?_,?_⟩
     ·rw [List.all_eq_true]
      intro b hbm
      obtain ⟨i,hi,rfl⟩:=List.getElem_of_mem hbm
      have:=(hk i hi).1
      simpa [List.getD,hi] using this
     ·unfold Uc
      rw [h1]
      simp only
      rw [if_pos]
      ·simp only
       exact Wm.2 fun k hk'=>by rw [h2.2 k hk'];exact (hk k hk').2.2
      ·exact Wm.2 fun k hk'=>by rw [h2.2 k hk'];exact (hk k hk').2.1
    ·cases hls
theorem Zoz {p:List Fn} (hb:Bare p) (s:St):Uq p s=if Qn s=0 then (if Yb p s=true then 0 else 1) else Qn s:=by
 unfold Uq
 by_cases h:Qn s=0
 ·rw [if_pos h,if_pos h,Zxk hb h]
 ·rw [if_neg h,if_neg h]
def Fb.top (b:Fb):Fr:=b.frames.getLast?.getD Fr.zero
def St.fib (s:St) (n:Int):Fb:=s.fibers.getD n.toNat Fb.zero
def St.turn (s:St) (n:Int) (g:Fb→Fb):St:={ s with fibers:=s.fibers.set n.toNat (g (s.fib n)) }
def Fb.turnTop (b:Fb) (g:Fr→Fr):Fb:={ b with frames:=b.frames.set (b.frames.length - 1) (g b.top) }
def St.top (s:St):Fr:=(s.fib s.now).top
def St.turnTop (s:St) (n:Int) (g:Fr→Fr):St:=s.turn n fun b=>b.turnTop g
def Xz (s:St) (n v:Int):St:=s.turnTop n fun f=>{ f with stack:=f.stack++[v] }
def Zu (s:St):Int:=s.top.stack.getLast?.getD 0
def Zh (s:St):St:=s.turnTop s.now fun f=>{ f with stack:=f.stack.dropLast }
def Yg (s:St) (a:Int):St:=s.turnTop s.now fun f=>{ f with at_:=a }
def Jl (s:St) (v:Int):St × Int:=if s.out.length=30 then (St.zero,2) else ({ s with out:=s.out++[v] },0)
def Yh (p:List Fn) (f:Int) (vals:List Int):Fr:=⟨f,0,vals++List.replicate ((p.getD f.toNat Fn.zero).locals.toNat - vals.length) 0,[]⟩
def Wl (s:St):St × Int :=
 let v:=Zu s
 let s1:St:=(Zh s).turn s.now fun b=>{ b with frames:=b.frames.dropLast }
 if (s1.fib s.now).frames=[] then
  if (s1.fib s.now).caller<0 then Jl { s1 with now:=-1 } v
  else (Xz { (s1.turn s.now fun b=>{ b with caller:=-1 }) with now:=(s1.fib s.now).caller } (s1.fib s.now).caller v,0)
 else (Xz s1 s.now v,0)
def Uh (s:St):St × Int :=
 let v:=Zu s
 let n:=Zu (Zh s)
 let s1:=Zh (Zh s)
 if ixB n s1.fibers.length=true then
  if n∈(Xu s1.fibers (s1.fibers.length+1) s1.now []).getD []∨(s1.fib n).frames=[] then (St.zero,6)
  else
   let s2:St:={ (s1.turn n fun b=>{ b with caller:=s1.now }) with now:=n }
   if s2.top.at_=0 then (s2.turnTop n fun f=>{ f with locals:=f.locals.set 0 v },0) else (Xz s2 n v,0)
 else (St.zero,5)
def Ux (p:List Fn) (s:St) (f:Int):St × Int :=
 let k:=(p.getD f.toNat Fn.zero).args.toNat
 let vals:=s.top.stack.drop (s.top.stack.length - k)
 let s1:=s.turnTop s.now fun x=>{ x with stack:=x.stack.take (x.stack.length - k) }
 if (s1.fib s.now).frames.length=6 then (St.zero,2)
 else (s1.turn s.now fun b=>{ b with frames:=b.frames++[Yh p f vals] },0)
def Ub (s:St):St × Int :=
 let v:=Zu s
 let s1:=Zh s
 if (s1.fib s.now).caller<0 then (St.zero,7)
 else (Xz { (s1.turn s.now fun b=>{ b with caller:=-1 }) with now:=(s1.fib s.now).caller } (s1.fib s.now).caller v,0)
def Zcg (z:Int):Int:=Int.bmod z (2 ^ 64)
def Zhl (b:Bool):Int:=if b=true then 1 else 0
def Zah (kd a b:Int):Int :=
 if kd=4 then Zcg (a+b) else if kd=5 then Zcg (a - b) else if kd=6 then Zcg (a*b) else if kd=7 then Zhl (decide (a<b)) else Zhl (decide (a=b))
def Wy (p:List Fn) (s:St) (f:Int):St × Int :=
 if s.fibers.length=5 then (St.zero,2)
 else ({ Xz s s.now s.fibers.length with fibers:=(Xz s s.now s.fibers.length).fibers++[⟨[Yh p f []],-1⟩] },0)
def Xf (p:List Fn) (s0:St):St × Int :=
 let x:=(Zw p s0.top.fn.toNat).getD s0.top.at_.toNat (0,0)
 let s:=Yg s0 (s0.top.at_+1)
 if x.1=0 then (Xz s s.now x.2,0)
 else if x.1=1 then (Zh s,0)
 else if x.1=2 then (Xz s s.now (s.top.locals.getD x.2.toNat 0),0)
 else if x.1=3 then ((Zh s).turnTop s.now fun f=>{ f with locals:=f.locals.set x.2.toNat (Zu s) },0)
 else if x.1=9 then (Yg s x.2,0)
 else if x.1=10 then (if Zu s=0 then Yg (Zh s) x.2 else Zh s,0)
 else if x.1=11 then Ux p s x.2
 else if x.1=12 then Wl s
 else if x.1=13 then Wy p s x.2
 else if x.1=14 then Uh s
 else if x.1=15 then Ub s
 else if x.1=16 then Jl (Zh s) (Zu s)
 else (Xz (Zh (Zh s)) s.now (Zah x.1 (Zu (Zh s)) (Zu s)),0)
def Pj (p:List Fn) (s:St):St × Int:=if s.now<0 then (St.zero,8) else Xf p s
def Qz (p:List Fn):Nat→St→St × Nat × Int
 | 0,s=>(s,0,0)
 | k+1,s=>if s.now<0 then (s,0,0) else if (Pj p s).2=0 then ((Qz p k (Pj p s).1).1,(Qz p k (Pj p s).1).2.1+1,(Qz p k (Pj p s).1).2.2) else (s,0,(Pj p s).2)
def Up (p:List Fn):St:=⟨[⟨[⟨0,0,List.replicate (p.getD 0 Fn.zero).locals.toNat 0,[]⟩],-1⟩],0,[]⟩
theorem Zdd (s:St) (i:Nat):(Zc s i).top=Ze s i ((Zc s i).frames.length - 1):=by
 unfold Fb.top Ze
 rw [List.getLast?_eq_getElem?]
 simp [List.getD]
theorem Po (s:St) (i:Nat) (g:Fr→Fr):s.turnTop (i:Int) g=Qo s i ((Zc s i).frames.length - 1) (g (Ze s i ((Zc s i).frames.length - 1))):=by
 unfold St.turnTop St.turn Fb.turnTop Qo Zg St.fib
 rw [Int.toNat_natCast]
 show _={ s with fibers:=_ }
 rw [← Zdd s i]
 rfl
structure Xx (s:St) (i:Nat):Prop where
 lt:i<s.fibers.length
 fr:0<(Zc s i).frames.length
 frs:(Zc s i).frames.length≤1000
 st:(Ze s i ((Zc s i).frames.length - 1)).stack.length≤1000
theorem Yw (s:St) (i:Nat):s.fib (i:Int)=Zc s i:=by unfold St.fib Zc;rw [Int.toNat_natCast]
theorem Ug (s:St) (i:Nat) (g:Fb→Fb):s.turn (i:Int) g=Zg s i (g (Zc s i)):=by
 unfold St.turn;rw [Yw,Int.toNat_natCast];rfl
theorem Zas {s:St} {i:Nat} (hn:s.now=i):Zh s=Qo s i ((Zc s i).frames.length - 1) { Ze s i ((Zc s i).frames.length - 1) with stack:=(Ze s i ((Zc s i).frames.length - 1)).stack.dropLast }:=by
 unfold Zh
 rw [hn,Po]
theorem Zcj {s:St} {i j k:Nat} (f:Fr) (h:i≠k):Zc (Qo s i j f) k=Zc s k:=Qs _ h
theorem Xx.other {s s':St} {k:Nat} (h:Xx s k) (hl:s'.fibers.length=s.fibers.length) (hf:Zc s' k=Zc s k):Xx s' k:=by
 have hfr:∀ j,Ze s' k j=Ze s k j:=fun j=>by unfold Ze;rw [hf]
 exact ⟨by rw [hl];exact h.lt,by rw [hf];exact h.fr,by rw [hf];exact h.frs,by rw [hfr,hf];exact h.st⟩
def Zf (s:St) (i ai:Nat):St:=Qo s i ((Zc s i).frames.length - 1) { Ze s i ((Zc s i).frames.length - 1) with at_:=(ai:Int)+1 }
theorem Zfy {s:St} {i:Nat} (hn:s.now=i) (a:Int):Yg s a=Qo s i ((Zc s i).frames.length - 1) { Ze s i ((Zc s i).frames.length - 1) with at_:=a }:=by
 unfold Yg
 rw [hn,Po]
theorem Zes {s:St} {i:Nat} (hn:s.now=i):s.top=Ze s i ((Zc s i).frames.length - 1):=by
 unfold St.top St.fib
 rw [hn,Int.toNat_natCast,show s.fibers.getD i Fb.zero=Zc s i from rfl,Zdd]
theorem Wa {s:St} {i:Nat} (hn:s.now=i) (hr:Xx s i) (ai:Nat) :
  (Zf s i ai).now=i∧(Zf s i ai).fibers.length=s.fibers.length∧(Zf s i ai).out=s.out∧(∀ k,(Zc (Zf s i ai) k).caller=(Zc s k).caller)∧(∀ k,(Zc (Zf s i ai) k).frames.length=(Zc s k).frames.length) ∧
  Ze (Zf s i ai) i ((Zc s i).frames.length - 1)={ Ze s i ((Zc s i).frames.length - 1) with at_:=(ai:Int)+1 }∧(∀ k,k≠i→Zc (Zf s i ai) k=Zc s k)∧Xx (Zf s i ai) i:=by
 have hj:(Zc s i).frames.length - 1<(Zc s i).frames.length:=by have:=hr.fr;omega
 have h6:Ze (Zf s i ai) i ((Zc s i).frames.length - 1)={ Ze s i ((Zc s i).frames.length - 1) with at_:=(ai:Int)+1 }:=Wz _ hr.lt hj
 have h5:∀ k,(Zc (Zf s i ai) k).frames.length=(Zc s k).frames.length:=fun k=>Ut _ hr.lt k
 have h2:(Zf s i ai).fibers.length=s.fibers.length:=Xb _ _ _
 refine ⟨hn,h2,rfl,fun k=>Zbf _ hr.lt k,h5,h6,fun k hk=>Zcj _ (fun e=>hk e.symm),⟨by rw [h2];exact hr.lt,by rw [h5];exact hr.fr,by rw [h5];exact hr.frs,?_⟩⟩
 rw [h5,h6]
 exact hr.st
theorem Zll {s:St} {i:Nat} (ai k:Nat) (hk:k≠i) (h:Xx s k):Xx (Zf s i ai) k :=
 h.other (Xb _ _ _) (Zcj _ (fun e=>hk e.symm))
theorem Zhj {s:St} {i:Nat} (hr:Xx s i) (ai t q:Nat):(Ze (Zf s i ai) t q).stack=(Ze s t q).stack∧(Ze (Zf s i ai) t q).locals=(Ze s t q).locals∧(Ze (Zf s i ai) t q).fn=(Ze s t q).fn:=by
 have hj:(Zc s i).frames.length - 1<(Zc s i).frames.length:=by have:=hr.fr;omega
 unfold Zf
 by_cases e:i=t∧(Zc s i).frames.length - 1=q
 ·obtain ⟨rfl,rfl⟩:=e
  rw [Wz _ hr.lt hj]
  exact ⟨rfl,rfl,rfl⟩
 ·rw [Pa _ hr.lt e]
  exact ⟨rfl,rfl,rfl⟩
theorem Zsb {p:List Fn} {s:St} {i fi ai:Nat} {kd a:Int} (hn:s.now=i) (hf:(Ze s i ((Zc s i).frames.length - 1)).fn=fi) (ha:(Ze s i ((Zc s i).frames.length - 1)).at_=ai) (hx:(Zw p fi).getD ai (0,0)=(kd,a)) :
  Xf p s=(if kd=0 then (Xz (Zf s i ai) i a,0)
   else if kd=1 then (Zh (Zf s i ai),0)
   else if kd=2 then (Xz (Zf s i ai) i ((Zf s i ai).top.locals.getD a.toNat 0),0)
   else if kd=3 then ((Zh (Zf s i ai)).turnTop i fun f=>{ f with locals:=f.locals.set a.toNat (Zu (Zf s i ai)) },0)
   else if kd=9 then (Yg (Zf s i ai) a,0)
   else if kd=10 then (if Zu (Zf s i ai)=0 then Yg (Zh (Zf s i ai)) a else Zh (Zf s i ai),0)
   else if kd=11 then Ux p (Zf s i ai) a
   else if kd=12 then Wl (Zf s i ai)
   else if kd=13 then Wy p (Zf s i ai) a
   else if kd=14 then Uh (Zf s i ai)
   else if kd=15 then Ub (Zf s i ai)
   else if kd=16 then Jl (Zh (Zf s i ai)) (Zu (Zf s i ai))
   else (Xz (Zh (Zh (Zf s i ai))) i (Zah kd (Zu (Zh (Zf s i ai))) (Zu (Zf s i ai))),0)):=by
 unfold Xf
 have ht:=Zes hn
 have hs:Yg s (s.top.at_+1)=Zf s i ai:=by rw [Zfy hn,ht,ha];rfl
 have hnow:(Zf s i ai).now=i:=hn
 simp only []
 rw [hs,ht,hf,ha,Int.toNat_natCast,Int.toNat_natCast,hx,hnow]
def Zen (kd:Int):Nat:=if kd=0∨kd=2∨kd=9∨kd=11∨kd=13 then 0 else if kd=1∨kd=3∨kd=10∨kd=12∨kd=15∨kd=16 then 1 else 2
def Jk (p:List Fn) (f:Fr):Int × Int:=(Zw p f.fn.toNat).getD f.at_.toNat (0,0)
def Zgq (p:List Fn) (f:Fr):Prop :=
 Zen (Jk p f).1≤f.stack.length ∧
 ((Jk p f).1=2∨(Jk p f).1=3→0≤(Jk p f).2∧(Jk p f).2.toNat<f.locals.length) ∧
 ((Jk p f).1=11→0≤(Jk p f).2∧(Jk p f).2.toNat<p.length∧0≤(p.getD (Jk p f).2.toNat Fn.zero).args∧(p.getD (Jk p f).2.toNat Fn.zero).args≤(p.getD (Jk p f).2.toNat Fn.zero).locals∧(p.getD (Jk p f).2.toNat Fn.zero).locals≤1000∧(p.getD (Jk p f).2.toNat Fn.zero).args.toNat≤f.stack.length) ∧
 ((Jk p f).1=13→0≤(Jk p f).2∧(Jk p f).2.toNat<p.length∧0≤(p.getD (Jk p f).2.toNat Fn.zero).locals∧(p.getD (Jk p f).2.toNat Fn.zero).locals≤1000)
def OkS (p:List Fn) (s:St):Prop :=
 (0≤s.now∧s.now.toNat<s.fibers.length∧s.fibers.length≤5∧s.out.length≤30) ∧
 (∀ b∈s.fibers,(b.frames.length≤6∧-1≤b.caller∧b.caller<s.fibers.length)∧∀ f∈b.frames,f.locals.length≤1000∧f.stack.length≤1000) ∧
 0<(Zc s s.now.toNat).frames.length ∧
 (0≤(Zc s s.now.toNat).caller→(Zc s s.now.toNat).caller≠s.now∧0<(Zc s (Zc s s.now.toNat).caller.toNat).frames.length) ∧
 ((Qb s).isSome=true∧s.now∈(Qb s).getD []) ∧
 (∀ k,k<s.fibers.length→(k:Int) ∉ (Qb s).getD []→0<(Zc s k).frames.length→(Ze s k ((Zc s k).frames.length - 1)).at_=0→0<(Ze s k ((Zc s k).frames.length - 1)).locals.length) ∧
 (0≤s.top.fn∧s.top.fn.toNat<p.length∧0≤s.top.at_∧s.top.at_.toNat<(Zw p s.top.fn.toNat).length∧(Zw p s.top.fn.toNat).length≤1000)∧Zgq p s.top
theorem Zdt {s:St} (i:Nat) (hi:i<s.fibers.length):Zc s i∈s.fibers:=by
 have:Zc s i=s.fibers[i]:=by simp [Zc,List.getD,hi]
 rw [this];exact List.getElem_mem hi
theorem fr_mem {s:St} (i j:Nat) (hj:j<(Zc s i).frames.length):Ze s i j∈(Zc s i).frames:=by
 have:Ze s i j=(Zc s i).frames[j]:=by simp [Ze,List.getD,hj]
 rw [this];exact List.getElem_mem hj
theorem Zme (s:St) (v:Int) (h:(Jl s v).2≠0):(Jl s v).1=St.zero:=by
 unfold Jl at h ⊢
 split
 ·rfl
 ·rename_i hh;rw [if_neg hh] at h;exact absurd rfl h
theorem Zrl (s:St) (h:(Wl s).2≠0):(Wl s).1=St.zero:=by
 unfold Wl at h ⊢
 simp only at h ⊢
 split
 ·rename_i h1
  rw [if_pos h1] at h
  split
  ·rename_i h2
   rw [if_pos h2] at h
   exact Zme _ _ h
  ·rename_i h2
   rw [if_neg h2] at h
   exact absurd rfl h
 ·rename_i h1
  rw [if_neg h1] at h
  exact absurd rfl h
theorem Zob (s:St) (h:(Uh s).2≠0):(Uh s).1=St.zero:=by
 unfold Uh at h ⊢
 simp only at h ⊢
 split
 ·rename_i h1
  rw [if_pos h1] at h
  split
  ·rfl
  ·rename_i h2
   rw [if_neg h2] at h
   split
   ·rename_i h3;rw [if_pos h3] at h;exact absurd rfl h
   ·rename_i h3;rw [if_neg h3] at h;exact absurd rfl h
 ·rfl
theorem Zrv (p:List Fn) (s:St) (f:Int) (h:(Ux p s f).2≠0):(Ux p s f).1=St.zero:=by
 unfold Ux at h ⊢
 simp only at h ⊢
 split
 ·rfl
 ·rename_i hh;rw [if_neg hh] at h;exact absurd rfl h
theorem Zqn (s:St) (h:(Ub s).2≠0):(Ub s).1=St.zero:=by
 unfold Ub at h ⊢
 simp only at h ⊢
 split
 ·rfl
 ·rename_i hh;rw [if_neg hh] at h;exact absurd rfl h
theorem Zpt (p:List Fn) (s:St) (f:Int) (h:(Wy p s f).2≠0):(Wy p s f).1=St.zero:=by
 unfold Wy at h ⊢
 split
 ·rfl
 ·rename_i hh;rw [if_neg hh] at h;exact absurd rfl h
theorem Zqf {p:List Fn} {s:St} (h:(Xf p s).2≠0):(Xf p s).1=St.zero:=by
 unfold Xf at h ⊢
 simp only at h ⊢
 generalize (Zw p s.top.fn.toNat).getD s.top.at_.toNat (0,0)=x at h ⊢
 generalize Yg s (s.top.at_+1)=t at h ⊢
 by_cases k0:x.1=0
 ·rw [if_pos k0] at h;exact absurd rfl h
 rw [if_neg k0] at h ⊢
 by_cases k1:x.1=1
 ·rw [if_pos k1] at h;exact absurd rfl h
 rw [if_neg k1] at h ⊢
 by_cases k2:x.1=2
 ·rw [if_pos k2] at h;exact absurd rfl h
 rw [if_neg k2] at h ⊢
 by_cases k3:x.1=3
 ·rw [if_pos k3] at h;exact absurd rfl h
 rw [if_neg k3] at h ⊢
 by_cases k9:x.1=9
 ·rw [if_pos k9] at h;exact absurd rfl h
 rw [if_neg k9] at h ⊢
 by_cases k10:x.1=10
 ·rw [if_pos k10] at h;exact absurd rfl h
 rw [if_neg k10] at h ⊢
 by_cases k11:x.1=11
 ·rw [if_pos k11] at h ⊢;exact Zrv _ _ _ h
 rw [if_neg k11] at h ⊢
 by_cases k12:x.1=12
 ·rw [if_pos k12] at h ⊢;exact Zrl _ h
 rw [if_neg k12] at h ⊢
 by_cases k13:x.1=13
 ·rw [if_pos k13] at h ⊢;exact Zpt _ _ _ h
 rw [if_neg k13] at h ⊢
 by_cases k14:x.1=14
 ·rw [if_pos k14] at h ⊢;exact Zob _ h
 rw [if_neg k14] at h ⊢
 by_cases k15:x.1=15
 ·rw [if_pos k15] at h ⊢;exact Zqn _ h
 rw [if_neg k15] at h ⊢
 by_cases k16:x.1=16
 ·rw [if_pos k16] at h ⊢;exact Zme _ _ h
 rw [if_neg k16] at h
 exact absurd rfl h
def Zbi (p:List Fn):Nat→St→Prop
 | 0,_=>True
 | k+1,s=>s.now<0∨(OkS p s∧Yc (Xf p s).1∧((Xf p s).2=0→Zbi p k (Xf p s).1))
theorem Zdh (p:List Fn) (k:Nat) (s:St) (h:k=0∨s.now<0):Qz p k s=(s,0,0):=by
 cases k with
 | zero=>rfl
 | succ k =>
  rcases h with h | h
  ·cases h
  ·unfold Qz;rw [if_pos h]
theorem Zkf (p:List Fn) (k:Nat) (s:St) (h:¬ s.now<0) (he:(Xf p s).2≠0):Qz p (k+1) s=(s,0,(Xf p s).2):=by
 unfold Qz
 have:Pj p s=Xf p s:=by unfold Pj;rw [if_neg h]
 rw [if_neg h,this,if_neg he]
theorem Zin (p:List Fn) (k:Nat) (s:St) (h:¬ s.now<0) (he:(Xf p s).2=0):Qz p (k+1) s=((Qz p k (Xf p s).1).1,(Qz p k (Xf p s).1).2.1+1,(Qz p k (Xf p s).1).2.2):=by
 conv=>lhs;unfold Qz
 have:Pj p s=Xf p s:=by unfold Pj;rw [if_neg h]
 rw [if_neg h,this,if_pos he]
theorem Zej {fs fs':List Fb} (h:∀ n,Xo fs n=Xo fs' n):∀ (k:Nat) (n:Int) (acc:List Int),Xu fs k n acc=Xu fs' k n acc
 | 0,_,_=>rfl
 | k+1,n,acc=>by
  unfold Xu
  rw [h n,Zej h k]
def Qm (s:St) (i t:Nat):St:=Qo s i ((Zc s i).frames.length - 1) { Ze s i ((Zc s i).frames.length - 1) with stack:=(Ze s i ((Zc s i).frames.length - 1)).stack.take ((Ze s i ((Zc s i).frames.length - 1)).stack.length - t) }
theorem Zjr {α:Type} (l:List α) (i:Nat) (d:α) (h:i<l.length):l.set i (l.getD i d)=l:=by
 apply List.ext_getElem
 ·simp
 ·intro k h1 h2
  rw [List.getElem_set]
  split
  ·rename_i e;subst e;simp [List.getD,h]
  ·rfl
theorem Zsh {s:St} {i:Nat} (hr:Xx s i):Qm s i 0=s:=by
 unfold Qm Qo Zg
 rw [Nat.sub_zero,List.take_length]
 have h1:(Zc s i).frames.set ((Zc s i).frames.length - 1) (Ze s i ((Zc s i).frames.length - 1))=(Zc s i).frames:=Zjr _ _ _ (by have:=hr.fr;omega)
 have h2:({ Zc s i with frames:=(Zc s i).frames.set ((Zc s i).frames.length - 1) { Ze s i ((Zc s i).frames.length - 1) with stack:=(Ze s i ((Zc s i).frames.length - 1)).stack } }:Fb)=Zc s i:=by
  show ({ Zc s i with frames:=(Zc s i).frames.set ((Zc s i).frames.length - 1) (Ze s i ((Zc s i).frames.length - 1)) }:Fb)=Zc s i
  rw [h1]
 rw [h2]
 have h3:s.fibers.set i (Zc s i)=s.fibers:=Zjr _ _ _ hr.lt
 rw [h3]
theorem Zfz {s:St} {i:Nat} (hr:Xx s i) (t:Nat):(Qm s i t).fibers.length=s.fibers.length∧(Qm s i t).now=s.now∧(Qm s i t).out=s.out∧(Zc (Qm s i t) i).frames.length=(Zc s i).frames.length ∧
  (Ze (Qm s i t) i ((Zc s i).frames.length - 1)).stack=(Ze s i ((Zc s i).frames.length - 1)).stack.take ((Ze s i ((Zc s i).frames.length - 1)).stack.length - t)∧Xx (Qm s i t) i:=by
 have hj:(Zc s i).frames.length - 1<(Zc s i).frames.length:=by have:=hr.fr;omega
 have h5:(Ze (Qm s i t) i ((Zc s i).frames.length - 1)).stack=(Ze s i ((Zc s i).frames.length - 1)).stack.take ((Ze s i ((Zc s i).frames.length - 1)).stack.length - t):=by
  unfold Qm;rw [Wz _ hr.lt hj]
 have h1:(Qm s i t).fibers.length=s.fibers.length:=Xb _ _ _
 have h4:(Zc (Qm s i t) i).frames.length=(Zc s i).frames.length:=Ut _ hr.lt i
 refine ⟨h1,rfl,rfl,h4,h5,⟨by rw [h1];exact hr.lt,by rw [h4];exact hr.fr,by rw [h4];exact hr.frs,?_⟩⟩
 rw [h4,h5,List.length_take]
 have:=hr.st
 omega
theorem Ztg {s:St} {i:Nat} (hn:s.now=i) (hr:Xx s i) {t:Nat} (ht:t<(Ze s i ((Zc s i).frames.length - 1)).stack.length) :
  Zh (Qm s i t)=Qm s i (t+1)∧Zu (Qm s i t)=(Ze s i ((Zc s i).frames.length - 1)).stack.getD ((Ze s i ((Zc s i).frames.length - 1)).stack.length - t - 1) 0:=by
 obtain ⟨f1,f2,f3,f4,f5,f6⟩:=Zfz hr t
 have hj:(Zc s i).frames.length - 1<(Zc s i).frames.length:=by have:=hr.fr;omega
 have hn':(Qm s i t).now=i:=by rw [f2];exact hn
 constructor
 ·rw [Zas hn',f4]
  have hfr:Ze (Qm s i t) i ((Zc s i).frames.length - 1)={ Ze s i ((Zc s i).frames.length - 1) with stack:=(Ze s i ((Zc s i).frames.length - 1)).stack.take ((Ze s i ((Zc s i).frames.length - 1)).stack.length - t) }:=by
   unfold Qm;rw [Wz _ hr.lt hj]
  rw [hfr]
  generalize hl:(Ze s i ((Zc s i).frames.length - 1)).stack=l at *
  have hdl:(l.take (l.length - t)).dropLast=l.take (l.length - (t+1)):=by
   rw [List.dropLast_eq_take,List.length_take,List.take_take]
   congr 1
   omega
  simp only [hdl]
  unfold Qm
  rw [hl]
  unfold Qo Zg
  simp only
  have hset:Zc { s with fibers:=s.fibers.set i { Zc s i with frames:=(Zc s i).frames.set ((Zc s i).frames.length - 1) { Ze s i ((Zc s i).frames.length - 1) with stack:=l.take (l.length - t) } } } i={ Zc s i with frames:=(Zc s i).frames.set ((Zc s i).frames.length - 1) { Ze s i ((Zc s i).frames.length - 1) with stack:=l.take (l.length - t) } }:=Qa (s:=s) _ hr.lt
  rw [hset]
  simp only [List.set_set]
 ·unfold Zu St.top
  rw [hn',Yw,Zdd,f4,f5,List.getLast?_eq_getElem?,List.length_take]
  generalize (Ze s i ((Zc s i).frames.length - 1)).stack=l at *
  rw [Nat.min_eq_left (by omega),List.getElem?_take,if_pos (by omega)]
  rfl
theorem Zyn {p:List Fn} {s:St} {i f2 a2 lo2:Nat} (hn:s.now=i) (hr:Xx s i) (ha:(p.getD f2 Fn.zero).args=a2) (hl:(p.getD f2 Fn.zero).locals=lo2) :
  Ux p s f2=if (Zc s i).frames.length=6 then (St.zero,(2:Int)) else (Zg (Qm s i a2) i { Zc (Qm s i a2) i with frames:=(Zc (Qm s i a2) i).frames++[⟨f2,0,(Ze s i ((Zc s i).frames.length - 1)).stack.drop ((Ze s i ((Zc s i).frames.length - 1)).stack.length - a2)++List.replicate (lo2 - ((Ze s i ((Zc s i).frames.length - 1)).stack.drop ((Ze s i ((Zc s i).frames.length - 1)).stack.length - a2)).length) 0,[]⟩] },0):=by
 have ht:=Zes hn
 have hs1:(s.turnTop s.now fun x=>{ x with stack:=x.stack.take (x.stack.length - a2) })=Qm s i a2:=by rw [hn,Po];rfl
 obtain ⟨f1,f2',f3,f4,f5,f6⟩:=Zfz hr a2
 unfold Ux
 simp only [Int.toNat_natCast,ha]
 rw [hs1,hn,Yw,Ug,f4,ht]
 unfold Yh
 rw [Int.toNat_natCast,hl,Int.toNat_natCast]
open Go.RowKit
theorem Zi.kept {base bs:Nat} {w w':World} {V:Key→Value} {s:St} (h:Zi base w bs V s) (hk:Za w w'):Zi base w' bs V s :=
 ⟨(hk.block bs (lt_of_block h.var)).trans h.var,h.own.same (fun k g hlk hg=>hk.block g ((h.own.piece k hlk).block g hg).2),h.off,h.low⟩
theorem Zi.below {base bs:Nat} {w w':World} {V:Key→Value} {s:St} (h:Zi base w bs V s) (hk:Za w w'):Below base w w' :=
 Below.mono hk (by have:=h.low;have:=lt_of_block h.var;omega)
structure DoAt (base:Nat) (w:World) (s:St) (i bp op n fi ai cb co cl cc:Nat) (kd a:Int):Prop where
 now:s.now=i
 runs:Xx s i
 fn:(Ze s i ((Zc s i).frames.length - 1)).fn=fi
 at_:(Ze s i ((Zc s i).frames.length - 1)).at_=ai
 fin:fi<n
 ain:ai<cl
 most:cl≤1000
 cells:∀ u,Below base w u→u.cell? ⟨bp,op+fi*3+2,none⟩=some (.slice (some ⟨cb,co,none⟩) cl cc)∧u.cell? ⟨cb,co+ai*2,none⟩=some (.int .i64 kd)∧u.cell? ⟨cb,co+ai*2+1,none⟩=some (.int .i64 a)
theorem Zgb (z:Int):wrap64 z=Zcg z:=by
 unfold wrap64 Zcg
 rw [Int.bmod_def]
 omega
def Zfh (p q:List Fn):Prop:=q.length=p.length∧∀ k,(q.getD k Fn.zero).args=(p.getD k Fn.zero).args∧(q.getD k Fn.zero).locals=(p.getD k Fn.zero).locals
theorem Zfh.eff {p q:List Fn} (h:Zfh p q) (kd a:Int):Qj q kd a=Qj p kd a:=by
 unfold Qj
 rw [h.1,(h.2 a.toNat).1]
theorem Zfh.beh {p q:List Fn} (h:Zfh p q) (x:Int × Int) (z:Int):beh q x z=beh p x z:=by
 unfold Proofs.YtblihfpigjiahaaDoor.beh
 rw [h.eff]
def hgtL (p:List Fn) (k:Nat):List Int:=(Qc p (Zw p k)).getD []
theorem Zfu {p:List Fn} (h:Xd p=0) {k:Nat} (hk:k<p.length):Qc p (Zw p k)=some (hgtL p k):=by
 unfold Xd at h
 split at h
 ·cases h
 ·split at h
  ·cases h
  ·split at h
   ·cases h
   ·split at h
    ·have:=Zci h k (by omega) (by omega)
     unfold Ye at this
     unfold hgtL
     split at this
     ·rename_i H hH;rw [hH];rfl
     ·cases this
    ·rename_i h0;exact absurd h h0
theorem Zmu {p:List Fn} (h:Xd p=0) {k:Nat} (hk:k<p.length):Yf p (Zw p k):=by
 obtain ⟨_,_,hck⟩:=Pt h
 obtain ⟨_,_,hops⟩:=Zge (hck k hk)
 exact ⟨p.getD k Fn.zero,rfl,fun x hx=>Zca hops x hx⟩
theorem Zdg {p:List Fn} (h:Xd p=0) {k:Nat} (hk:k<p.length):Cons p (Zw p k) (hgt p k)∧Jp p (Zw p k) (hgt p k) :=
 Zcu (Zmu h hk) (Zfu h hk)
theorem Zlh {p:List Fn} (h:Xd p=0) {k:Nat} (hk:k<p.length) (a:Nat):-1≤(hgt p k).getD a 0∧(hgt p k).getD a 0≤8:=by
 by_cases ha:a<(hgt p k).length
 ·obtain ⟨hc,hs⟩:=Zdg h hk
  rcases hs a (by rw [← hc.len];exact ha) with e | ⟨h0,hr⟩
  ·omega
  ·have:=hr (fun _ z=>z≤8) (by omega) (fun k' z x m j _ hx hm _=>(Uw (Zmu h hk) (List.mem_of_getElem? hx) hm).2)
   exact ⟨by omega,this⟩
 ·simp [List.getD,List.getElem?_eq_none (by omega:(hgt p k).length≤a)]
theorem Zrn {p:List Fn} (h:Xd p=0):Bare p:=by
 intro k i x hx hk
 by_cases hkl:k<p.length
 ·obtain ⟨_,_,hck⟩:=Pt h
  obtain ⟨_,_,hops⟩:=Zge (hck k hkl)
  obtain ⟨_,_,hm⟩:=Yx (Zca hops x (List.mem_of_getElem? hx))
  have ho:opd x.1.toNat=0:=by rcases hk with e | e <;> rw [e] <;> rfl
  rw [ho] at hm
  simpa [Qh] using hm
 ·have:Zw p k=[]:=by
   unfold Zw
   simp [List.getD,List.getElem?_eq_none (by omega:p.length≤k),Fn.zero]
  rw [this] at hx
  simp at hx
end Go.Proofs.YtblihfpigjiahaaDoor
