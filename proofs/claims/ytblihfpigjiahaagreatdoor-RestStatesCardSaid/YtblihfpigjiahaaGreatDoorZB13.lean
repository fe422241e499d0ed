/- StateS, StateU, StepS, OkP, DoAt, TrimS -/
import Derived.Test.YtblihfpigjiahaaGreatDoorZB11
import Derived.Test.YtblihfpigjiahaaGreatDoorZB12
import Derived.Test.YtblihfpigjiahaaGreatDoorZB09
set_option maxRecDepth 100000
set_option maxHeartbeats 8000000
namespace Go.Proofs.YtblihfpigjiahaaGreatDoor
def hgt (p:List Fn) (k:Nat):List Int:=(Xn p (Zu p k)).getD []
def hAt (p:List Fn) (x:Fr):Int:=(hgt p x.fn.toNat).getD x.at_.toNat 0
def opAhead (p:List Fn) (x:Fr):Int × Int:=(Zu p x.fn.toNat).getD (x.at_.toNat - 1) (0,0)
def Zw (p:List Fn) (x:Fr):Bool :=
 ixB x.fn p.length && (decide ((x.locals.length:Int)=(p.getD x.fn.toNat Fn.zero).locals) && (ixB x.at_ (Zu p x.fn.toNat).length && decide (0≤hAt p x)))
def waitB (p:List Fn) (x:Fr) (kd ofn:Int):Bool :=
 (!decide (x.at_=0) && decide ((x.stack.length:Int)=hAt p x - 1)) && (decide ((opAhead p x).1=kd) && (!decide (kd=11) || decide ((opAhead p x).2=ofn)))
def zerosB (l:List Int):Bool:=l.all fun z=>decide (z=0)
def Qk (p:List Fn) (b:Fb):Bool :=
 match b.frames with
 | [x]=>(decide (x.at_=0) && (decide ((p.getD x.fn.toNat Fn.zero).args=1) && decide (x.stack.length=0))) && zerosB x.locals
 | _=>false
def Jg (p:List Fn):List Fr→Bool
 | []=>true
 | [x]=>Zw p x
 | x :: y :: r=>Zw p x && (ixB y.fn p.length && waitB p x 11 y.fn) && Jg p (y :: r)
def Xt (p:List Fn) (b:Fb) (on runs:Bool):Bool :=
 match b.frames.getLast? with
 | none=>!on && decide (b.caller=-1)
 | some t=>Jg p b.frames &&
   (if runs=true then decide ((t.stack.length:Int)=hAt p t)
    else if on=true then waitB p t 14 0
    else decide (b.caller=-1) && (Qk p b || waitB p t 15 0))
def Xf (fs:List Fb) (n:Int):Int:=(fs.getD n.toNat Fb.zero).caller
def Xe (fs:List Fb):Nat→Int→List Int→Option (List Int)
 | 0,_,_=>none
 | k + 1,n,acc=>if n < 0 then some acc else if n∈acc then none else Xe fs k (Xf fs n) (acc++[n])
def Xm (s:St):Option (List Int) :=
 match Xe s.fibers (s.fibers.length + 1) s.now [] with
 | none=>none
 | some l=>if l=[]∨l.getLast?=some 0 then some l else none
def limS (s:St):Int :=
 if s.fibers.length≤5∧s.out.length≤30 then
  if (s.fibers.all fun b=>decide (b.frames.length≤6))=true then
   if 0 < s.fibers.length then
    if inB s.now (-1) (s.fibers.length - 1)=true then
     if (s.fibers.all fun b=>inB b.caller (-1) (s.fibers.length - 1))=true then 0 else 3
    else 3
   else 5
  else 2
 else 2
def formR (p:List Fn) (s:St):Bool :=
 match Xm s with
 | none=>false
 | some l=>!(decide (s.now=-1) && !(s.fibers.getD 0 Fb.zero).frames.isEmpty) &&
   (List.range s.fibers.length).all fun k=>Xt p (s.fibers.getD k Fb.zero) (decide ((k:Int)∈l)) (decide ((k:Int)=s.now)) && !(decide (k=0) && (!decide ((0:Int)∈l) && !(s.fibers.getD 0 Fb.zero).frames.isEmpty))
def Zy (p:List Fn) (s:St):Int :=
 if Zx p=0 then (if limS s=0 then (if formR p s=true then 0 else 1) else limS s) else Zx p
def Xp (p:List Fn) (x:Fr) (op:Int × Int):Bool :=
 (decide (0 < x.at_) && decide ((x.stack.length:Int)=hAt p x - 1)) && decide (opAhead p x=op)
def Xu (p:List Fn):List Fr→Bool
 | x :: y :: r=>Xp p x (11,y.fn) && Xu p (y :: r)
 | _=>true
def Qm (fs:List Fb):Nat→Int→List Bool→Option (List Bool)
 | 0,_,_=>none
 | k + 1,n,B=>if n=-1 then some B else if B.getD n.toNat false=true∨(decide (Xf fs n=-1))≠(decide (n=0)) then none else Qm fs k (Xf fs n) (B.set n.toNat true)
def jlineS (s:St):Option (List Bool) :=
 match Qm s.fibers (s.fibers.length + 1) s.now (List.replicate s.fibers.length false) with
 | none=>none
 | some B=>if ((List.range s.fibers.length).all fun k=>B.getD k false || decide ((s.fibers.getD k Fb.zero).caller=-1))=true then some B else none
def Jd (p:List Fn) (s:St) (n:Nat) (on:Bool):Bool :=
 match (s.fibers.getD n Fb.zero).frames.getLast? with
 | none=>!on
 | some t=>(on || !decide (n=0)) && ((!on && Qk p (s.fibers.getD n Fb.zero)) || (Xu p (s.fibers.getD n Fb.zero).frames &&
   (if (n:Int)=s.now then decide ((t.stack.length:Int)=hAt p t) else if on=true then Xp p t (14,0) else Xp p t (15,0))))
def formJ (p:List Fn) (s:St):Bool :=
 (s.fibers.all fun b=>b.frames.all (Zw p)) &&
 match jlineS s with
 | none=>false
 | some B=>(List.range s.fibers.length).all fun n=>Jd p s n (B.getD n false)
def judgeS (p:List Fn) (s:St):Int:=if limS s=0 then (if formJ p s=true then 0 else 1) else limS s
theorem sub_len {l S:List Int} (hn:l.Nodup) (hs:∀ x,x∈l→x∈S):l.length≤S.length:=by
 induction l generalizing S with
 | nil=>simp
 | cons x r ih =>
  rw [List.nodup_cons] at hn
  have hx:=hs x (List.mem_cons_self)
  have:=ih (S:=S.erase x) hn.2 (fun y hy=>(List.mem_erase_of_ne (by rintro rfl; exact hn.1 hy)).2 (hs y (List.mem_cons_of_mem _ hy)))
  rw [List.length_erase_of_mem hx] at this
  have hp:=List.length_pos_of_mem hx
  simp
  omega
theorem few {l:List Int} {n:Nat} (hn:l.Nodup) (hs:∀ x,x∈l→0≤x∧x < n):l.length≤n:=by
 have:=sub_len (S:=(List.range n).map fun (k:Nat)=>(k:Int)) hn (fun x hx=>by
  have:=hs x hx
  exact List.mem_map.2 ⟨x.toNat,by simp; omega,by omega⟩)
 simpa using this
theorem framesB_iff (p:List Fn):∀ l:List Fr,Jg p l=true↔(l.all (Zw p)=true∧Xu p l=true)
 | []=>by simp [Jg,Xu]
 | [x]=>by simp [Jg,Xu]
 | x :: y :: r=>by
  have ih:=framesB_iff p (y :: r)
  have hw:Zw p x=true→(waitB p x 11 y.fn=true↔Xp p x (11,y.fn)=true):=by
   intro hx
   simp only [Zw,Bool.and_eq_true,Qb,decide_eq_true_eq] at hx
   simp only [waitB,Xp,Bool.and_eq_true,Bool.or_eq_true,Bool.not_eq_true',decide_eq_true_eq,decide_eq_false_iff_not,Prod.ext_iff]
   have:(¬ x.at_=0)↔0 < x.at_:=by omega
   rw [this]
   simp
  simp only [Jg,Xu,Bool.and_eq_true,ih,List.all_cons]
  constructor
  ·rintro ⟨⟨h1,_,h3⟩,h4,h5⟩
   exact ⟨⟨h1,by simpa using h4⟩,(hw h1).1 h3,h5⟩
  ·rintro ⟨⟨h1,h2⟩,h3,h4⟩
   refine ⟨⟨h1,?_,(hw h1).2 h3⟩,by simpa using h2,h4⟩
   have:=h2.1
   simp only [Zw,Bool.and_eq_true] at this
   exact this.1
def Marks (n:Nat) (B:List Bool) (l:List Int):Prop:=B.length=n∧∀ i:Nat,i < n→B.getD i false=decide ((i:Int)∈l)
theorem Marks.set {n:Nat} {B:List Bool} {l:List Int} (h:Marks n B l) {z:Int} (h0:0≤z) (_hz:z < n):Marks n (B.set z.toNat true) (l++[z]):=by
 refine ⟨by simp [h.1],fun i hi=>?_⟩
 have:=h.2 i hi
 by_cases e:z.toNat=i
 ·subst e
  simp [List.getD,h.1,hi]
  right; omega
 ·have hne:¬ ((i:Int)=z):=by omega
  simp [List.getD,e,hne] at this ⊢
  rw [this]
theorem line_last (fs:List Fb):∀ (k:Nat) (n:Int) (acc acc':List Int),0≤n→Xe fs k n acc=some acc'→∃ z,acc'.getLast?=some z∧z ∉ acc
 | 0,_,_,_,_,h=>by cases h
 | k + 1,n,acc,acc',h0,h=>by
  unfold Xe at h
  rw [if_neg (by omega)] at h
  split at h
  ·cases h
  ·rename_i hna
   by_cases hc:Xf fs n < 0
   ·cases k with
    | zero=>cases h
    | succ k =>
     unfold Xe at h
     rw [if_pos hc] at h
     cases h
     exact ⟨n,by simp,hna⟩
   ·obtain ⟨z,h1,h2⟩:=line_last fs k _ _ _ (by omega) h
    exact ⟨z,h1,fun hm=>h2 (List.mem_append_left _ hm)⟩
theorem jline_line {fs:List Fb} (hc:∀ b,b∈fs→-1≤b.caller∧b.caller < fs.length):∀ (k:Nat) (n:Int) (acc:List Int) (B B':List Bool),-1≤n→n < fs.length→Marks fs.length B acc→Qm fs k n B=some B' →
  ∃ acc',Xe fs k n acc=some acc'∧Marks fs.length B' acc'∧(n=-1→acc'=acc)∧(n≠-1→acc'.getLast?=some 0)
 | 0,_,_,_,_,_,_,_,h=>by cases h
 | k + 1,n,acc,B,B',h0,hn,hm,h=>by
  unfold Qm at h
  unfold Xe
  by_cases hz:n=-1
  ·rw [if_pos hz] at h
   cases h
   rw [if_pos (by omega)]
   exact ⟨acc,rfl,hm,fun _=>rfl,fun h=>absurd hz h⟩
  ·rw [if_neg hz] at h
   split at h
   ·cases h
   ·rename_i hno
    rw [not_or] at hno
    obtain ⟨hb,hq⟩:=hno
    have hq:decide (Xf fs n=-1)=decide (n=0):=by
     rcases Decidable.em (decide (Xf fs n=-1)=decide (n=0)) with h | h
     ·exact h
     ·exact absurd h hq
    have hna:n ∉ acc:=by
     have:=hm.2 n.toNat (by omega)
     rw [show ((n.toNat:Nat):Int)=n by omega] at this
     intro hin
     rw [this,decide_eq_true hin] at hb
     exact hb rfl
    rw [if_neg (by omega),if_neg hna]
    have hcr:-1≤Xf fs n∧Xf fs n < fs.length:=by
     have hx:=Zm fs n.toNat Fb.zero (by omega)
     exact hc _ (List.mem_of_getElem? hx)
    obtain ⟨acc',h1,h2,h3,h4⟩:=jline_line hc k _ _ _ _ hcr.1 hcr.2 (hm.set (by omega) hn) h
    refine ⟨acc',h1,h2,fun h=>absurd h hz,fun _=>?_⟩
    by_cases hcz:Xf fs n=-1
    ·rw [h3 hcz]
     simp only [hcz,decide_true] at hq
     have:n=0:=by simpa using hq.symm
     simp [this]
    ·exact h4 hcz
theorem line_jline {fs:List Fb} (hc:∀ b,b∈fs→-1≤b.caller∧b.caller < fs.length):∀ (k:Nat) (n:Int) (acc acc':List Int) (B:List Bool),-1≤n→n < fs.length→Marks fs.length B acc→Xe fs k n acc=some acc'→(n≠-1→acc'.getLast?=some 0) →
  ∃ B',Qm fs k n B=some B'∧Marks fs.length B' acc'
 | 0,_,_,_,_,_,_,_,h,_=>by cases h
 | k + 1,n,acc,acc',B,h0,hn,hm,h,hl=>by
  unfold Xe at h
  unfold Qm
  by_cases hz:n=-1
  ·rw [if_pos (by omega)] at h
   cases h
   exact ⟨B,by rw [if_pos hz],hm⟩
  ·rw [if_neg (by omega)] at h
   split at h
   ·cases h
   ·rename_i hna
    have hcr:-1≤Xf fs n∧Xf fs n < fs.length:=by
     have hx:=Zm fs n.toNat Fb.zero (by omega)
     exact hc _ (List.mem_of_getElem? hx)
    have hb:B.getD n.toNat false=false:=by
     have:=hm.2 n.toNat (by omega)
     rw [show ((n.toNat:Nat):Int)=n by omega] at this
     rw [this,decide_eq_false hna]
    have hl0:=hl hz
    have hq:decide (Xf fs n=-1)=decide (n=0):=by
     rw [decide_eq_decide]
     by_cases hcz:Xf fs n=-1
     ·cases k with
      | zero=>cases h
      | succ k =>
       unfold Xe at h
       rw [if_pos (by omega)] at h
       cases h
       simp at hl0
       subst hl0
       simp [hcz]
     ·obtain ⟨z,h1,h2⟩:=line_last fs k _ _ _ (by omega) h
      rw [hl0] at h1
      cases h1
      simp only [List.mem_append,List.mem_singleton,not_or] at h2
      constructor
      ·intro h; exact absurd h hcz
      ·intro h; exact absurd h.symm h2.2
    obtain ⟨B',h1,h2⟩:=line_jline hc k _ _ _ _ hcr.1 hcr.2 (hm.set (by omega) hn) h (fun _=>hl0)
    refine ⟨B',?_,h2⟩
    rw [if_neg hz,if_neg]
    ·exact h1
    ·rw [hb,hq]; simp
theorem line_mem (fs:List Fb):∀ (k:Nat) (n:Int) (acc acc':List Int),Xe fs k n acc=some acc'→(∀ z,z∈acc→z∈acc')∧(0≤n→n∈acc')∧(n < 0→acc'=acc)
 | 0,_,_,_,h=>by cases h
 | k + 1,n,acc,acc',h=>by
  unfold Xe at h
  split at h
  ·cases h; exact ⟨fun _ h=>h,fun _=>by omega,fun _=>rfl⟩
  ·split at h
   ·cases h
   ·have ih:=line_mem fs k _ _ _ h
    exact ⟨fun z hz=>ih.1 z (List.mem_append_left _ hz),fun _=>ih.1 n (by simp),fun _=>by omega⟩
theorem Kd {s:St} (h:limS s=0):s.fibers.length≤5∧s.out.length≤30∧(∀ b,b∈s.fibers→b.frames.length≤6)∧0 < s.fibers.length∧(-1≤s.now∧s.now < s.fibers.length)∧∀ b,b∈s.fibers→-1≤b.caller∧b.caller < s.fibers.length:=by
 unfold limS at h
 split at h
 ·rename_i h1
  split at h
  ·rename_i h2
   split at h
   ·rename_i h3
    split at h
    ·rename_i h4
     split at h
     ·rename_i h5
      rw [inB_iff] at h4
      simp only [List.all_eq_true,inB_iff,decide_eq_true_eq] at h2 h5
      exact ⟨h1.1,h1.2,h2,h3,⟨h4.1,by omega⟩,fun b hb=>⟨(h5 b hb).1,by have:=(h5 b hb).2; omega⟩⟩
     ·cases h
    ·cases h
   ·cases h
  ·cases h
 ·cases h
def Bare (p:List Fn):Prop:=∀ (k i:Nat) (x:Int × Int),(Zu p k)[i]?=some x→x.1=14∨x.1=15→x.2=0
theorem wait_jwait {p:List Fn} (hb:Bare p) {x:Fr} (hx:Zw p x=true) {kd:Int} (hk:kd=14∨kd=15):waitB p x kd 0=Xp p x (kd,0):=by
 rw [Bool.eq_iff_iff]
 simp only [Zw,Bool.and_eq_true,Qb,decide_eq_true_eq] at hx
 simp only [waitB,Xp,Bool.and_eq_true,Bool.or_eq_true,Bool.not_eq_true',decide_eq_true_eq,decide_eq_false_iff_not,Prod.ext_iff]
 have h1:(¬ x.at_=0)↔0 < x.at_:=by omega
 have h2:¬ kd=11:=by omega
 rw [h1]
 constructor
 ·rintro ⟨h3,h4,_⟩
  refine ⟨h3,h4,?_⟩
  have hlt:x.at_.toNat - 1 < (Zu p x.fn.toNat).length:=by omega
  have:=hb x.fn.toNat (x.at_.toNat - 1) (opAhead p x) (by unfold opAhead; rw [Zm _ _ (0,0) hlt]) (by rw [h4]; exact hk)
  exact this
 ·rintro ⟨h3,h4,_⟩
  exact ⟨h3,h4,.inl h2⟩
theorem all_getD {α:Type} {l:List α} {P:α→Bool} {d:α} (h:l.all P=true) {k:Nat} (hk:k < l.length):P (l.getD k d)=true:=by
 rw [List.all_eq_true] at h
 exact h _ (List.mem_of_getElem? (Zm l k d hk))
theorem Jj {n:Nat} {P:Nat→Bool}:(List.range n).all P=true↔∀ k,k < n→P k=true:=by
 simp [List.all_eq_true]
theorem freshB_one {p:List Fn} {b:Fb} (h:Qk p b=true):Xu p b.frames=true∧∃ x,b.frames=[x]:=by
 unfold Qk at h
 split at h
 ·rename_i x e; rw [e]; exact ⟨rfl,x,rfl⟩
 ·cases h
theorem fiber_same {p:List Fn} (hb:Bare p) {s:St} {k:Nat} {on:Bool} (hrun:(k:Int)=s.now→on=true) :
  (Xt p (s.fibers.getD k Fb.zero) on (decide ((k:Int)=s.now))=true∧¬ (k=0∧on=false∧(s.fibers.getD 0 Fb.zero).frames.isEmpty=false)) ↔
  ((s.fibers.getD k Fb.zero).frames.all (Zw p)=true∧(on || decide ((s.fibers.getD k Fb.zero).caller=-1))=true∧Jd p s k on=true):=by
 have h0:k=0→s.fibers.getD 0 Fb.zero=s.fibers.getD k Fb.zero:=by rintro rfl; rfl
 by_cases hk0:k=0
 ·rw [h0 hk0]
  generalize hbe:s.fibers.getD k Fb.zero=b at *
  unfold Xt Jd
  rw [hbe]
  cases hl:b.frames.getLast? with
  | none =>
   have:b.frames=[]:=by simpa using hl
   simp only [this,List.all_nil,List.isEmpty_nil]
   cases on <;> simp
  | some t =>
   have hne:b.frames.isEmpty=false:=by
    cases hf:b.frames with
    | nil=>rw [hf] at hl; cases hl
    | cons _ _=>rfl
   have ht:t∈b.frames:=by
    rw [List.getLast?_eq_some_iff] at hl
    obtain ⟨ys,hy⟩:=hl
    rw [hy]; simp
   cases on with
   | false=>simp [hk0,hne]
   | true =>
    simp only [Bool.and_eq_true,framesB_iff]
    by_cases hr:(k:Int)=s.now
    ·simp only [hr,decide_true,if_true]
     simp [and_assoc]
    ·simp only [hr,decide_false,if_false]
     simp
     constructor
     ·rintro ⟨⟨h1,h2⟩,h3⟩
      have:=wait_jwait hb (h1 t ht) (.inl rfl)
      exact ⟨h1,h2,by rw [← this]; exact h3⟩
     ·rintro ⟨h1,h2,h3⟩
      have:=wait_jwait hb (h1 t ht) (.inl rfl)
      exact ⟨⟨h1,h2⟩,by rw [this]; exact h3⟩
 ·generalize hbe:s.fibers.getD k Fb.zero=b at *
  unfold Xt Jd
  rw [hbe]
  cases hl:b.frames.getLast? with
  | none =>
   have:b.frames=[]:=by simpa using hl
   simp only [this,List.all_nil]
   cases on <;> simp [hk0]
  | some t =>
   have ht:t∈b.frames:=by
    rw [List.getLast?_eq_some_iff] at hl
    obtain ⟨ys,hy⟩:=hl
    rw [hy]; simp
   simp only [Bool.and_eq_true,framesB_iff]
   cases on with
   | true =>
    by_cases hr:(k:Int)=s.now
    ·simp only [hr,decide_true,if_true]
     simp [hk0,and_assoc]
    ·simp only [hr,decide_false,if_false]
     simp [hk0]
     constructor
     ·rintro ⟨⟨h1,h2⟩,h3⟩
      have:=wait_jwait hb (h1 t ht) (.inl rfl)
      exact ⟨h1,h2,by rw [← this]; exact h3⟩
     ·rintro ⟨h1,h2,h3⟩
      have:=wait_jwait hb (h1 t ht) (.inl rfl)
      exact ⟨⟨h1,h2⟩,by rw [this]; exact h3⟩
   | false =>
    have hr:¬ (k:Int)=s.now:=fun h=>by have:=hrun h; cases this
    simp only [hr,decide_false,if_false]
    simp [hk0]
    constructor
    ·rintro ⟨⟨h1,h2⟩,h3,h4⟩
     have:=wait_jwait hb (h1 t ht) (.inr rfl)
     refine ⟨h1,h3,?_⟩
     rcases h4 with h4 | h4
     ·exact .inl h4
     ·exact .inr ⟨h2,by rw [← this]; exact h4⟩
    ·rintro ⟨h1,h3,h4⟩
     have:=wait_jwait hb (h1 t ht) (.inr rfl)
     rcases h4 with h4 | h4
     ·exact ⟨⟨h1,(freshB_one h4).1⟩,h3,.inl h4⟩
     ·exact ⟨⟨h1,h4.1⟩,h3,.inr (by rw [this]; exact h4.2)⟩
theorem form_same {p:List Fn} (hb:Bare p) {s:St} (hlim:limS s=0):formJ p s=formR p s:=by
 obtain ⟨hf5,ho,hfr,hpos,hnow,hcal⟩:=Kd hlim
 have hm0:Marks s.fibers.length (List.replicate s.fibers.length false) []:=⟨by simp,fun i hi=>by simp [List.getD,hi]⟩
 rw [Bool.eq_iff_iff]
 constructor
 ·intro h
  simp only [formJ,Bool.and_eq_true] at h
  obtain ⟨hall,h⟩:=h
  unfold jlineS at h
  cases hj:Qm s.fibers (s.fibers.length + 1) s.now (List.replicate s.fibers.length false) with
  | none=>rw [hj] at h; cases h
  | some B =>
   rw [hj] at h
   simp only at h
   by_cases hcl:((List.range s.fibers.length).all fun k=>B.getD k false || decide ((s.fibers.getD k Fb.zero).caller=-1))=true
   ·rw [if_pos hcl] at h
    simp only at h
    obtain ⟨l,h1,h2,h3,h4⟩:=jline_line hcal _ _ _ _ _ hnow.1 hnow.2 hm0 hj
    have hmem:=line_mem _ _ _ _ _ h1
    have hls:Xm s=some l:=by
     unfold Xm
     rw [h1]
     simp only
     rw [if_pos]
     by_cases hz:s.now=-1
     ·exact .inl (h3 hz)
     ·exact .inr (h4 hz)
    have hk:∀ k,k < s.fibers.length→(Xt p (s.fibers.getD k Fb.zero) (decide ((k:Int)∈l)) (decide ((k:Int)=s.now))=true∧¬ (k=0∧decide ((k:Int)∈l)=false∧(s.fibers.getD 0 Fb.zero).frames.isEmpty=false)):=by
     intro k hk
     rw [Jj] at h hcl
     have e:=h2.2 k hk
     have:=h k hk
     have hc:=hcl k hk
     rw [e] at this hc
     exact (fiber_same hb (fun hn=>decide_eq_true (by rw [hn]; exact hmem.2.1 (by omega)))).2 ⟨all_getD hall hk,hc,this⟩
    unfold formR
    rw [hls]
    simp only [Bool.and_eq_true]
    refine ⟨?_,Jj.2 fun k hk'=>?_⟩
    ·have:=(hk 0 hpos).2
     by_cases hz:s.now=-1
     ·have:l=[]:=h3 hz
      subst this
      simp at this ⊢
      exact .inr this
     ·simp [hz]
    ·obtain ⟨h5,h6⟩:=hk k hk'
     rw [Bool.and_eq_true]
     refine ⟨h5,?_⟩
     by_cases hk0:k=0
     ·subst hk0
      simp at h6 ⊢
      by_cases h7:(0:Int)∈l
      ·exact .inl h7
      ·exact .inr (h6 h7)
     ·simp [hk0]
   ·rw [if_neg hcl] at h; cases h
 ·intro h
  unfold formR at h
  cases hls:Xm s with
  | none=>rw [hls] at h; cases h
  | some l =>
   rw [hls] at h
   simp only [Bool.and_eq_true] at h
   obtain ⟨_,h⟩:=h
   unfold Xm at hls
   cases hl:Xe s.fibers (s.fibers.length + 1) s.now [] with
   | none=>rw [hl] at hls; cases hls
   | some l' =>
    rw [hl] at hls
    simp only at hls
    split at hls
    ·rename_i hlast
     cases hls
     have hmem:=line_mem _ _ _ _ _ hl
     obtain ⟨B,h1,h2⟩:=line_jline hcal _ _ _ _ _ hnow.1 hnow.2 hm0 hl (fun hz=>by
      rcases hlast with rfl | h
      ·have:=hmem.2.1 (by omega); simp at this
      ·exact h)
     have hk:∀ k,k < s.fibers.length→((s.fibers.getD k Fb.zero).frames.all (Zw p)=true∧(decide ((k:Int)∈l) || decide ((s.fibers.getD k Fb.zero).caller=-1))=true∧Jd p s k (decide ((k:Int)∈l))=true):=by
      intro k hk
      have:=Jj.1 h k hk
      rw [Bool.and_eq_true] at this
      refine (fiber_same hb (fun hn=>decide_eq_true (by rw [hn]; exact hmem.2.1 (by omega)))).1 ⟨this.1,?_⟩
      rintro ⟨rfl,h5,h6⟩
      have h7:=this.2
      have h8:(0:Int) ∉ l:=by simpa using h5
      rw [h6] at h7
      simp [h8] at h7
     unfold formJ
     rw [Bool.and_eq_true]
     refine ⟨?_,?_⟩
     ·rw [List.all_eq_true]
      intro b hbm
      obtain ⟨i,hi,rfl⟩:=List.getElem_of_mem hbm
      have:=(hk i hi).1
      simpa [List.getD,hi] using this
     ·unfold jlineS
      rw [h1]
      simp only
      rw [if_pos]
      ·simp only
       exact Jj.2 fun k hk'=>by rw [h2.2 k hk']; exact (hk k hk').2.2
      ·exact Jj.2 fun k hk'=>by rw [h2.2 k hk']; exact (hk k hk').2.1
    ·cases hls
theorem judge_same {p:List Fn} (hb:Bare p) (s:St):judgeS p s=if limS s=0 then (if formR p s=true then 0 else 1) else limS s:=by
 unfold judgeS
 by_cases h:limS s=0
 ·rw [if_pos h,if_pos h,form_same hb h]
 ·rw [if_neg h,if_neg h]
def Fb.top (b:Fb):Fr:=b.frames.getLast?.getD Fr.zero
def St.fib (s:St) (n:Int):Fb:=s.fibers.getD n.toNat Fb.zero
def St.turn (s:St) (n:Int) (g:Fb→Fb):St:={ s with fibers:=s.fibers.set n.toNat (g (s.fib n)) }
def Fb.turnTop (b:Fb) (g:Fr→Fr):Fb:={ b with frames:=b.frames.set (b.frames.length - 1) (g b.top) }
def St.top (s:St):Fr:=(s.fib s.now).top
def St.turnTop (s:St) (n:Int) (g:Fr→Fr):St:=s.turn n fun b=>b.turnTop g
def Zp (s:St) (n v:Int):St:=s.turnTop n fun f=>{ f with stack:=f.stack++[v] }
def Zh (s:St):Int:=s.top.stack.getLast?.getD 0
def Zc (s:St):St:=s.turnTop s.now fun f=>{ f with stack:=f.stack.dropLast }
def setAt (s:St) (a:Int):St:=s.turnTop s.now fun f=>{ f with at_:=a }
def putS (s:St) (v:Int):St × Int:=if s.out.length=30 then (St.zero,2) else ({ s with out:=s.out++[v] },0)
def Qg (p:List Fn) (f:Int) (vals:List Int):Fr:=⟨f,0,vals++List.replicate ((p.getD f.toNat Fn.zero).locals.toNat - vals.length) 0,[]⟩
def givenS (s:St):St × Int :=
 let v:=Zh s
 let s1:St:=(Zc s).turn s.now fun b=>{ b with frames:=b.frames.dropLast }
 if (s1.fib s.now).frames=[] then
  if (s1.fib s.now).caller < 0 then putS { s1 with now:=-1 } v
  else (Zp { (s1.turn s.now fun b=>{ b with caller:=-1 }) with now:=(s1.fib s.now).caller } (s1.fib s.now).caller v,0)
 else (Zp s1 s.now v,0)
def Jo (s:St):St × Int :=
 let v:=Zh s
 let n:=Zh (Zc s)
 let s1:=Zc (Zc s)
 if ixB n s1.fibers.length=true then
  if n∈(Xe s1.fibers (s1.fibers.length + 1) s1.now []).getD []∨(s1.fib n).frames=[] then (St.zero,6)
  else
   let s2:St:={ (s1.turn n fun b=>{ b with caller:=s1.now }) with now:=n }
   if s2.top.at_=0 then (s2.turnTop n fun f=>{ f with locals:=f.locals.set 0 v },0) else (Zp s2 n v,0)
 else (St.zero,5)
def calledS (p:List Fn) (s:St) (f:Int):St × Int :=
 let k:=(p.getD f.toNat Fn.zero).args.toNat
 let vals:=s.top.stack.drop (s.top.stack.length - k)
 let s1:=s.turnTop s.now fun x=>{ x with stack:=x.stack.take (x.stack.length - k) }
 if (s1.fib s.now).frames.length=6 then (St.zero,2)
 else (s1.turn s.now fun b=>{ b with frames:=b.frames++[Qg p f vals] },0)
def Je (s:St):St × Int :=
 let v:=Zh s
 let s1:=Zc s
 if (s1.fib s.now).caller < 0 then (St.zero,7)
 else (Zp { (s1.turn s.now fun b=>{ b with caller:=-1 }) with now:=(s1.fib s.now).caller } (s1.fib s.now).caller v,0)
def wrapS (z:Int):Int:=Int.bmod z (2 ^ 64)
def truthS (b:Bool):Int:=if b=true then 1 else 0
def Qd (kd a b:Int):Int :=
 if kd=4 then wrapS (a + b) else if kd=5 then wrapS (a - b) else if kd=6 then wrapS (a * b) else if kd=7 then truthS (decide (a < b)) else truthS (decide (a=b))
def madeS (p:List Fn) (s:St) (f:Int):St × Int :=
 if s.fibers.length=5 then (St.zero,2)
 else ({ Zp s s.now s.fibers.length with fibers:=(Zp s s.now s.fibers.length).fibers++[⟨[Qg p f []],-1⟩] },0)
def Zr (p:List Fn) (s0:St):St × Int :=
 let x:=(Zu p s0.top.fn.toNat).getD s0.top.at_.toNat (0,0)
 let s:=setAt s0 (s0.top.at_ + 1)
 if x.1=0 then (Zp s s.now x.2,0)
 else if x.1=1 then (Zc s,0)
 else if x.1=2 then (Zp s s.now (s.top.locals.getD x.2.toNat 0),0)
 else if x.1=3 then ((Zc s).turnTop s.now fun f=>{ f with locals:=f.locals.set x.2.toNat (Zh s) },0)
 else if x.1=9 then (setAt s x.2,0)
 else if x.1=10 then (if Zh s=0 then setAt (Zc s) x.2 else Zc s,0)
 else if x.1=11 then calledS p s x.2
 else if x.1=12 then givenS s
 else if x.1=13 then madeS p s x.2
 else if x.1=14 then Jo s
 else if x.1=15 then Je s
 else if x.1=16 then putS (Zc s) (Zh s)
 else (Zp (Zc (Zc s)) s.now (Qd x.1 (Zh (Zc s)) (Zh s)),0)
def oneS (p:List Fn) (s:St):St × Int:=if s.now < 0 then (St.zero,8) else Zr p s
def runS (p:List Fn):Nat→St→St × Nat × Int
 | 0,s=>(s,0,0)
 | k + 1,s=>if s.now < 0 then (s,0,0) else if (oneS p s).2=0 then ((runS p k (oneS p s).1).1,(runS p k (oneS p s).1).2.1 + 1,(runS p k (oneS p s).1).2.2) else (s,0,(oneS p s).2)
def Xw (p:List Fn):St:=⟨[⟨[⟨0,0,List.replicate (p.getD 0 Fn.zero).locals.toNat 0,[]⟩],-1⟩],0,[]⟩
theorem top_frAt (s:St) (i:Nat):(Za s i).top=frAt s i ((Za s i).frames.length - 1):=by
 unfold Fb.top frAt
 rw [List.getLast?_eq_getElem?]
 simp [List.getD]
theorem Jm (s:St) (i:Nat) (g:Fr→Fr):s.turnTop (i:Int) g=Xl s i ((Za s i).frames.length - 1) (g (frAt s i ((Za s i).frames.length - 1))):=by
 unfold St.turnTop St.turn Fb.turnTop Xl Zf St.fib
 rw [Int.toNat_natCast]
 show _={ s with fibers:=_ }
 rw [← top_frAt s i]
 rfl
structure Runs (s:St) (i:Nat):Prop where
 lt:i < s.fibers.length
 fr:0 < (Za s i).frames.length
 frs:(Za s i).frames.length≤1000
 st:(frAt s i ((Za s i).frames.length - 1)).stack.length≤1000
theorem Qp (s:St) (i:Nat):s.fib (i:Int)=Za s i:=by unfold St.fib Za; rw [Int.toNat_natCast]
theorem Qy (s:St) (i:Nat) (g:Fb→Fb):s.turn (i:Int) g=Zf s i (g (Za s i)):=by
 unfold St.turn; rw [Qp,Int.toNat_natCast]; rfl
theorem Qn {s:St} {i:Nat} (hn:s.now=i):Zc s=Xl s i ((Za s i).frames.length - 1) { frAt s i ((Za s i).frames.length - 1) with stack:=(frAt s i ((Za s i).frames.length - 1)).stack.dropLast }:=by
 unfold Zc
 rw [hn,Jm]
theorem setFr_other {s:St} {i j k:Nat} (f:Fr) (h:i≠k):Za (Xl s i j f) k=Za s k:=Xr _ h
theorem Runs.other {s s':St} {k:Nat} (h:Runs s k) (hl:s'.fibers.length=s.fibers.length) (hf:Za s' k=Za s k):Runs s' k:=by
 have hfr:∀ j,frAt s' k j=frAt s k j:=fun j=>by unfold frAt; rw [hf]
 exact ⟨by rw [hl]; exact h.lt,by rw [hf]; exact h.fr,by rw [hf]; exact h.frs,by rw [hfr,hf]; exact h.st⟩
def Ze (s:St) (i ai:Nat):St:=Xl s i ((Za s i).frames.length - 1) { frAt s i ((Za s i).frames.length - 1) with at_:=(ai:Int) + 1 }
theorem setAt_setFr {s:St} {i:Nat} (hn:s.now=i) (a:Int):setAt s a=Xl s i ((Za s i).frames.length - 1) { frAt s i ((Za s i).frames.length - 1) with at_:=a }:=by
 unfold setAt
 rw [hn,Jm]
theorem top_at {s:St} {i:Nat} (hn:s.now=i):s.top=frAt s i ((Za s i).frames.length - 1):=by
 unfold St.top St.fib
 rw [hn,Int.toNat_natCast,show s.fibers.getD i Fb.zero=Za s i from rfl,top_frAt]
theorem Qv {s:St} {i:Nat} (hn:s.now=i) (hr:Runs s i) (ai:Nat) :
  (Ze s i ai).now=i∧(Ze s i ai).fibers.length=s.fibers.length∧(Ze s i ai).out=s.out∧(∀ k,(Za (Ze s i ai) k).caller=(Za s k).caller)∧(∀ k,(Za (Ze s i ai) k).frames.length=(Za s k).frames.length) ∧
  frAt (Ze s i ai) i ((Za s i).frames.length - 1)={ frAt s i ((Za s i).frames.length - 1) with at_:=(ai:Int) + 1 }∧(∀ k,k≠i→Za (Ze s i ai) k=Za s k)∧Runs (Ze s i ai) i:=by
 have hj:(Za s i).frames.length - 1 < (Za s i).frames.length:=by have:=hr.fr; omega
 have h6:frAt (Ze s i ai) i ((Za s i).frames.length - 1)={ frAt s i ((Za s i).frames.length - 1) with at_:=(ai:Int) + 1 }:=Jb _ hr.lt hj
 have h5:∀ k,(Za (Ze s i ai) k).frames.length=(Za s k).frames.length:=fun k=>Jp _ hr.lt k
 have h2:(Ze s i ai).fibers.length=s.fibers.length:=Zv _ _ _
 refine ⟨hn,h2,rfl,fun k=>Kh _ hr.lt k,h5,h6,fun k hk=>setFr_other _ (fun e=>hk e.symm),⟨by rw [h2]; exact hr.lt,by rw [h5]; exact hr.fr,by rw [h5]; exact hr.frs,?_⟩⟩
 rw [h5,h6]
 exact hr.st
theorem next_other {s:St} {i:Nat} (ai k:Nat) (hk:k≠i) (h:Runs s k):Runs (Ze s i ai) k :=
 h.other (Zv _ _ _) (setFr_other _ (fun e=>hk e.symm))
theorem next_fr {s:St} {i:Nat} (hr:Runs s i) (ai t q:Nat):(frAt (Ze s i ai) t q).stack=(frAt s t q).stack∧(frAt (Ze s i ai) t q).locals=(frAt s t q).locals∧(frAt (Ze s i ai) t q).fn=(frAt s t q).fn:=by
 have hj:(Za s i).frames.length - 1 < (Za s i).frames.length:=by have:=hr.fr; omega
 unfold Ze
 by_cases e:i=t∧(Za s i).frames.length - 1=q
 ·obtain ⟨rfl,rfl⟩:=e
  rw [Jb _ hr.lt hj]
  exact ⟨rfl,rfl,rfl⟩
 ·rw [frAt_ne _ hr.lt e]
  exact ⟨rfl,rfl,rfl⟩
theorem doneS_at {p:List Fn} {s:St} {i fi ai:Nat} {kd a:Int} (hn:s.now=i) (hf:(frAt s i ((Za s i).frames.length - 1)).fn=fi) (ha:(frAt s i ((Za s i).frames.length - 1)).at_=ai) (hx:(Zu p fi).getD ai (0,0)=(kd,a)) :
  Zr p s=(if kd=0 then (Zp (Ze s i ai) i a,0)
   else if kd=1 then (Zc (Ze s i ai),0)
   else if kd=2 then (Zp (Ze s i ai) i ((Ze s i ai).top.locals.getD a.toNat 0),0)
   else if kd=3 then ((Zc (Ze s i ai)).turnTop i fun f=>{ f with locals:=f.locals.set a.toNat (Zh (Ze s i ai)) },0)
   else if kd=9 then (setAt (Ze s i ai) a,0)
   else if kd=10 then (if Zh (Ze s i ai)=0 then setAt (Zc (Ze s i ai)) a else Zc (Ze s i ai),0)
   else if kd=11 then calledS p (Ze s i ai) a
   else if kd=12 then givenS (Ze s i ai)
   else if kd=13 then madeS p (Ze s i ai) a
   else if kd=14 then Jo (Ze s i ai)
   else if kd=15 then Je (Ze s i ai)
   else if kd=16 then putS (Zc (Ze s i ai)) (Zh (Ze s i ai))
   else (Zp (Zc (Zc (Ze s i ai))) i (Qd kd (Zh (Zc (Ze s i ai))) (Zh (Ze s i ai))),0)):=by
 unfold Zr
 have ht:=top_at hn
 have hs:setAt s (s.top.at_ + 1)=Ze s i ai:=by rw [setAt_setFr hn,ht,ha]; rfl
 have hnow:(Ze s i ai).now=i:=hn
 simp only []
 rw [hs,ht,hf,ha,Int.toNat_natCast,Int.toNat_natCast,hx,hnow]
def needN (kd:Int):Nat:=if kd=0∨kd=2∨kd=9∨kd=11∨kd=13 then 0 else if kd=1∨kd=3∨kd=10∨kd=12∨kd=15∨kd=16 then 1 else 2
def opAt (p:List Fn) (f:Fr):Int × Int:=(Zu p f.fn.toNat).getD f.at_.toNat (0,0)
def needS (p:List Fn) (f:Fr):Prop :=
 needN (opAt p f).1≤f.stack.length ∧
 ((opAt p f).1=2∨(opAt p f).1=3→0≤(opAt p f).2∧(opAt p f).2.toNat < f.locals.length) ∧
 ((opAt p f).1=11→0≤(opAt p f).2∧(opAt p f).2.toNat < p.length∧0≤(p.getD (opAt p f).2.toNat Fn.zero).args∧(p.getD (opAt p f).2.toNat Fn.zero).args≤(p.getD (opAt p f).2.toNat Fn.zero).locals∧(p.getD (opAt p f).2.toNat Fn.zero).locals≤1000∧(p.getD (opAt p f).2.toNat Fn.zero).args.toNat≤f.stack.length) ∧
 ((opAt p f).1=13→0≤(opAt p f).2∧(opAt p f).2.toNat < p.length∧0≤(p.getD (opAt p f).2.toNat Fn.zero).locals∧(p.getD (opAt p f).2.toNat Fn.zero).locals≤1000)
def OkS (p:List Fn) (s:St):Prop :=
 (0≤s.now∧s.now.toNat < s.fibers.length∧s.fibers.length≤5∧s.out.length≤30) ∧
 (∀ b∈s.fibers,(b.frames.length≤6∧-1≤b.caller∧b.caller < s.fibers.length)∧∀ f∈b.frames,f.locals.length≤1000∧f.stack.length≤1000) ∧
 0 < (Za s s.now.toNat).frames.length ∧
 (0≤(Za s s.now.toNat).caller→(Za s s.now.toNat).caller≠s.now∧0 < (Za s (Za s s.now.toNat).caller.toNat).frames.length) ∧
 ((Xm s).isSome=true∧s.now∈(Xm s).getD []) ∧
 (∀ k,k < s.fibers.length→(k:Int) ∉ (Xm s).getD []→0 < (Za s k).frames.length→(frAt s k ((Za s k).frames.length - 1)).at_=0→0 < (frAt s k ((Za s k).frames.length - 1)).locals.length) ∧
 (0≤s.top.fn∧s.top.fn.toNat < p.length∧0≤s.top.at_∧s.top.at_.toNat < (Zu p s.top.fn.toNat).length∧(Zu p s.top.fn.toNat).length≤1000)∧needS p s.top
theorem top_mem {s:St} (i:Nat) (hi:i < s.fibers.length):Za s i∈s.fibers:=by
 have:Za s i=s.fibers[i]:=by simp [Za,List.getD,hi]
 rw [this]; exact List.getElem_mem hi
theorem fr_mem {s:St} (i j:Nat) (hj:j < (Za s i).frames.length):frAt s i j∈(Za s i).frames:=by
 have:frAt s i j=(Za s i).frames[j]:=by simp [frAt,List.getD,hj]
 rw [this]; exact List.getElem_mem hj
theorem put_err (s:St) (v:Int) (h:(putS s v).2≠0):(putS s v).1=St.zero:=by
 unfold putS at h ⊢
 split
 ·rfl
 ·rename_i hh; rw [if_neg hh] at h; exact absurd rfl h
theorem given_err (s:St) (h:(givenS s).2≠0):(givenS s).1=St.zero:=by
 unfold givenS at h ⊢
 simp only at h ⊢
 split
 ·rename_i h1
  rw [if_pos h1] at h
  split
  ·rename_i h2
   rw [if_pos h2] at h
   exact put_err _ _ h
  ·rename_i h2
   rw [if_neg h2] at h
   exact absurd rfl h
 ·rename_i h1
  rw [if_neg h1] at h
  exact absurd rfl h
theorem resumed_err (s:St) (h:(Jo s).2≠0):(Jo s).1=St.zero:=by
 unfold Jo at h ⊢
 simp only at h ⊢
 split
 ·rename_i h1
  rw [if_pos h1] at h
  split
  ·rfl
  ·rename_i h2
   rw [if_neg h2] at h
   split
   ·rename_i h3; rw [if_pos h3] at h; exact absurd rfl h
   ·rename_i h3; rw [if_neg h3] at h; exact absurd rfl h
 ·rfl
theorem called_err (p:List Fn) (s:St) (f:Int) (h:(calledS p s f).2≠0):(calledS p s f).1=St.zero:=by
 unfold calledS at h ⊢
 simp only at h ⊢
 split
 ·rfl
 ·rename_i hh; rw [if_neg hh] at h; exact absurd rfl h
theorem yielded_err (s:St) (h:(Je s).2≠0):(Je s).1=St.zero:=by
 unfold Je at h ⊢
 simp only at h ⊢
 split
 ·rfl
 ·rename_i hh; rw [if_neg hh] at h; exact absurd rfl h
theorem made_err (p:List Fn) (s:St) (f:Int) (h:(madeS p s f).2≠0):(madeS p s f).1=St.zero:=by
 unfold madeS at h ⊢
 split
 ·rfl
 ·rename_i hh; rw [if_neg hh] at h; exact absurd rfl h
theorem done_err {p:List Fn} {s:St} (h:(Zr p s).2≠0):(Zr p s).1=St.zero:=by
 unfold Zr at h ⊢
 simp only at h ⊢
 generalize (Zu p s.top.fn.toNat).getD s.top.at_.toNat (0,0)=x at h ⊢
 generalize setAt s (s.top.at_ + 1)=t at h ⊢
 by_cases k0:x.1=0
 ·rw [if_pos k0] at h; exact absurd rfl h
 rw [if_neg k0] at h ⊢
 by_cases k1:x.1=1
 ·rw [if_pos k1] at h; exact absurd rfl h
 rw [if_neg k1] at h ⊢
 by_cases k2:x.1=2
 ·rw [if_pos k2] at h; exact absurd rfl h
 rw [if_neg k2] at h ⊢
 by_cases k3:x.1=3
 ·rw [if_pos k3] at h; exact absurd rfl h
 rw [if_neg k3] at h ⊢
 by_cases k9:x.1=9
 ·rw [if_pos k9] at h; exact absurd rfl h
 rw [if_neg k9] at h ⊢
 by_cases k10:x.1=10
 ·rw [if_pos k10] at h; exact absurd rfl h
 rw [if_neg k10] at h ⊢
 by_cases k11:x.1=11
 ·rw [if_pos k11] at h ⊢; exact called_err _ _ _ h
 rw [if_neg k11] at h ⊢
 by_cases k12:x.1=12
 ·rw [if_pos k12] at h ⊢; exact given_err _ h
 rw [if_neg k12] at h ⊢
 by_cases k13:x.1=13
 ·rw [if_pos k13] at h ⊢; exact made_err _ _ _ h
 rw [if_neg k13] at h ⊢
 by_cases k14:x.1=14
 ·rw [if_pos k14] at h ⊢; exact resumed_err _ h
 rw [if_neg k14] at h ⊢
 by_cases k15:x.1=15
 ·rw [if_pos k15] at h ⊢; exact yielded_err _ h
 rw [if_neg k15] at h ⊢
 by_cases k16:x.1=16
 ·rw [if_pos k16] at h ⊢; exact put_err _ _ h
 rw [if_neg k16] at h
 exact absurd rfl h
def runOk (p:List Fn):Nat→St→Prop
 | 0,_=>True
 | k + 1,s=>s.now < 0∨(OkS p s∧Small (Zr p s).1∧((Zr p s).2=0→runOk p k (Zr p s).1))
theorem runS_stop (p:List Fn) (k:Nat) (s:St) (h:k=0∨s.now < 0):runS p k s=(s,0,0):=by
 cases k with
 | zero=>rfl
 | succ k =>
  rcases h with h | h
  ·cases h
  ·unfold runS; rw [if_pos h]
theorem runS_err (p:List Fn) (k:Nat) (s:St) (h:¬ s.now < 0) (he:(Zr p s).2≠0):runS p (k + 1) s=(s,0,(Zr p s).2):=by
 unfold runS
 have:oneS p s=Zr p s:=by unfold oneS; rw [if_neg h]
 rw [if_neg h,this,if_neg he]
theorem runS_go (p:List Fn) (k:Nat) (s:St) (h:¬ s.now < 0) (he:(Zr p s).2=0):runS p (k + 1) s=((runS p k (Zr p s).1).1,(runS p k (Zr p s).1).2.1 + 1,(runS p k (Zr p s).1).2.2):=by
 conv=>lhs; unfold runS
 have:oneS p s=Zr p s:=by unfold oneS; rw [if_neg h]
 rw [if_neg h,this,if_pos he]
theorem lineF_congr {fs fs':List Fb} (h:∀ n,Xf fs n=Xf fs' n):∀ (k:Nat) (n:Int) (acc:List Int),Xe fs k n acc=Xe fs' k n acc
 | 0,_,_=>rfl
 | k + 1,n,acc=>by
  unfold Xe
  rw [h n,lineF_congr h k]
def Xj (s:St) (i t:Nat):St:=Xl s i ((Za s i).frames.length - 1) { frAt s i ((Za s i).frames.length - 1) with stack:=(frAt s i ((Za s i).frames.length - 1)).stack.take ((frAt s i ((Za s i).frames.length - 1)).stack.length - t) }
theorem set_getD_self {α:Type} (l:List α) (i:Nat) (d:α) (h:i < l.length):l.set i (l.getD i d)=l:=by
 apply List.ext_getElem
 ·simp
 ·intro k h1 h2
  rw [List.getElem_set]
  split
  ·rename_i e; subst e; simp [List.getD,h]
  ·rfl
theorem takeTop_zero {s:St} {i:Nat} (hr:Runs s i):Xj s i 0=s:=by
 unfold Xj Xl Zf
 rw [Nat.sub_zero,List.take_length]
 have h1:(Za s i).frames.set ((Za s i).frames.length - 1) (frAt s i ((Za s i).frames.length - 1))=(Za s i).frames:=set_getD_self _ _ _ (by have:=hr.fr; omega)
 have h2:({ Za s i with frames:=(Za s i).frames.set ((Za s i).frames.length - 1) { frAt s i ((Za s i).frames.length - 1) with stack:=(frAt s i ((Za s i).frames.length - 1)).stack } }:Fb)=Za s i:=by
  show ({ Za s i with frames:=(Za s i).frames.set ((Za s i).frames.length - 1) (frAt s i ((Za s i).frames.length - 1)) }:Fb)=Za s i
  rw [h1]
 rw [h2]
 have h3:s.fibers.set i (Za s i)=s.fibers:=set_getD_self _ _ _ hr.lt
 rw [h3]
theorem takeTop_facts {s:St} {i:Nat} (hr:Runs s i) (t:Nat):(Xj s i t).fibers.length=s.fibers.length∧(Xj s i t).now=s.now∧(Xj s i t).out=s.out∧(Za (Xj s i t) i).frames.length=(Za s i).frames.length ∧
  (frAt (Xj s i t) i ((Za s i).frames.length - 1)).stack=(frAt s i ((Za s i).frames.length - 1)).stack.take ((frAt s i ((Za s i).frames.length - 1)).stack.length - t)∧Runs (Xj s i t) i:=by
 have hj:(Za s i).frames.length - 1 < (Za s i).frames.length:=by have:=hr.fr; omega
 have h5:(frAt (Xj s i t) i ((Za s i).frames.length - 1)).stack=(frAt s i ((Za s i).frames.length - 1)).stack.take ((frAt s i ((Za s i).frames.length - 1)).stack.length - t):=by
  unfold Xj; rw [Jb _ hr.lt hj]
 have h1:(Xj s i t).fibers.length=s.fibers.length:=Zv _ _ _
 have h4:(Za (Xj s i t) i).frames.length=(Za s i).frames.length:=Jp _ hr.lt i
 refine ⟨h1,rfl,rfl,h4,h5,⟨by rw [h1]; exact hr.lt,by rw [h4]; exact hr.fr,by rw [h4]; exact hr.frs,?_⟩⟩
 rw [h4,h5,List.length_take]
 have:=hr.st
 omega
theorem pull_take {s:St} {i:Nat} (hn:s.now=i) (hr:Runs s i) {t:Nat} (ht:t < (frAt s i ((Za s i).frames.length - 1)).stack.length) :
  Zc (Xj s i t)=Xj s i (t + 1)∧Zh (Xj s i t)=(frAt s i ((Za s i).frames.length - 1)).stack.getD ((frAt s i ((Za s i).frames.length - 1)).stack.length - t - 1) 0:=by
 obtain ⟨f1,f2,f3,f4,f5,f6⟩:=takeTop_facts hr t
 have hj:(Za s i).frames.length - 1 < (Za s i).frames.length:=by have:=hr.fr; omega
 have hn':(Xj s i t).now=i:=by rw [f2]; exact hn
 constructor
 ·rw [Qn hn',f4]
  have hfr:frAt (Xj s i t) i ((Za s i).frames.length - 1)={ frAt s i ((Za s i).frames.length - 1) with stack:=(frAt s i ((Za s i).frames.length - 1)).stack.take ((frAt s i ((Za s i).frames.length - 1)).stack.length - t) }:=by
   unfold Xj; rw [Jb _ hr.lt hj]
  rw [hfr]
  generalize hl:(frAt s i ((Za s i).frames.length - 1)).stack=l at *
  have hdl:(l.take (l.length - t)).dropLast=l.take (l.length - (t + 1)):=by
   rw [List.dropLast_eq_take,List.length_take,List.take_take]
   congr 1
   omega
  simp only [hdl]
  unfold Xj
  rw [hl]
  unfold Xl Zf
  simp only
  have hset:Za { s with fibers:=s.fibers.set i { Za s i with frames:=(Za s i).frames.set ((Za s i).frames.length - 1) { frAt s i ((Za s i).frames.length - 1) with stack:=l.take (l.length - t) } } } i={ Za s i with frames:=(Za s i).frames.set ((Za s i).frames.length - 1) { frAt s i ((Za s i).frames.length - 1) with stack:=l.take (l.length - t) } }:=Xi (s:=s) _ hr.lt
  rw [hset]
  simp only [List.set_set]
 ·unfold Zh St.top
  rw [hn',Qp,top_frAt,f4,f5,List.getLast?_eq_getElem?,List.length_take]
  generalize (frAt s i ((Za s i).frames.length - 1)).stack=l at *
  rw [Nat.min_eq_left (by omega),List.getElem?_take,if_pos (by omega)]
  rfl
theorem calledS_eq {p:List Fn} {s:St} {i f2 a2 lo2:Nat} (hn:s.now=i) (hr:Runs s i) (ha:(p.getD f2 Fn.zero).args=a2) (hl:(p.getD f2 Fn.zero).locals=lo2) :
  calledS p s f2=if (Za s i).frames.length=6 then (St.zero,(2:Int)) else (Zf (Xj s i a2) i { Za (Xj s i a2) i with frames:=(Za (Xj s i a2) i).frames++[⟨f2,0,(frAt s i ((Za s i).frames.length - 1)).stack.drop ((frAt s i ((Za s i).frames.length - 1)).stack.length - a2)++List.replicate (lo2 - ((frAt s i ((Za s i).frames.length - 1)).stack.drop ((frAt s i ((Za s i).frames.length - 1)).stack.length - a2)).length) 0,[]⟩] },0):=by
 have ht:=top_at hn
 have hs1:(s.turnTop s.now fun x=>{ x with stack:=x.stack.take (x.stack.length - a2) })=Xj s i a2:=by rw [hn,Jm]; rfl
 obtain ⟨f1,f2',f3,f4,f5,f6⟩:=takeTop_facts hr a2
 unfold calledS
 simp only [Int.toNat_natCast,ha]
 rw [hs1,hn,Qp,Qy,f4,ht]
 unfold Qg
 rw [Int.toNat_natCast,hl,Int.toNat_natCast]
open Go.RowKit
theorem OwnVar.kept {base bs:Nat} {w w':World} {V:Key→Value} {s:St} (h:OwnVar base w bs V s) (hk:Kept w w'):OwnVar base w' bs V s :=
 ⟨(hk.block bs (lt_of_block h.var)).trans h.var,h.own.same (fun k g hlk hg=>hk.block g ((h.own.piece k hlk).block g hg).2),h.off,h.low⟩
theorem OwnVar.below {base bs:Nat} {w w':World} {V:Key→Value} {s:St} (h:OwnVar base w bs V s) (hk:Kept w w'):Below base w w' :=
 Below.mono hk (by have:=h.low; have:=lt_of_block h.var; omega)
structure DoAt (base:Nat) (w:World) (s:St) (i bp op n fi ai cb co cl cc:Nat) (kd a:Int):Prop where
 now:s.now=i
 runs:Runs s i
 fn:(frAt s i ((Za s i).frames.length - 1)).fn=fi
 at_:(frAt s i ((Za s i).frames.length - 1)).at_=ai
 fin:fi < n
 ain:ai < cl
 most:cl≤1000
 cells:∀ u,Below base w u→u.cell? ⟨bp,op + fi * 3 + 2,none⟩=some (.slice (some ⟨cb,co,none⟩) cl cc)∧u.cell? ⟨cb,co + ai * 2,none⟩=some (.int .i64 kd)∧u.cell? ⟨cb,co + ai * 2 + 1,none⟩=some (.int .i64 a)
theorem wrap64_S (z:Int):wrap64 z=wrapS z:=by
 unfold wrap64 wrapS
 rw [Int.bmod_def]
 omega
def Alike (p q:List Fn):Prop:=q.length=p.length∧∀ k,(q.getD k Fn.zero).args=(p.getD k Fn.zero).args∧(q.getD k Fn.zero).locals=(p.getD k Fn.zero).locals
theorem Alike.eff {p q:List Fn} (h:Alike p q) (kd a:Int):effS q kd a=effS p kd a:=by
 unfold effS
 rw [h.1,(h.2 a.toNat).1]
theorem Alike.beh {p q:List Fn} (h:Alike p q) (x:Int × Int) (z:Int):beh q x z=beh p x z:=by
 unfold Proofs.YtblihfpigjiahaaGreatDoor.beh
 rw [h.eff]
def hgtL (p:List Fn) (k:Nat):List Int:=(Xn p (Zu p k)).getD []
theorem progS_heights {p:List Fn} (h:Zx p=0) {k:Nat} (hk:k < p.length):Xn p (Zu p k)=some (hgtL p k):=by
 unfold Zx at h
 split at h
 ·cases h
 ·split at h
  ·cases h
  ·split at h
   ·cases h
   ·split at h
    ·have:=firstS_zero h k (by omega) (by omega)
     unfold hgtE at this
     unfold hgtL
     split at this
     ·rename_i H hH; rw [hH]; rfl
     ·cases this
    ·rename_i h0; exact absurd h h0
end Go.Proofs.YtblihfpigjiahaaGreatDoor
