/- StateU, StateD0, Fib, OwnA -/
import Derived.Test.YtblihfpigjiahaaDoorWB11
import Derived.OneCell
import Derived.Laws.OwnMore
import Derived.Maps.AppendAt
set_option maxRecDepth 100000
set_option maxHeartbeats 8000000
namespace Go.Proofs.YtblihfpigjiahaaDoor
theorem Zpc {l S:List Int} (hn:l.Nodup) (hs:∀ x,x∈l→x∈S):l.length≤S.length:=by
 induction l generalizing S with
 | nil=>simp
 | cons x r ih =>
  rw [List.nodup_cons] at hn
  have hx:=hs x (List.mem_cons_self)
  have:=ih (S:=S.erase x) hn.2 (fun y hy=>(List.mem_erase_of_ne (by rintro rfl;exact hn.1 hy)).2 (hs y (List.mem_cons_of_mem _ hy)))
  rw [List.length_erase_of_mem hx] at this
  have hp:=List.length_pos_of_mem hx
  simp
  omega
theorem few {l:List Int} {n:Nat} (hn:l.Nodup) (hs:∀ x,x∈l→0≤x∧x<n):l.length≤n:=by
 have:=Zpc (S:=(List.range n).map fun (k:Nat)=>(k:Int)) hn (fun x hx=>by
  have:=hs x hx
  exact List.mem_map.2 ⟨x.toNat,by simp;omega,by omega⟩)
 simpa using this
theorem Zea (p:List Fn):∀ l:List Fr,Ua p l=true↔(l.all (Xb p)=true∧Qz p l=true)
 | []=>by simp [Ua,Qz]
 | [x]=>by simp [Ua,Qz]
 | x :: y :: r=>by
  have ih:=Zea p (y :: r)
  have hw:Xb p x=true→(Jk p x 11 y.fn=true↔Qp p x (11,y.fn)=true):=by
   intro hx
   simp only [Xb,Bool.and_eq_true,Jq,decide_eq_true_eq] at hx
   simp only [Jk,Qp,Bool.and_eq_true,Bool.or_eq_true,Bool.not_eq_true',decide_eq_true_eq,decide_eq_false_iff_not,Prod.ext_iff]
   have:(¬ x.at_=0)↔0<x.at_:=by omega
   rw [this]
   simp
  simp only [Ua,Qz,Bool.and_eq_true,ih,List.all_cons]
  constructor
  ·rintro ⟨⟨h1,_,h3⟩,h4,h5⟩
   exact ⟨⟨h1,by simpa using h4⟩,(hw h1).1 h3,h5⟩
  ·rintro ⟨⟨h1,h2⟩,h3,h4⟩
   refine ⟨⟨h1,?_,(hw h1).2 h3⟩,by simpa using h2,h4⟩
   have:=h2.1
   simp only [Xb,Bool.and_eq_true] at this
   exact this.1
def Zav (n:Nat) (B:List Bool) (l:List Int):Prop:=B.length=n∧∀ i:Nat,i<n→B.getD i false=decide ((i:Int)∈l)
theorem Zav.set {n:Nat} {B:List Bool} {l:List Int} (h:Zav n B l) {z:Int} (h0:0≤z) (_hz:z<n):Zav n (B.set z.toNat true) (l++[z]):=by
 refine ⟨by simp [h.1],fun i hi=>?_⟩
 have:=h.2 i hi
 by_cases e:z.toNat=i
 ·subst e
  simp [List.getD,h.1,hi]
  right;omega
 ·have hne:¬ ((i:Int)=z):=by omega
  simp [List.getD,e,hne] at this ⊢
  rw [this]
theorem Zkj (fs:List Fb):∀ (k:Nat) (n:Int) (acc acc':List Int),0≤n→Xz fs k n acc=some acc'→∃ z,acc'.getLast?=some z∧z ∉ acc
 | 0,_,_,_,_,h=>by cases h
 | k+1,n,acc,acc',h0,h=>by
  unfold Xz at h
  rw [if_neg (by omega)] at h
  split at h
  ·cases h
  ·rename_i hna
   by_cases hc:Xt fs n<0
   ·cases k with
    | zero=>cases h
    | succ k =>
     unfold Xz at h
     rw [if_pos hc] at h
     cases h
     exact ⟨n,by simp,hna⟩
   ·obtain ⟨z,h1,h2⟩:=Zkj fs k _ _ _ (by omega) h
    exact ⟨z,h1,fun hm=>h2 (List.mem_append_left _ hm)⟩
theorem Zme {fs:List Fb} (hc:∀ b,b∈fs→-1≤b.caller∧b.caller<fs.length):∀ (k:Nat) (n:Int) (acc:List Int) (B B':List Bool),-1≤n→n<fs.length→Zav fs.length B acc→Yh fs k n B=some B' →
  ∃ acc',Xz fs k n acc=some acc'∧Zav fs.length B' acc'∧(n=-1→acc'=acc)∧(n≠-1→acc'.getLast?=some 0)
 | 0,_,_,_,_,_,_,_,h=>by cases h
 | k+1,n,acc,B,B',h0,hn,hm,h=>by
  unfold Yh at h
  unfold Xz
  by_cases hz:n=-1
  ·rw [if_pos hz] at h
   cases h
   rw [if_pos (by omega)]
   exact ⟨acc,rfl,hm,fun _=>rfl,fun h=>absurd hz h⟩
  ·rw [if_neg hz] at h
   split at h
   ·cases h
   ·rename_i hno
    rw [not_or] at hno
    obtain ⟨hb,hq⟩:=hno
    have hq:decide (Xt fs n=-1)=decide (n=0):=by
     rcases Decidable.em (decide (Xt fs n=-1)=decide (n=0)) with h | h
     ·exact h
     ·exact absurd h hq
    have hna:n ∉ acc:=by
     have:=hm.2 n.toNat (by omega)
     rw [show ((n.toNat:Nat):Int)=n by omega] at this
     intro hin
     rw [this,decide_eq_true hin] at hb
     exact hb rfl
    rw [if_neg (by omega),if_neg hna]
    have hcr:-1≤Xt fs n∧Xt fs n<fs.length:=by
     have hx:=Zq fs n.toNat Fb.zero (by omega)
     exact hc _ (List.mem_of_getElem? hx)
    obtain ⟨acc',h1,h2,h3,h4⟩:=Zme hc k _ _ _ _ hcr.1 hcr.2 (hm.set (by omega) hn) h
    refine ⟨acc',h1,h2,fun h=>absurd h hz,fun _=>?_⟩
    by_cases hcz:Xt fs n=-1
    ·rw [h3 hcz]
     simp only [hcz,decide_true] at hq
     have:n=0:=by simpa using hq.symm
     simp [this]
    ·exact h4 hcz
theorem Znv {fs:List Fb} (hc:∀ b,b∈fs→-1≤b.caller∧b.caller<fs.length):∀ (k:Nat) (n:Int) (acc acc':List Int) (B:List Bool),-1≤n→n<fs.length→Zav fs.length B acc→Xz fs k n acc=some acc'→(n≠-1→acc'.getLast?=some 0) →
  ∃ B',Yh fs k n B=some B'∧Zav fs.length B' acc'
 | 0,_,_,_,_,_,_,_,h,_=>by cases h
 | k+1,n,acc,acc',B,h0,hn,hm,h,hl=>by
  unfold Xz at h
  unfold Yh
  by_cases hz:n=-1
  ·rw [if_pos (by omega)] at h
   cases h
   exact ⟨B,by rw [if_pos hz],hm⟩
  ·rw [if_neg (by omega)] at h
   split at h
   ·cases h
   ·rename_i hna
    have hcr:-1≤Xt fs n∧Xt fs n<fs.length:=by
     have hx:=Zq fs n.toNat Fb.zero (by omega)
     exact hc _ (List.mem_of_getElem? hx)
    have hb:B.getD n.toNat false=false:=by
     have:=hm.2 n.toNat (by omega)
     rw [show ((n.toNat:Nat):Int)=n by omega] at this
     rw [this,decide_eq_false hna]
    have hl0:=hl hz
    have hq:decide (Xt fs n=-1)=decide (n=0):=by
     rw [decide_eq_decide]
     by_cases hcz:Xt fs n=-1
     ·cases k with
      | zero=>cases h
      | succ k =>
       unfold Xz at h
       rw [if_pos (by omega)] at h
       cases h
       simp at hl0
       subst hl0
       simp [hcz]
     ·obtain ⟨z,h1,h2⟩:=Zkj fs k _ _ _ (by omega) h
      rw [hl0] at h1
      cases h1
      simp only [List.mem_append,List.mem_singleton,not_or] at h2
      constructor
      ·intro h;exact absurd h hcz
      ·intro h;exact absurd h.symm h2.2
    obtain ⟨B',h1,h2⟩:=Znv hc k _ _ _ _ hcr.1 hcr.2 (hm.set (by omega) hn) h (fun _=>hl0)
    refine ⟨B',?_,h2⟩
    rw [if_neg hz,if_neg]
    ·exact h1
    ·rw [hb,hq];simp
theorem Zia (fs:List Fb):∀ (k:Nat) (n:Int) (acc acc':List Int),Xz fs k n acc=some acc'→(∀ z,z∈acc→z∈acc')∧(0≤n→n∈acc')∧(n<0→acc'=acc)
 | 0,_,_,_,h=>by cases h
 | k+1,n,acc,acc',h=>by
  unfold Xz at h
  split at h
  ·cases h;exact ⟨fun _ h=>h,fun _=>by omega,fun _=>rfl⟩
  ·split at h
   ·cases h
   ·have ih:=Zia fs k _ _ _ h
    exact ⟨fun z hz=>ih.1 z (List.mem_append_left _ hz),fun _=>ih.1 n (by simp),fun _=>by omega⟩
theorem Zbj {s:St} (h:Qt s=0):s.fibers.length≤5∧s.out.length≤30∧(∀ b,b∈s.fibers→b.frames.length≤6)∧0<s.fibers.length∧(-1≤s.now∧s.now<s.fibers.length)∧∀ b,b∈s.fibers→-1≤b.caller∧b.caller<s.fibers.length:=by
 unfold Qt at h
 split at h
 ·rename_i h1
  split at h
  ·rename_i h2
   split at h
   ·rename_i h3
    split at h
    ·rename_i h4
     split at h
     ·rename_i h5
      rw [Zbb] at h4
      simp only [List.all_eq_true,Zbb,decide_eq_true_eq] at h2 h5
      exact ⟨h1.1,h1.2,h2,h3,⟨h4.1,by omega⟩,fun b hb=>⟨(h5 b hb).1,by have:=(h5 b hb).2;omega⟩⟩
     ·cases h
    ·cases h
   ·cases h
  ·cases h
 ·cases h
def Bare (p:List Fn):Prop:=∀ (k i:Nat) (x:Int × Int),(Zx p k)[i]?=some x→x.1=14∨x.1=15→x.2=0
theorem Zcg {p:List Fn} (hb:Bare p) {x:Fr} (hx:Xb p x=true) {kd:Int} (hk:kd=14∨kd=15):Jk p x kd 0=Qp p x (kd,0):=by
 rw [Bool.eq_iff_iff]
 simp only [Xb,Bool.and_eq_true,Jq,decide_eq_true_eq] at hx
 simp only [Jk,Qp,Bool.and_eq_true,Bool.or_eq_true,Bool.not_eq_true',decide_eq_true_eq,decide_eq_false_iff_not,Prod.ext_iff]
 have h1:(¬ x.at_=0)↔0<x.at_:=by omega
 have h2:¬ kd=11:=by omega
 rw [h1]
 constructor
 ·rintro ⟨h3,h4,_⟩
  refine ⟨h3,h4,?_⟩
  have hlt:x.at_.toNat - 1<(Zx p x.fn.toNat).length:=by omega
  have:=hb x.fn.toNat (x.at_.toNat - 1) (Pu p x) (by unfold Pu;rw [Zq _ _ (0,0) hlt]) (by rw [h4];exact hk)
  exact this
 ·rintro ⟨h3,h4,_⟩
  exact ⟨h3,h4,.inl h2⟩
theorem Zad {α:Type} {l:List α} {P:α→Bool} {d:α} (h:l.all P=true) {k:Nat} (hk:k<l.length):P (l.getD k d)=true:=by
 rw [List.all_eq_true] at h
 exact h _ (List.mem_of_getElem? (Zq l k d hk))
theorem Uc {n:Nat} {P:Nat→Bool}:(List.range n).all P=true↔∀ k,k<n→P k=true:=by
 simp [List.all_eq_true]
theorem Zub {p:List Fn} {b:Fb} (h:Jy p b=true):Qz p b.frames=true∧∃ x,b.frames=[x]:=by
 unfold Jy at h
 split at h
 ·rename_i x e;rw [e];exact ⟨rfl,x,rfl⟩
 ·cases h
theorem Znq {p:List Fn} (hb:Bare p) {s:St} {k:Nat} {on:Bool} (hrun:(k:Int)=s.now→on=true) :
  (Jd p (s.fibers.getD k Fb.zero) on (decide ((k:Int)=s.now))=true∧¬ (k=0∧on=false∧(s.fibers.getD 0 Fb.zero).frames.isEmpty=false)) ↔
  ((s.fibers.getD k Fb.zero).frames.all (Xb p)=true∧(on || decide ((s.fibers.getD k Fb.zero).caller=-1))=true∧Wk p s k on=true):=by
 have h0:k=0→s.fibers.getD 0 Fb.zero=s.fibers.getD k Fb.zero:=by rintro rfl;rfl
 by_cases hk0:k=0
 ·rw [h0 hk0]
  generalize hbe:s.fibers.getD k Fb.zero=b at *
  unfold Jd Wk
  rw [hbe]
  cases hl:b.frames.getLast? with
  | none =>
   have:b.frames=[]:=by simpa using hl
   simp only [this,List.all_nil,List.isEmpty_nil]
   cases on <;> simp
  | some t =>
   have hne:b.frames.isEmpty=false:=by
    cases hf:b.frames with
    | nil=>rw [hf] at hl;cases hl
    | cons _ _=>rfl
   have ht:t∈b.frames:=by
    rw [List.getLast?_eq_some_iff] at hl
    obtain ⟨ys,hy⟩:=hl
    rw [hy];simp
   cases on with
   | false=>simp [hk0,hne]
   | true =>
    simp only [Bool.and_eq_true,Zea]
    by_cases hr:(k:Int)=s.now
    ·simp only [hr,decide_true,if_true]
     simp [and_assoc]
    ·simp only [hr,decide_false,if_false]
     simp
     constructor
     ·rintro ⟨⟨h1,h2⟩,h3⟩
      have:=Zcg hb (h1 t ht) (.inl rfl)
      exact ⟨h1,h2,by rw [← this];exact h3⟩
     ·rintro ⟨h1,h2,h3⟩
      have:=Zcg hb (h1 t ht) (.inl rfl)
      exact ⟨⟨h1,h2⟩,by rw [this];exact h3⟩
 ·generalize hbe:s.fibers.getD k Fb.zero=b at *
  unfold Jd Wk
  rw [hbe]
  cases hl:b.frames.getLast? with
  | none =>
   have:b.frames=[]:=by simpa using hl
   simp only [this,List.all_nil]
   cases on <;> simp [hk0]
  | some t =>
   have ht:t∈b.frames:=by
    rw [List.getLast?_eq_some_iff] at hl
    obtain ⟨ys,hy⟩:=hl
    rw [hy];simp
   simp only [Bool.and_eq_true,Zea]
   cases on with
   | true =>
    by_cases hr:(k:Int)=s.now
    ·simp only [hr,decide_true,if_true]
     simp [hk0,and_assoc]
    ·simp only [hr,decide_false,if_false]
     simp [hk0]
     constructor
     ·rintro ⟨⟨h1,h2⟩,h3⟩
      have:=Zcg hb (h1 t ht) (.inl rfl)
      exact ⟨h1,h2,by rw [← this];exact h3⟩
     ·rintro ⟨h1,h2,h3⟩
      have:=Zcg hb (h1 t ht) (.inl rfl)
      exact ⟨⟨h1,h2⟩,by rw [this];exact h3⟩
   | false =>
    have hr:¬ (k:Int)=s.now:=fun h=>by have:=hrun h;cases this
    simp only [hr,decide_false,if_false]
    simp [hk0]
    constructor
    ·rintro ⟨⟨h1,h2⟩,h3,h4⟩
     have:=Zcg hb (h1 t ht) (.inr rfl)
     refine ⟨h1,h3,?_⟩
     rcases h4 with h4 | h4
     ·exact .inl h4
     ·exact .inr ⟨h2,by rw [← this];exact h4⟩
    ·rintro ⟨h1,h3,h4⟩
     have:=Zcg hb (h1 t ht) (.inr rfl)
     rcases h4 with h4 | h4
     ·exact ⟨⟨h1,(Zub h4).1⟩,h3,.inl h4⟩
     ·exact ⟨⟨h1,h4.1⟩,h3,.inr (by rw [this];exact h4.2)⟩
theorem Zsg {p:List Fn} (hb:Bare p) {s:St} (hlim:Qt s=0):Pt p s=Yo p s:=by
 obtain ⟨hf5,ho,hfr,hpos,hnow,hcal⟩:=Zbj hlim
 have hm0:Zav s.fibers.length (List.replicate s.fibers.length false) []:=⟨by simp,fun i hi=>by simp [List.getD,hi]⟩
 rw [Bool.eq_iff_iff]
 constructor
 ·intro h
  simp only [Pt,Bool.and_eq_true] at h
  obtain ⟨hall,h⟩:=h
  unfold Ug at h
  cases hj:Yh s.fibers (s.fibers.length+1) s.now (List.replicate s.fibers.length false) with
  | none=>rw [hj] at h;cases h
  | some B =>
   rw [hj] at h
   simp only at h
   by_cases hcl:((List.range s.fibers.length).all fun k=>B.getD k false || decide ((s.fibers.getD k Fb.zero).caller=-1))=true
   ·rw [if_pos hcl] at h
    simp only at h
    obtain ⟨l,h1,h2,h3,h4⟩:=Zme hcal _ _ _ _ _ hnow.1 hnow.2 hm0 hj
    have hmem:=Zia _ _ _ _ _ h1
    have hls:Qj s=some l:=by
     unfold Qj
     rw [h1]
     simp only
     rw [if_pos]
     by_cases hz:s.now=-1
     ·exact .inl (h3 hz)
     ·exact .inr (h4 hz)
    have hk:∀ k,k<s.fibers.length→(Jd p (s.fibers.getD k Fb.zero) (decide ((k:Int)∈l)) (decide ((k:Int)=s.now))=true∧¬ (k=0∧decide ((k:Int)∈l)=false∧(s.fibers.getD 0 Fb.zero).frames.isEmpty=false)):=by
     intro k hk
     rw [Uc] at h hcl
     have e:=h2.2 k hk
     have:=h k hk
     have hc:=hcl k hk
     rw [e] at this hc
     exact (Znq hb (fun hn=>decide_eq_true (by rw [hn];exact hmem.2.1 (by omega)))).2 ⟨Zad hall hk,hc,this⟩
    unfold Yo
    rw [hls]
    simp only [Bool.and_eq_true]
    refine ⟨?_,Uc.2 fun k hk'=>?_⟩
    ·have:=(hk 0 hpos).2
     by_cases hz:s.now=-1
     ·have:l=[]:=h3 hz
      subst this
      simp at this ⊢
      exact .inr this
     ·simp [hz]
    ·obtain ⟨h5,h6⟩:=hk k hk'
     rw [Bool.and_eq_true]
     refine ⟨h5,?_⟩
     by_cases hk0:k=0
     ·subst hk0
      simp at h6 ⊢
      by_cases h7:(0:Int)∈l
      ·exact .inl h7
      ·exact .inr (h6 h7)
     ·simp [hk0]
   ·rw [if_neg hcl] at h;cases h
 ·intro h
  unfold Yo at h
  cases hls:Qj s with
  | none=>rw [hls] at h;cases h
  | some l =>
   rw [hls] at h
   simp only [Bool.and_eq_true] at h
   obtain ⟨_,h⟩:=h
   unfold Qj at hls
   cases hl:Xz s.fibers (s.fibers.length+1) s.now [] with
   | none=>rw [hl] at hls;cases hls
   | some l' =>
    rw [hl] at hls
    simp only at hls
    split at hls
    ·rename_i hlast
     cases hls
     have hmem:=Zia _ _ _ _ _ hl
     obtain ⟨B,h1,h2⟩:=Znv hcal _ _ _ _ _ hnow.1 hnow.2 hm0 hl (fun hz=>by
      rcases hlast with rfl | h
      ·have:=hmem.2.1 (by omega);simp at this
      ·exact h)
     have hk:∀ k,k<s.fibers.length→((s.fibers.getD k Fb.zero).frames.all (Xb p)=true∧(decide ((k:Int)∈l) || decide ((s.fibers.getD k Fb.zero).caller=-1))=true∧Wk p s k (decide ((k:Int)∈l))=true):=by
      intro k hk
      have:=Uc.1 h k hk
      rw [Bool.and_eq_true] at this
      refine (Znq hb (fun hn=>decide_eq_true (by rw [hn];exact hmem.2.1 (by omega)))).1 ⟨this.1,?_⟩
      rintro ⟨rfl,h5,h6⟩
      have h7:=this.2
      have h8:(0:Int) ∉ l:=by simpa using h5
      rw [h6] at h7
      simp [h8] at h7
     unfold Pt
     rw [Bool.and_eq_true]
     refine ⟨?_,?_⟩
     ·rw [List.all_eq_true]
      intro b hbm
      obtain ⟨i,hi,rfl⟩:=List.getElem_of_mem hbm
      have:=(hk i hi).1
      simpa [List.getD,hi] using this
     ·unfold Ug
      rw [h1]
      simp only
      rw [if_pos]
      ·simp only
       exact Uc.2 fun k hk'=>by rw [h2.2 k hk'];exact (hk k hk').2.2
      ·exact Uc.2 fun k hk'=>by rw [h2.2 k hk'];exact (hk k hk').2.1
    ·cases hls
theorem Zse {p:List Fn} (hb:Bare p) (s:St):Uq p s=if Qt s=0 then (if Yo p s=true then 0 else 1) else Qt s:=by
 unfold Uq
 by_cases h:Qt s=0
 ·rw [if_pos h,if_pos h,Zsg hb h]
 ·rw [if_neg h,if_neg h]
open Go.RowKit
def FrV (w:World) (v:Value) (x:Fr):Prop:=∃ vl vs,v=.agg #[.int .i64 x.fn,.int .i64 x.at_,vl,vs]∧Xn w vl x.locals∧Xn w vs x.stack
def FbV (w:World) (v:Value) (b:Fb):Prop:=∃ vf,v=.agg #[vf,.int .i64 b.caller]∧Ys w vf b.frames
theorem FrV.kept {w w':World} (h:Zb w w') {v:Value} {x:Fr} (hx:FrV w v x):FrV w' v x:=by
 obtain ⟨vl,vs,e,h1,h2⟩:=hx;exact ⟨vl,vs,e,h1.kept h,h2.kept h⟩
theorem FbV.kept {w w':World} (h:Zb w w') {v:Value} {x:Fb} (hx:FbV w v x):FbV w' v x:=by
 obtain ⟨vl,e,h1⟩:=hx;exact ⟨vl,e,h1.kept h⟩
def Um (p:List Fn):Prop:=∀ k,k<p.length→(hgt p k).length=(Zx p k).length
theorem Zng {p:List Fn} {x:Fr} {i:Nat} (hf:x.fn=i) (hi:i<p.length):Xb p x=(decide ((x.locals.length:Int)=(p.getD i Fn.zero).locals) && (ixB x.at_ (Zx p i).length && decide (0≤(hgt p i).getD x.at_.toNat 0))):=by
 unfold Xb hAt
 rw [hf,Jr (by omega) (by omega),Bool.true_and,Int.toNat_natCast]
structure Yg (p:List Fn) (x:Fr):Prop where
 fn0:0≤x.fn
 fn1:x.fn<p.length
 at0:0≤x.at_
 at1:x.at_<(Zx p x.fn.toNat).length
theorem Yg.of {p:List Fn} {x:Fr} (h:Xb p x=true):Yg p x:=by
 simp only [Xb,Bool.and_eq_true,Jq,decide_eq_true_eq] at h
 exact ⟨h.1.1,h.1.2,h.2.2.1.1,h.2.2.1.2⟩
theorem Wa (a:Int) (h1:-17592186044416≤a) (h2:a≤17592186044416):IntKind.i64.wrap a=a:=by
 rw [IntKind.wrap_i64]
 omega
def Zco (p:List Fn):Prop:=∀ k a,k<p.length→-1000≤(hgt p k).getD a 0∧(hgt p k).getD a 0≤1000
def Zc (s:St) (i:Nat):Fb:=s.fibers.getD i Fb.zero
def Ze (s:St) (i j:Nat):Fr:=(Zc s i).frames.getD j Fr.zero
theorem Zln {α:Type} (l:List α) (i:Nat) (x d:α) (h:i<l.length):(l.set i x).getD i d=x:=by simp [List.getD,h]
theorem Zle {α:Type} (l:List α) (i j:Nat) (x d:α) (h:i≠j):(l.set i x).getD j d=l.getD j d:=by simp [List.getD,h]
def Zh (s:St) (i:Nat) (b:Fb):St:={ s with fibers:=s.fibers.set i b }
theorem Qg {s:St} {i:Nat} (b:Fb) (h:i<s.fibers.length):Zc (Zh s i b) i=b:=Zln _ _ _ _ h
theorem Jb {s:St} {i j:Nat} (b:Fb) (h:i≠j):Zc (Zh s i b) j=Zc s j:=Zle _ _ _ _ _ h
theorem Xf (s:St) (i:Nat) (b:Fb):(Zh s i b).fibers.length=s.fibers.length:=by simp [Zh]
def Qu (s:St) (i j:Nat) (f:Fr):St:=Zh s i { Zc s i with frames:=(Zc s i).frames.set j f }
theorem Uh {s:St} {i j:Nat} (f:Fr) (hi:i<s.fibers.length) (hj:j<(Zc s i).frames.length):Ze (Qu s i j f) i j=f:=by
 unfold Ze Qu;rw [Qg _ hi];exact Zln _ _ _ _ hj
theorem Pm {s:St} {i j i' j':Nat} (f:Fr) (hi:i<s.fibers.length) (h:¬ (i=i'∧j=j')):Ze (Qu s i j f) i' j'=Ze s i' j':=by
 unfold Ze Qu
 by_cases e:i=i'
 ·subst e
  rw [Qg _ hi]
  exact Zle _ _ _ _ _ (fun e=>h ⟨rfl,e⟩)
 ·rw [Jb _ e]
theorem Pc {s:St} {i j:Nat} (f:Fr) (hi:i<s.fibers.length) (t:Nat):(Zc (Qu s i j f) t).frames.length=(Zc s t).frames.length:=by
 unfold Qu
 by_cases e:i=t
 ·subst e;rw [Qg _ hi];simp
 ·rw [Jb _ e]
theorem Zbe {s:St} {i j:Nat} (f:Fr) (hi:i<s.fibers.length) (t:Nat):(Zc (Qu s i j f) t).caller=(Zc s t).caller:=by
 unfold Qu
 by_cases e:i=t
 ·subst e;rw [Qg _ hi]
 ·rw [Jb _ e]
def Yi (s:St):Prop:=s.fibers.length≤1000∧s.out.length≤1000∧∀ b,b∈s.fibers→b.frames.length≤1000∧∀ f,f∈b.frames→f.locals.length≤1000∧f.stack.length≤1000
def ints (l:List Int):List Value:=l.map fun z=>Value.int .i64 z
theorem Zcw (l:List Int):(ints l).length=l.length:=by simp [ints]
theorem Zdm (l r:List Int):ints (l++r)=ints l++ints r:=by simp [ints]
abbrev Key:=Option (Option (Nat ⊕ (Nat × Nat) ⊕ (Nat × Nat)))
abbrev Key.fibers:Key:=none
abbrev Key.out:Key:=some none
abbrev Key.frames (i:Nat):Key:=some (some (.inl i))
abbrev Key.locals (i j:Nat):Key:=some (some (.inr (.inl (i,j))))
abbrev Key.stack (i j:Nat):Key:=some (some (.inr (.inr (i,j))))
theorem Key.by {motive:Key→Prop} (fibers:motive .fibers) (out:motive .out) (frames:∀ i,motive (.frames i)) (locals:∀ i j,motive (.locals i j)) (stack:∀ i j,motive (.stack i j)):∀ k,motive k
 | none=>fibers
 | some none=>out
 | some (some (.inl i))=>frames i
 | some (some (.inr (.inl (i,j))))=>locals i j
 | some (some (.inr (.inr (i,j))))=>stack i j
def live (s:St):Key→Prop
 | none=>True
 | some none=>True
 | some (some (.inl i))=>i<s.fibers.length
 | some (some (.inr (.inl (i,j))))=>i<s.fibers.length∧j<(Zc s i).frames.length
 | some (some (.inr (.inr (i,j))))=>i<s.fibers.length∧j<(Zc s i).frames.length
def upd (V:Key→Value) (k:Key) (v:Value):Key→Value:=fun k'=>if k'=k then v else V k'
theorem Qk (V:Key→Value) (k:Key) (v:Value):upd V k v k=v:=if_pos rfl
theorem Zp (V:Key→Value) {k k':Key} (v:Value) (h:k'≠k):upd V k v k'=V k':=if_neg h
def Xs (base:Nat) (w:World) (V:Key→Value) (s:St):Key→Prop
 | none=>∃ xs,w.ownsRow base 46 2 (V .fibers) s.fibers.length xs∧∀ i,i<s.fibers.length→xs[i*2]?=some (V (.frames i))∧xs[i*2+1]?=some (.int .i64 (Zc s i).caller)
 | some none=>w.ownsRow base 3 1 (V .out) s.out.length (ints s.out)
 | some (some (.inl i))=>∃ xs,w.ownsRow base 53 4 (V (.frames i)) (Zc s i).frames.length xs∧∀ j,j<(Zc s i).frames.length →
   xs[j*4]?=some (.int .i64 (Ze s i j).fn)∧xs[j*4+1]?=some (.int .i64 (Ze s i j).at_)∧xs[j*4+2]?=some (V (.locals i j))∧xs[j*4+3]?=some (V (.stack i j))
 | some (some (.inr (.inl (i,j))))=>w.ownsRow base 3 1 (V (.locals i j)) (Ze s i j).locals.length (ints (Ze s i j).locals)
 | some (some (.inr (.inr (i,j))))=>w.ownsRow base 3 1 (V (.stack i j)) (Ze s i j).stack.length (ints (Ze s i j).stack)
structure Own (base:Nat) (w:World) (V:Key→Value) (s:St):Prop where
 piece:∀ k,live s k→Xs base w V s k
 apart:∀ k k' g,live s k→live s k'→(V k).ownBlock=some g→(V k').ownBlock=some g→k=k'
theorem Jl {w w':World} {base:Nat} {e:TypeId} {size:Nat} {v:Value} {n:Nat} {xs:List Value} (h:w.ownsRow base e size v n xs) (hs:∀ g,v.ownBlock=some g→w'.heap[g]?=w.heap[g]?):w'.ownsRow base e size v n xs:=by
 refine ⟨h.1,?_⟩
 rcases h.2 with hn | ⟨g,cap,cur,rfl,hb,hgg,rest⟩
 ·exact .inl hn
 ·exact .inr ⟨g,cap,cur,rfl,hb,by rw [hs g rfl];exact hgg,rest⟩
theorem Xs.same {base:Nat} {w w':World} {V:Key→Value} {s:St} {k:Key} (h:Xs base w V s k) (hs:∀ g,(V k).ownBlock=some g→w'.heap[g]?=w.heap[g]?):Xs base w' V s k:=by
 cases k using Key.by with
 | fibers=>obtain ⟨xs,h1,h2⟩:=h;exact ⟨xs,Jl h1 hs,h2⟩
 | out=>exact Jl h hs
 | frames i=>obtain ⟨xs,h1,h2⟩:=h;exact ⟨xs,Jl h1 hs,h2⟩
 | locals i j=>exact Jl h hs
 | stack i j=>exact Jl h hs
theorem Xs.block {base:Nat} {w:World} {V:Key→Value} {s:St} {k:Key} (h:Xs base w V s k):∀ g,(V k).ownBlock=some g→base≤g∧g<w.heap.size:=by
 cases k using Key.by with
 | fibers=>obtain ⟨xs,h1,h2⟩:=h;exact h1.lt
 | out=>exact World.ownsRow.lt h
 | frames i=>obtain ⟨xs,h1,h2⟩:=h;exact h1.lt
 | locals i j=>exact World.ownsRow.lt h
 | stack i j=>exact World.ownsRow.lt h
def Own.off (V:Key→Value) (s:St) (g:Nat):Prop:=∀ k,live s k→(V k).ownBlock≠some g
theorem Own.same {base:Nat} {w w':World} {V:Key→Value} {s:St} (h:Own base w V s) (hs:∀ k g,live s k→(V k).ownBlock=some g→w'.heap[g]?=w.heap[g]?):Own base w' V s :=
 ⟨fun k hk=>(h.piece k hk).same (fun g hg=>hs k g hk hg),h.apart⟩
theorem Own.new_off {base:Nat} {w:World} {V:Key→Value} {s:St} (h:Own base w V s) {g:Nat} (hg:w.heap.size≤g∨g<base):Own.off V s g:=fun k hk e=>by
 have:=(h.piece k hk).block g e
 omega
theorem Own.alloc {base:Nat} {w:World} {V:Key→Value} {s:St} (h:Own base w V s) (o:Obj):Own base (w.alloc o) V s :=
 h.same fun k g hk hg=>Below.heap_alloc w o g ((h.piece k hk).block g hg).2
theorem Own.drew {base:Nat} {w:World} {V:Key→Value} {s:St} (h:Own base w V s):Own base w.drew V s:=h.same fun _ _ _ _=>rfl
theorem Own.setOff {base:Nat} {w:World} {V:Key→Value} {s:St} (h:Own base w V s) {a:Addr} (ha:Own.off V s a.block) (u:Value):Own base (w.setCell a u) V s :=
 h.same fun k g hk hg=>Below.heap_setCell w a u g (fun e=>ha k hk (by rw [hg,e]))
theorem Own.now {base:Nat} {w:World} {V:Key→Value} {s:St} (h:Own base w V s) (n:Int):Own base w V { s with now:=n } :=
 ⟨fun k hk=>by
  have:=h.piece k (by cases k using Key.by <;> exact hk)
  cases k using Key.by <;> exact this,fun k k' g hk hk'=>h.apart k k' g (by cases k using Key.by <;> exact hk) (by cases k' using Key.by <;> exact hk')⟩
theorem Own.turned {base:Nat} {w w':World} {V V':Key→Value} {s s':St} (h:Own base w V s)
  (hp:∀ k,live s' k→Xs base w' V' s' k∨(live s k∧V' k=V k∧(Xs base w' V s k→Xs base w' V' s' k)∧∀ g,(V k).ownBlock=some g→w'.heap[g]?=w.heap[g]?))
  (hb:∀ k g,live s' k→(V' k).ownBlock=some g→(live s k∧(V k).ownBlock=some g)∨Own.off V s g)
  (hn:∀ k k' g,live s' k→live s' k'→Own.off V s g→(V' k).ownBlock=some g→(V' k').ownBlock=some g→k=k'):Own base w' V' s':=by
 refine ⟨fun k hk=>?_,fun k k' g hk hk' e e'=>?_⟩
 ·rcases hp k hk with h1 | ⟨h1,h2,h3,h4⟩
  ·exact h1
  ·exact h3 ((h.piece k h1).same h4)
 ·rcases hb k g hk e with ⟨h1,h2⟩ | h1
  ·rcases hb k' g hk' e' with ⟨h3,h4⟩ | h3
   ·exact h.apart k k' g h1 h3 h2 h4
   ·exact absurd h2 (h3 k h1)
  ·exact hn k k' g hk hk' h1 e e'
theorem Own.setCaller {base:Nat} {w:World} {V:Key→Value} {s:St} (h:Own base w V s) {i g cap:Nat} (hi:i<s.fibers.length) (hV:V .fibers=.slice (some ⟨g,0,none⟩) s.fibers.length cap) (c:Int) :
  Own base (w.setCell ⟨g,i*2+1,none⟩ (.int .i64 c)) V (Zh s i { Zc s i with caller:=c }):=by
 have hlen:=Xf s i { Zc s i with caller:=c }
 have hfr:∀ j,(Zc (Zh s i { Zc s i with caller:=c }) j).frames=(Zc s j).frames:=fun j=>by
  by_cases e:i=j
  ·subst e;rw [Qg _ hi]
  ·rw [Jb _ e]
 have hfa:∀ j t,Ze (Zh s i { Zc s i with caller:=c }) j t=Ze s j t:=fun j t=>by unfold Ze;rw [hfr]
 have hlv:∀ k,live (Zh s i { Zc s i with caller:=c }) k↔live s k:=by
  intro k;cases k using Key.by <;> simp only [live,hlen,hfr]
 refine h.turned (fun k hk=>?_) (fun k g' hk e=>.inl ⟨(hlv k).1 hk,e⟩) (fun k k' g' hk _ ho e _=>absurd e (ho k ((hlv k).1 hk)))
 by_cases hkf:k=.fibers
 ·subst hkf
  left
  obtain ⟨xs,h1,h2⟩:=h.piece .fibers trivial
  rw [hV] at h1
  refine ⟨xs.set (i*2+1) (.int .i64 c),?_,fun j hj=>?_⟩
  ·rw [hV,hlen];exact (h1.stored _ _).1
  ·rw [hlen] at hj
   obtain ⟨h3,h4⟩:=h2 j hj
   have hx:i*2+1<xs.length:=by rw [h1.1];omega
   refine ⟨by rw [List.getElem?_set,if_neg (by omega)];exact h3,?_⟩
   by_cases e:i=j
   ·subst e;rw [List.getElem?_set,if_pos rfl,if_pos hx,Qg _ hi]
   ·rw [List.getElem?_set,if_neg (by omega),Jb _ e];exact h4
 ·right
  have hlk:=(hlv k).1 hk
  refine ⟨hlk,rfl,fun hp=>?_,fun g' e=>Below.heap_setCell w _ _ g' ?_⟩
  ·cases k using Key.by with
   | fibers=>exact absurd rfl hkf
   | out=>exact hp
   | frames j =>
    obtain ⟨xs,h1,h2⟩:=hp
    exact ⟨xs,by rw [hfr];exact h1,fun t ht=>by rw [hfr] at ht;rw [hfa];exact h2 t ht⟩
   | locals j t=>simp only [Xs,hfa] at hp ⊢;exact hp
   | stack j t=>simp only [Xs,hfa] at hp ⊢;exact hp
  ·rintro rfl
   exact hkf (h.apart k .fibers _ hlk trivial e (by rw [hV];rfl))
theorem We {s:St} {i j:Nat} (f:Fr) (hi:i<s.fibers.length) (k:Key):live (Qu s i j f) k↔live s k:=by
 have hlen:(Qu s i j f).fibers.length=s.fibers.length:=Xf _ _ _
 cases k using Key.by <;> simp only [live,hlen,Pc f hi]
theorem Own.turnFrame {base:Nat} {w w1:World} {V:Key→Value} {s:St} (h:Own base w V s) {i j g cap:Nat} (hi:i<s.fibers.length) (hj:j<(Zc s i).frames.length)
  (hV:V (.frames i)=.slice (some ⟨g,0,none⟩) (Zc s i).frames.length cap) (vs:Value) (f:Fr) (u:Nat) (x:Value)
  (hu:u<4) (hgrow:∀ b,b<w.heap.size→(V (.stack i j)).ownBlock≠some b→w1.heap[b]?=w.heap[b]?) (hown:w1.ownsRow base 3 1 vs f.stack.length (ints f.stack))
  (hat:vs.ownBlock=(V (.stack i j)).ownBlock∨vs.ownBlock=some w.heap.size) (hloc:f.locals=(Ze s i j).locals)
  (h0:(Value.int .i64 f.fn)=if u=0 then x else .int .i64 (Ze s i j).fn) (h1:(Value.int .i64 f.at_)=if u=1 then x else .int .i64 (Ze s i j).at_) (h2:V (.locals i j)=if u=2 then x else V (.locals i j)) (h3:vs=if u=3 then x else V (.stack i j)) :
  Own base (w1.setCell ⟨g,j*4+u,none⟩ x) (upd V (.stack i j) vs) (Qu s i j f):=by
 have hgb:(V (.frames i)).ownBlock=some g:=by rw [hV];rfl
 have hlvF:live s (.frames i):=hi
 have hlvS:live s (.stack i j):=⟨hi,hj⟩
 have hgs:(V (.stack i j)).ownBlock≠some g:=fun e=>by have:=h.apart _ _ _ hlvS hlvF e hgb;cases this
 have hgw:g<w.heap.size:=((h.piece _ hlvF).block g hgb).2
 have hvs:vs.ownBlock≠some g:=by
  rcases hat with e | e
  ·rw [e];exact hgs
  ·rw [e];intro e';cases e';omega
 have hold:∀ k,live s k→k≠.frames i→k≠.stack i j→∀ b,(V k).ownBlock=some b→(w1.setCell ⟨g,j*4+u,none⟩ x).heap[b]?=w.heap[b]?:=by
  intro k hk hn1 hn2 b hb
  have hbw:=((h.piece k hk).block b hb).2
  rw [Below.heap_setCell _ _ _ _ (fun e=>hn1 (h.apart k _ b hk hlvF hb (by rw [hgb];exact congrArg some e.symm)))]
  exact hgrow b hbw (fun e=>hn2 (h.apart k _ b hk hlvS hb e))
 refine h.turned (fun k hk=>?_) (fun k b hk e=>?_) (fun k k' b hk hk' ho e e'=>?_)
 ·have hlk:=(We f hi k).1 hk
  by_cases hkS:k=.stack i j
  ·subst hkS
   left
   show World.ownsRow _ _ _ _ _ _ _
   rw [Uh f hi hj,Qk]
   exact ownsRow_setCell_other hown hvs _
  ·by_cases hkF:k=.frames i
   ·subst hkF
    left
    obtain ⟨xs,r1,r2⟩:=h.piece _ hlvF
    rw [hV] at r1
    have r1':w1.ownsRow base 53 4 (.slice (some ⟨g,0,none⟩) (Zc s i).frames.length cap) (Zc s i).frames.length xs:=Jl r1 (fun b e=>by
     cases e
     exact hgrow g hgw hgs)
    have hx:j*4+u<xs.length:=by rw [r1.1];omega
    refine ⟨xs.set (j*4+u) x,?_,fun t ht=>?_⟩
    ·rw [Pc f hi]
     rw [Zp V vs hkS,hV]
     exact (r1'.stored _ _).1
    ·rw [Pc f hi] at ht
     obtain ⟨q0,q1,q2,q3⟩:=r2 t ht
     by_cases e:j=t
     ·subst e
      rw [Uh f hi hj]
      refine ⟨?_,?_,?_,?_⟩
      ·rw [h0,List.getElem?_set]
       by_cases e:u=0
       ·subst e;simp;omega
       ·rw [if_neg (by omega),if_neg e];exact q0
      ·rw [h1,List.getElem?_set]
       by_cases e:u=1
       ·subst e;simp;omega
       ·rw [if_neg (by omega),if_neg e];exact q1
      ·rw [Zp V vs (by simp),h2,List.getElem?_set]
       by_cases e:u=2
       ·subst e;simp;omega
       ·rw [if_neg (by omega),if_neg e];exact q2
      ·rw [Qk,h3,List.getElem?_set]
       by_cases e:u=3
       ·subst e;simp;omega
       ·rw [if_neg (by omega),if_neg e];exact q3
     ·rw [Pm f hi (fun h=>e h.2)]
      rw [Zp V vs (by simp),Zp V vs (by simp;intro h;exact e h.symm)]
      refine ⟨?_,?_,?_,?_⟩ <;> rw [List.getElem?_set,if_neg (by omega)] <;> assumption
   ·right
    refine ⟨hlk,Zp V vs hkS,fun hp=>?_,hold k hlk hkF hkS⟩
    cases k using Key.by with
    | fibers =>
     obtain ⟨xs,r1,r2⟩:=hp
     refine ⟨xs,?_,fun t ht=>?_⟩
     ·rw [show (Qu s i j f).fibers.length=s.fibers.length from Xf _ _ _,Zp V vs (by simp)]
      exact r1
     ·rw [show (Qu s i j f).fibers.length=s.fibers.length from Xf _ _ _] at ht
      rw [Zbe f hi,Zp V vs (by simp)]
      exact r2 t ht
    | out=>simp only [Xs] at hp ⊢;rw [Zp V vs (by simp)];exact hp
    | frames t =>
     have hne:i≠t:=fun e=>hkF (by rw [e])
     obtain ⟨xs,r1,r2⟩:=hp
     refine ⟨xs,by rw [Pc f hi,Zp V vs (by simp)];exact r1,fun q hq=>?_⟩
     rw [Pc f hi] at hq
     rw [Pm f hi (fun h=>hne h.1),Zp V vs (by simp),Zp V vs (by simp;intro h;exact absurd h.symm hne)]
     exact r2 q hq
    | locals t q =>
     simp only [Xs] at hp ⊢
     rw [Zp V vs (by simp)]
     by_cases e:i=t∧j=q
     ·obtain ⟨rfl,rfl⟩:=e
      rw [Uh f hi hj,hloc]
      exact hp
     ·rw [Pm f hi e];exact hp
    | stack t q =>
     simp only [Xs] at hp ⊢
     rw [Zp V vs hkS,Pm f hi (fun h=>hkS (by rw [h.1,h.2]))]
     exact hp
 ·have hlk:=(We f hi k).1 hk
  by_cases hkS:k=.stack i j
  ·subst hkS
   rw [Qk] at e
   rcases hat with e' | e'
   ·exact .inl ⟨hlk,by rw [← e',e]⟩
   ·rw [e] at e';cases e'
    exact .inr (h.new_off (.inl (Nat.le_refl _)))
  ·rw [Zp V vs hkS] at e
   exact .inl ⟨hlk,e⟩
 ·have hlk:=(We f hi k).1 hk
  have hlk':=(We f hi k').1 hk'
  by_cases hkS:k=.stack i j
  ·by_cases hkS':k'=.stack i j
   ·rw [hkS,hkS']
   ·rw [Zp V vs hkS'] at e'
    exact absurd e' (ho k' hlk')
  ·rw [Zp V vs hkS] at e
   exact absurd e (ho k hlk)
end Go.Proofs.YtblihfpigjiahaaDoor
