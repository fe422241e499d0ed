/-
  Expressions, plain: what may be, what they are (J1).
-/
import Derived.Test.YtogcfkmekdpmmaaDoorFB01
set_option maxRecDepth 100000
set_option maxHeartbeats 8000000
namespace Go.Proofs.YtogcfkmekdpmmaaDoor
open Go.RowKit

def partsS (k:Int):Int:=if k≤1 then 0 else if k < 7 then 2 else 3
def mostS (n k:Int):Int:=if k=0 then 999 else if k=1 then n - 1 else 0
abbrev kindOk (x:Int × Int):Prop:=0≤x.1∧x.1≤7
abbrev numOk (n:Int) (x:Int × Int):Prop:=0≤x.2∧x.2≤mostS n x.1
def onlyS:List (Int × Int)→Int→Bool
  | [],o=>decide (o=0)
  | x :: r,o=>if o=0 then false else onlyS r (o - 1 + partsS x.1)
def exErrS (e:List (Int × Int)) (n:Int):Int :=
  if n < 0∨4 < n then 3 else if 9 < e.length then 2 else if ¬ ∀ x∈e,kindOk x then 4 else if ¬ ∀ x∈e,numOk n x then 3 else if onlyS e 1=true then 0 else 1

theorem exErr_locals {e:List (Int × Int)} {n:Int} (h:n < 0∨4 < n):exErrS e n=3:=by unfold exErrS; rw [if_pos h]
theorem exErr_many {e:List (Int × Int)} {n:Int} (h0:0≤n) (h4:n≤4) (hl:9 < e.length):exErrS e n=2:=by unfold exErrS; rw [if_neg (by omega),if_pos hl]
theorem exErr_kind {e:List (Int × Int)} {n:Int} (h0:0≤n) (h4:n≤4) (hl:¬ 9 < e.length) (i:Nat) (x:Int × Int) (hx:e[i]?=some x) (hk:¬ kindOk x):exErrS e n=4:=by
  unfold exErrS; rw [if_neg (by omega),if_neg hl,if_pos (fun h=>hk (h x (List.mem_of_getElem? hx)))]
theorem exErr_num {e:List (Int × Int)} {n:Int} (h0:0≤n) (h4:n≤4) (hl:¬ 9 < e.length) (hk:∀ x∈e,kindOk x) (i:Nat) (x:Int × Int) (hx:e[i]?=some x) (hn:¬ numOk n x):exErrS e n=3:=by
  unfold exErrS; rw [if_neg (by omega),if_neg hl,if_neg (Classical.not_not.2 hk),if_pos (fun h=>hn (h x (List.mem_of_getElem? hx)))]
theorem exErr_one {e:List (Int × Int)} {n:Int} (h0:0≤n) (h4:n≤4) (hl:¬ 9 < e.length) (hk:∀ x∈e,kindOk x) (hn:∀ x∈e,numOk n x):exErrS e n=if onlyS e 1=true then 0 else 1:=by
  unfold exErrS; rw [if_neg (by omega),if_neg hl,if_neg (Classical.not_not.2 hk),if_neg (Classical.not_not.2 hn)]
theorem all_of {α:Type} {p:α→Prop} {e:List α} (h:∀ i x,i < e.length→e[i]?=some x→p x):∀ x∈e,p x:=by
  intro x hx
  obtain ⟨i,hi,rfl⟩:=List.mem_iff_getElem.1 hx
  exact h i _ hi (by simp [hi])
theorem onlyS_step {e:List (Int × Int)} {k:Nat} {x:Int × Int} (hx:e[k]?=some x) (o:Int):onlyS (e.drop k) o=if o=0 then false else onlyS (e.drop (k + 1)) (o - 1 + partsS x.1):=by
  have hk:k < e.length:=(List.getElem?_eq_some_iff.1 hx).1
  have:e.drop k=x :: e.drop (k + 1):=by
    rw [List.drop_eq_getElem_cons hk]
    rw [List.getElem?_eq_getElem hk] at hx
    rw [Option.some.inj hx]
  rw [this]
  rfl

def twoS (k a b:Int):Int :=
  if k=2 then wrap64 (a + b) else if k=3 then wrap64 (a - b) else if k=4 then wrap64 (a * b)
  else if k=5 then (if a < b then 1 else 0) else (if a=b then 1 else 0)
def valS (vals:List Int):Nat→List (Int × Int)→Int × List (Int × Int)
  | 0,e=>(0,e)
  | _ + 1,[]=>(0,[])
  | n + 1,x :: r =>
    if x.1=0 then (x.2,r) else if x.1=1 then (vals.getD x.2.toNat 0,r)
    else if x.1=7 then
      (if (valS vals n r).1=0 then (valS vals n (valS vals n (valS vals n r).2).2).1 else (valS vals n (valS vals n r).2).1,(valS vals n (valS vals n (valS vals n r).2).2).2)
    else (twoS x.1 (valS vals n r).1 (valS vals n (valS vals n r).2).1,(valS vals n (valS vals n r).2).2)

def exValS (e:List (Int × Int)) (vals:List Int):Int:=if exErrS e vals.length=0 then (valS vals 9 e).1 else 0

theorem val_rest (vals:List Int):∀ (n:Nat) (e:List (Int × Int)) (o:Int),e.length≤n→1≤o→onlyS e o=true→(∀ x∈e,kindOk x) →
    ∃ j,0 < j∧j≤e.length∧(valS vals n e).2=e.drop j∧onlyS (valS vals n e).2 (o - 1)=true
  | n,[],o,_,ho,h,_=>by simp [onlyS] at h; omega
  | 0,x :: r,o,hl,_,_,_=>by simp at hl
  | n + 1,x :: r,o,hl,ho,h,hk=>by
    have hx:=hk x (by simp)
    have hr:∀ y∈r,kindOk y:=fun y hy=>hk y (by simp [hy])
    have hl':r.length≤n:=by simpa using hl
    simp only [onlyS] at h
    rw [if_neg (by omega)] at h
    unfold kindOk at hx
    unfold valS
    by_cases h0:x.1=0
    · rw [if_pos h0]
      refine ⟨1,by omega,by simp,by simp,?_⟩
      simpa [partsS,h0] using h
    · rw [if_neg h0]
      by_cases h1:x.1=1
      · rw [if_pos h1]
        refine ⟨1,by omega,by simp,by simp,?_⟩
        simpa [partsS,h1] using h
      · rw [if_neg h1]
        by_cases h7:x.1=7
        · rw [if_pos h7]
          have hp:partsS x.1=3:=by rw [h7]; rfl
          rw [hp] at h
          obtain ⟨j1,p1,q1,e1,o1⟩:=val_rest vals n r (o - 1 + 3) hl' (by omega) h hr
          obtain ⟨j2,p2,q2,e2,o2⟩:=val_rest vals n _ (o - 1 + 3 - 1) (by rw [e1]; simp; omega) (by omega) o1 (by rw [e1]; exact fun y hy=>hr y (List.mem_of_mem_drop hy))
          obtain ⟨j3,p3,q3,e3,o3⟩:=val_rest vals n _ (o - 1 + 3 - 1 - 1) (by rw [e2,e1]; simp; omega) (by omega) o2 (by rw [e2,e1]; exact fun y hy=>hr y (List.mem_of_mem_drop (List.mem_of_mem_drop hy)))
          refine ⟨j1 + j2 + j3 + 1,by omega,?_,?_,?_⟩
          · rw [e1] at q2
            rw [e2,e1] at q3
            simp at q2 q3 ⊢
            omega
          · show (valS vals n (valS vals n (valS vals n r).2).2).2=_
            rw [e3,e2,e1]
            simp [List.drop_drop]
          · have:o - 1 + 3 - 1 - 1 - 1=o - 1:=by omega
            rw [this] at o3
            exact o3
        · rw [if_neg h7]
          have hp:partsS x.1=2:=by unfold partsS; rw [if_neg (by omega),if_pos (by omega)]
          rw [hp] at h
          obtain ⟨j1,p1,q1,e1,o1⟩:=val_rest vals n r (o - 1 + 2) hl' (by omega) h hr
          obtain ⟨j2,p2,q2,e2,o2⟩:=val_rest vals n _ (o - 1 + 2 - 1) (by rw [e1]; simp; omega) (by omega) o1 (by rw [e1]; exact fun y hy=>hr y (List.mem_of_mem_drop hy))
          refine ⟨j1 + j2 + 1,by omega,?_,?_,?_⟩
          · rw [e1] at q2
            simp at q2 ⊢
            omega
          · show (valS vals n (valS vals n r).2).2=_
            rw [e2,e1]
            simp [List.drop_drop]
          · have:o - 1 + 2 - 1 - 1=o - 1:=by omega
            rw [this] at o2
            exact o2

theorem val_next (vals:List Int) (n:Nat) (e:List (Int × Int)) (o q:Int) (hl:e.length≤n) (ho:1≤o) (h:onlyS e o=true) (hk:∀ x∈e,kindOk x) (hn:∀ x∈e,numOk q x) :
    (valS vals n e).2.length≤n∧onlyS (valS vals n e).2 (o - 1)=true∧(∀ x∈(valS vals n e).2,kindOk x)∧(∀ x∈(valS vals n e).2,numOk q x):=by
  obtain ⟨j,_,_,e1,o1⟩:=val_rest vals n e o hl ho h hk
  refine ⟨by rw [e1]; simp; omega,o1,?_,?_⟩
  · rw [e1]; exact fun y hy=>hk y (List.mem_of_mem_drop hy)
  · rw [e1]; exact fun y hy=>hn y (List.mem_of_mem_drop hy)

theorem val_app (vals:List Int) (t:List (Int × Int)):∀ (n m:Nat) (e:List (Int × Int)) (o:Int),e.length≤n→n≤m→1≤o→onlyS e o=true→(∀ x∈e,kindOk x) →
    valS vals m (e++t)=((valS vals n e).1,(valS vals n e).2++t)
  | n,m,[],o,_,_,ho,h,_=>by simp [onlyS] at h; omega
  | 0,m,x :: r,o,hl,_,_,_,_=>by simp at hl
  | n + 1,0,x :: r,o,_,hm,_,_,_=>by omega
  | n + 1,m + 1,x :: r,o,hl,hm,ho,h,hk=>by
    have hx:=hk x (by simp)
    have hr:∀ y∈r,kindOk y:=fun y hy=>hk y (by simp [hy])
    have hl':r.length≤n:=by simpa using hl
    simp only [onlyS] at h
    rw [if_neg (by omega)] at h
    unfold kindOk at hx
    rw [List.cons_append]
    unfold valS
    by_cases h0:x.1=0
    · rw [if_pos h0,if_pos h0]
    · rw [if_neg h0,if_neg h0]
      by_cases h1:x.1=1
      · rw [if_pos h1,if_pos h1]
      · rw [if_neg h1,if_neg h1]
        by_cases h7:x.1=7
        · rw [if_pos h7,if_pos h7]
          have hp:partsS x.1=3:=by rw [h7]; rfl
          rw [hp] at h
          obtain ⟨j1,p1,q1,e1,o1⟩:=val_rest vals n r (o - 1 + 3) hl' (by omega) h hr
          have k1:∀ y∈(valS vals n r).2,kindOk y:=by rw [e1]; exact fun y hy=>hr y (List.mem_of_mem_drop hy)
          have l1:(valS vals n r).2.length≤n:=by rw [e1]; simp; omega
          obtain ⟨j2,p2,q2,e2,o2⟩:=val_rest vals n _ (o - 1 + 3 - 1) l1 (by omega) o1 k1
          have k2:∀ y∈(valS vals n (valS vals n r).2).2,kindOk y:=by rw [e2]; exact fun y hy=>k1 y (List.mem_of_mem_drop hy)
          have l2:(valS vals n (valS vals n r).2).2.length≤n:=by rw [e2]; simp; omega
          rw [val_app vals t n m r (o - 1 + 3) hl' (by omega) (by omega) h hr]
          simp only []
          rw [val_app vals t n m _ (o - 1 + 3 - 1) l1 (by omega) (by omega) o1 k1]
          simp only []
          rw [val_app vals t n m _ (o - 1 + 3 - 1 - 1) l2 (by omega) (by omega) o2 k2]
        · rw [if_neg h7,if_neg h7]
          have hp:partsS x.1=2:=by unfold partsS; rw [if_neg (by omega),if_pos (by omega)]
          rw [hp] at h
          obtain ⟨j1,p1,q1,e1,o1⟩:=val_rest vals n r (o - 1 + 2) hl' (by omega) h hr
          have k1:∀ y∈(valS vals n r).2,kindOk y:=by rw [e1]; exact fun y hy=>hr y (List.mem_of_mem_drop hy)
          have l1:(valS vals n r).2.length≤n:=by rw [e1]; simp; omega
          rw [val_app vals t n m r (o - 1 + 2) hl' (by omega) (by omega) h hr]
          simp only []
          rw [val_app vals t n m _ (o - 1 + 2 - 1) l1 (by omega) (by omega) o1 k1]

theorem one_app (t:List (Int × Int)) (q:Int) (hq:0≤q):∀ (e:List (Int × Int)) (o:Int),0≤o→onlyS e o=true→(∀ x∈e,kindOk x)→onlyS (e++t) (o + q)=onlyS t q
  | [],o,_,h,_=>by
    simp [onlyS] at h
    subst h
    simp
  | x :: r,o,ho,h,hk=>by
    simp only [onlyS] at h
    have hx:=hk x (by simp)
    unfold kindOk at hx
    have hp:0≤partsS x.1:=by unfold partsS; split <;> (try split) <;> omega
    split at h
    · cases h
    · rename_i hn
      rw [List.cons_append]
      simp only [onlyS]
      rw [if_neg (by omega)]
      have:=one_app t q hq r (o - 1 + partsS x.1) (by omega) h (fun y hy=>hk y (by simp [hy]))
      rw [← this]
      congr 1
      omega

theorem one_nil {e:List (Int × Int)} (h:onlyS e 0=true):e=[]:=by
  cases e with
  | nil=>rfl
  | cons x r=>simp [onlyS] at h

theorem exErr_ok {e:List (Int × Int)} {n:Int} (h:exErrS e n=0):0≤n∧n≤4∧e.length≤9∧(∀ x∈e,kindOk x)∧(∀ x∈e,numOk n x)∧onlyS e 1=true:=by
  unfold exErrS at h
  split at h
  · cases h
  · split at h
    · cases h
    · split at h
      · cases h
      · split at h
        · cases h
        · split at h
          · rename_i h1 h2 h3 h4 h5
            exact ⟨by omega,by omega,by omega,Classical.not_not.1 h3,Classical.not_not.1 h4,h5⟩
          · cases h

theorem both_val {a b:List (Int × Int)} {vals:List Int} (ha:exErrS a vals.length=0) (hb:exErrS b vals.length=0) (n:Nat) (hn:a.length + b.length≤n) :
    (valS vals n (a++b)).1=(valS vals 9 a).1∧(valS vals n (a++b)).2=b∧(valS vals n b).1=(valS vals 9 b).1∧(valS vals n b).2=[]:=by
  obtain ⟨_,_,la,ka,_,oa⟩:=exErr_ok ha
  obtain ⟨_,_,lb,kb,_,ob⟩:=exErr_ok hb
  obtain ⟨_,_,_,_,ra⟩:=val_rest vals a.length a 1 (Nat.le_refl _) (by omega) oa ka
  obtain ⟨_,_,_,_,rb⟩:=val_rest vals b.length b 1 (Nat.le_refl _) (by omega) ob kb
  have za:=one_nil ra
  have zb:=one_nil rb
  have e1:=val_app vals b a.length n a 1 (Nat.le_refl _) (by omega) (by omega) oa ka
  have e2:=val_app vals [] a.length 9 a 1 (Nat.le_refl _) la (by omega) oa ka
  have e3:=val_app vals [] b.length n b 1 (Nat.le_refl _) (by omega) (by omega) ob kb
  have e4:=val_app vals [] b.length 9 b 1 (Nat.le_refl _) lb (by omega) ob kb
  rw [List.append_nil] at e2 e3 e4
  rw [e1,e2,e3,e4,za,zb]
  simp

theorem two_right {a b:List (Int × Int)} {vals:List Int} (ha:exErrS a vals.length=0) (hb:exErrS b vals.length=0) (k:Int) (hk:2≤k) (hk7:k < 7) :
    exErrS ((k,0) :: (a++b)) vals.length=(if 9 < a.length + b.length + 1 then 2 else 0) ∧
    (a.length + b.length + 1≤9→exValS ((k,0) :: (a++b)) vals=twoS k (exValS a vals) (exValS b vals)):=by
  obtain ⟨n0,n4,la,ka,na,oa⟩:=exErr_ok ha
  obtain ⟨_,_,lb,kb,nb,ob⟩:=exErr_ok hb
  have hE:exErrS ((k,0) :: (a++b)) vals.length=(if 9 < a.length + b.length + 1 then 2 else 0):=by
    unfold exErrS
    rw [if_neg (by omega)]
    simp only [List.length_cons,List.length_append]
    split
    · rfl
    · rw [if_neg (Classical.not_not.2 ?_),if_neg (Classical.not_not.2 ?_),if_pos ?_]
      · simp only [onlyS]
        rw [if_neg (by omega),show partsS k=2 by unfold partsS; rw [if_neg (by omega),if_pos (by omega)]]
        have:=one_app b 1 (by omega) a 1 (by omega) oa ka
        simpa [ob] using this
      · intro x hx
        simp only [List.mem_cons,List.mem_append] at hx
        rcases hx with rfl | h | h
        · exact ⟨by simp,by simp [mostS,show ¬ k=0 by omega,show ¬ k=1 by omega]⟩
        · exact na x h
        · exact nb x h
      · intro x hx
        simp only [List.mem_cons,List.mem_append] at hx
        rcases hx with rfl | h | h
        · exact ⟨by simp; omega,by simp; omega⟩
        · exact ka x h
        · exact kb x h
  refine ⟨hE,fun hl=>?_⟩
  have h0:exErrS ((k,0) :: (a++b)) vals.length=0:=by rw [hE,if_neg (by omega)]
  obtain ⟨v1,v2,v3,v4⟩:=both_val ha hb 8 (by omega)
  unfold exValS
  rw [if_pos h0,if_pos ha,if_pos hb]
  conv=>lhs; unfold valS
  rw [if_neg (by simp; omega),if_neg (by simp; omega),if_neg (by simp; omega)]
  simp only []
  rw [v1,v2,v3]

theorem if_right {a b:List (Int × Int)} {vals:List Int} (ha:exErrS a vals.length=0) (hb:exErrS b vals.length=0) (z:Int) (hz:z=0∨z=1) :
    exErrS ((7,0) :: (0,z) :: (a++b)) vals.length=(if 9 < a.length + b.length + 2 then 2 else 0) ∧
    (a.length + b.length + 2≤9→exValS ((7,0) :: (0,z) :: (a++b)) vals=if z=0 then exValS b vals else exValS a vals):=by
  obtain ⟨n0,n4,la,ka,na,oa⟩:=exErr_ok ha
  obtain ⟨_,_,lb,kb,nb,ob⟩:=exErr_ok hb
  have hE:exErrS ((7,0) :: (0,z) :: (a++b)) vals.length=(if 9 < a.length + b.length + 2 then 2 else 0):=by
    unfold exErrS
    rw [if_neg (by omega)]
    simp only [List.length_cons,List.length_append]
    rw [show a.length + b.length + 1 + 1=a.length + b.length + 2 by omega]
    split
    · rfl
    · rw [if_neg (Classical.not_not.2 ?_),if_neg (Classical.not_not.2 ?_),if_pos ?_]
      · simp only [onlyS]
        rw [if_neg (by omega),show partsS 7=3 from rfl,show partsS 0=0 from rfl,if_neg (by omega)]
        have:=one_app b 1 (by omega) a 1 (by omega) oa ka
        simpa [ob] using this
      · intro x hx
        simp only [List.mem_cons,List.mem_append] at hx
        rcases hx with rfl | rfl | h | h
        · exact ⟨by simp,by simp [mostS]⟩
        · exact ⟨by simp; omega,by simp [mostS]; omega⟩
        · exact na x h
        · exact nb x h
      · intro x hx
        simp only [List.mem_cons,List.mem_append] at hx
        rcases hx with rfl | rfl | h | h
        · exact ⟨by simp,by simp⟩
        · exact ⟨by simp,by simp⟩
        · exact ka x h
        · exact kb x h
  refine ⟨hE,fun hl=>?_⟩
  have h0:exErrS ((7,0) :: (0,z) :: (a++b)) vals.length=0:=by rw [hE,if_neg (by omega)]
  obtain ⟨v1,v2,v3,v4⟩:=both_val ha hb 8 (by omega)
  have hn:valS vals 8 ((0,z) :: (a++b))=(z,a++b):=by unfold valS; rw [if_pos rfl]
  unfold exValS
  rw [if_pos h0,if_pos ha,if_pos hb]
  conv=>lhs; unfold valS
  rw [if_neg (by simp),if_neg (by simp),if_pos (by simp),hn]
  simp only []
  rw [v1,v2,v3]

end Go.Proofs.YtogcfkmekdpmmaaDoor
