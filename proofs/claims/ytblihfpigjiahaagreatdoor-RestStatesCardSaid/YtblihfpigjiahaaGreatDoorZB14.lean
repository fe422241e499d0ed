/- StateLp, StateTq, GoodA, GoodB -/
import Derived.Test.YtblihfpigjiahaaGreatDoorZB13
import Derived.Test.YtblihfpigjiahaaGreatDoorZB11
set_option maxRecDepth 100000
set_option maxHeartbeats 8000000
namespace Go.Proofs.YtblihfpigjiahaaGreatDoor
theorem right_code {p:List Fn} (h:Zx p=0) {k:Nat} (hk:k < p.length):Right p (Zu p k):=by
 obtain ⟨_,_,hck⟩:=Ka h
 obtain ⟨_,_,hops⟩:=chkS_ops (hck k hk)
 exact ⟨p.getD k Fn.zero,rfl,fun x hx=>opsS_all hops x hx⟩
theorem cons_code {p:List Fn} (h:Zx p=0) {k:Nat} (hk:k < p.length):Cons p (Zu p k) (hgt p k)∧Sound p (Zu p k) (hgt p k) :=
 heightsS_ok (right_code h hk) (progS_heights h hk)
theorem hgt_le {p:List Fn} (h:Zx p=0) {k:Nat} (hk:k < p.length) (a:Nat):-1≤(hgt p k).getD a 0∧(hgt p k).getD a 0≤8:=by
 by_cases ha:a < (hgt p k).length
 ·obtain ⟨hc,hs⟩:=cons_code h hk
  rcases hs a (by rw [← hc.len]; exact ha) with e | ⟨h0,hr⟩
  ·omega
  ·have:=hr (fun _ z=>z≤8) (by omega) (fun k' z x m j _ hx hm _=>(Jy (right_code h hk) (List.mem_of_getElem? hx) hm).2)
   exact ⟨by omega,this⟩
 ·simp [List.getD,List.getElem?_eq_none (by omega:(hgt p k).length≤a)]
theorem bare_of {p:List Fn} (h:Zx p=0):Bare p:=by
 intro k i x hx hk
 by_cases hkl:k < p.length
 ·obtain ⟨_,_,hck⟩:=Ka h
  obtain ⟨_,_,hops⟩:=chkS_ops (hck k hkl)
  obtain ⟨_,_,hm⟩:=Qx (opsS_all hops x (List.mem_of_getElem? hx))
  have ho:opd x.1.toNat=0:=by rcases hk with e | e <;> rw [e] <;> rfl
  rw [ho] at hm
  simpa [mayB] using hm
 ·have:Zu p k=[]:=by
   unfold Zu
   simp [List.getD,List.getElem?_eq_none (by omega:p.length≤k),Fn.zero]
  rw [this] at hx
  simp at hx
theorem Km {p:List Fn} {s:St} (h:Zy p s=0):Zx p=0∧limS s=0∧formR p s=true:=by
 unfold Zy at h
 split at h
 ·rename_i h1
  split at h
  ·rename_i h2
   split at h
   ·rename_i h3; exact ⟨h1,h2,h3⟩
   ·cases h
  ·rename_i h2; exact absurd h h2
 ·rename_i h1; exact absurd h h1
theorem right_fiber {p:List Fn} {s:St} (h:Zy p s=0):∃ l,Xm s=some l∧∀ k,k < s.fibers.length→Xt p (Za s k) (decide ((k:Int)∈l)) (decide ((k:Int)=s.now))=true:=by
 obtain ⟨_,_,h3⟩:=Km h
 unfold formR at h3
 cases hl:Xm s with
 | none=>rw [hl] at h3; cases h3
 | some l =>
  rw [hl] at h3
  simp only [Bool.and_eq_true] at h3
  refine ⟨l,rfl,fun k hk=>?_⟩
  have:=Jj.1 h3.2 k hk
  simp only [Bool.and_eq_true] at this
  exact this.1
theorem jwaits_at {p:List Fn}:∀ (l:List Fr) (j:Nat),Xu p l=true→j + 1 < l.length→((l.getD j Fr.zero).stack.length:Int)=hAt p (l.getD j Fr.zero) - 1
 | [],j,_,hj=>by simp at hj
 | [x],j,_,hj=>by simp at hj
 | x :: y :: r,0,h,_=>by
  simp only [Xu,Bool.and_eq_true] at h
  obtain ⟨h1,_⟩:=h
  unfold Xp at h1
  simp only [Bool.and_eq_true,decide_eq_true_eq] at h1
  exact h1.1.2
 | x :: y :: r,j + 1,h,hj=>by
  simp only [Xu,Bool.and_eq_true] at h
  exact jwaits_at (y :: r) j h.2 (by simpa using hj)
theorem Ki {p:List Fn} {x:Fr} (h:Zw p x=true):(0≤x.fn∧x.fn < p.length)∧(x.locals.length:Int)=(p.getD x.fn.toNat Fn.zero).locals∧(0≤x.at_∧x.at_ < (Zu p x.fn.toNat).length)∧0≤hAt p x:=by
 unfold Zw at h
 simp only [Bool.and_eq_true,decide_eq_true_eq] at h
 obtain ⟨h1,h2,h3,h4⟩:=h
 exact ⟨Qb.1 h1,h2,Qb.1 h3,h4⟩
theorem right_frame {p:List Fn} {s:St} (h:Zy p s=0) {k j:Nat} (hk:k < s.fibers.length) (hj:j < (Za s k).frames.length) :
  Zw p (frAt s k j)=true∧(frAt s k j).stack.length≤8:=by
 obtain ⟨hp,_,_⟩:=Km h
 obtain ⟨l,_,hf⟩:=right_fiber h
 have hfk:=hf k hk
 unfold Xt at hfk
 cases hlast:(Za s k).frames.getLast? with
 | none =>
  have:=List.getLast?_eq_none_iff.1 hlast
  rw [this] at hj
  simp at hj
 | some t =>
  rw [hlast] at hfk
  simp only [Bool.and_eq_true] at hfk
  obtain ⟨hfr,hcond⟩:=hfk
  obtain ⟨hall,hjw⟩:=(framesB_iff p _).1 hfr
  have hfj:Zw p (frAt s k j)=true:=all_getD hall hj
  refine ⟨hfj,?_⟩
  obtain ⟨⟨q1,q2⟩,_,_,q3⟩:=Ki hfj
  have hle:=(hgt_le hp (k:=(frAt s k j).fn.toNat) (by omega) (frAt s k j).at_.toNat).2
  have hle':hAt p (frAt s k j)≤8:=hle
  by_cases hjl:j + 1 < (Za s k).frames.length
  ·have:=jwaits_at _ j hjw hjl
   have h2:((frAt s k j).stack.length:Int)=hAt p (frAt s k j) - 1:=this
   omega
  ·have ht:t=frAt s k j:=by
    rw [List.getLast?_eq_getElem?] at hlast
    have hj2:j=(Za s k).frames.length - 1:=by omega
    unfold frAt
    rw [hj2]
    simp [List.getD,hlast]
   subst ht
   split at hcond
   ·have:=of_decide_eq_true hcond; omega
   ·split at hcond
    ·unfold waitB at hcond
     simp only [Bool.and_eq_true,decide_eq_true_eq] at hcond
     have:=hcond.1.2
     omega
    ·simp only [Bool.and_eq_true,Bool.or_eq_true] at hcond
     rcases hcond.2 with h1 | h1
     ·unfold Qk at h1
      split at h1
      ·rename_i x hx
       simp only [Bool.and_eq_true,decide_eq_true_eq] at h1
       have:frAt s k j=x:=by unfold frAt; rw [hx] at hj ⊢; simp at hj; rw [hj]; rfl
       rw [this,h1.1.2.2]
       omega
      ·cases h1
     ·unfold waitB at h1
      simp only [Bool.and_eq_true,decide_eq_true_eq] at h1
      have:=h1.1.2
      omega
def Path (fs:List Fb):Int→List Int→Prop
 | n,[]=>n=-1
 | n,x :: r=>n=x∧0≤x∧x < fs.length∧Path fs (Xf fs x) r
theorem path_of_line {fs:List Fb} (hc:∀ b,b∈fs→-1≤b.caller∧b.caller < fs.length):∀ (k:Nat) (n:Int) (acc l:List Int),Xe fs k n acc=some l→-1≤n→n < fs.length→acc.Nodup→∃ r,l=acc++r∧Path fs n r∧l.Nodup
 | 0,_,_,_,h,_,_,_=>by cases h
 | k + 1,n,acc,l,h,h1,h2,hd=>by
  unfold Xe at h
  split at h
  ·obtain rfl:=Option.some.inj h
   exact ⟨[],by simp,by show n=-1; omega,hd⟩
  ·split at h
   ·cases h
   ·rename_i hn hna
    have hc':-1≤Xf fs n∧Xf fs n < fs.length:=hc _ (List.mem_of_getElem? (Zm fs n.toNat Fb.zero (by omega)))
    obtain ⟨r,e,hp,hl⟩:=path_of_line hc k _ _ l h hc'.1 hc'.2 (by
     rw [List.nodup_append]
     refine ⟨hd,by simp,fun a ha b hb e=>?_⟩
     simp only [List.mem_singleton] at hb
     subst hb e
     exact hna ha)
    exact ⟨n :: r,by rw [e]; simp,⟨rfl,by omega,h2,hp⟩,hl⟩
theorem line_of_path {fs:List Fb}:∀ (k:Nat) (n:Int) (acc r:List Int),Path fs n r→(acc++r).Nodup→r.length < k→Xe fs k n acc=some (acc++r)
 | 0,_,_,_,_,_,h=>by omega
 | k + 1,n,acc,[],hp,_,_=>by
  have:n=-1:=hp
  unfold Xe
  rw [if_pos (by omega)]
  simp
 | k + 1,n,acc,x :: r,hp,hd,hk=>by
  obtain ⟨rfl,h0,_,hp'⟩:=hp
  have hna:n ∉ acc:=fun h=>(List.nodup_append.1 hd).2.2 n h n (by simp) rfl
  unfold Xe
  rw [if_neg (by omega),if_neg hna]
  have:=line_of_path k (Xf fs n) (acc++[n]) r hp' (by simpa using hd) (by simpa using hk)
  simpa using this
theorem Path.inside {fs:List Fb}:∀ {n:Int} {l:List Int},Path fs n l→∀ z,z∈l→0≤z∧z < fs.length
 | _,[],_,z,hz=>by cases hz
 | _,x :: r,⟨_,h0,h1,h2⟩,z,hz=>by
  rcases List.mem_cons.1 hz with rfl | hz
  ·exact ⟨h0,h1⟩
  ·exact h2.inside z hz
theorem Path.congr {fs fs':List Fb} (hl:fs.length≤fs'.length):∀ {n:Int} {l:List Int},Path fs n l→(∀ z,z∈l→Xf fs' z=Xf fs z)→Path fs' n l
 | _,[],h,_=>h
 | _,x :: r,⟨h0,h1,h2,h3⟩,hc=>⟨h0,h1,by omega,by rw [hc x (by simp)]; exact h3.congr hl (fun z hz=>hc z (List.mem_cons_of_mem _ hz))⟩
theorem Path.range {fs:List Fb} {n:Int} {l:List Int} (h:Path fs n l):-1≤n∧(n < fs.length∨n=-1):=by
 cases l with
 | nil=>have:n=-1:=h; omega
 | cons x r=>obtain ⟨rfl,h0,h1,_⟩:=h; omega
theorem Path.next {fs:List Fb}:∀ {n:Int} {l:List Int},Path fs n l→∀ z,z∈l→(Xf fs z=-1∧l.getLast?=some z)∨(Xf fs z∈l)
 | _,[],_,z,hz=>by cases hz
 | _,x :: r,⟨_,_,_,h3⟩,z,hz=>by
  rcases List.mem_cons.1 hz with rfl | hz
  ·cases r with
   | nil=>exact .inl ⟨h3,rfl⟩
   | cons y r'=>obtain ⟨h4,_⟩:=h3; right; rw [h4]; simp
  ·rcases h3.next z hz with ⟨h4,h5⟩ | h4
   ·refine .inl ⟨h4,?_⟩
    cases r with
    | nil=>cases hz
    | cons y r'=>rw [List.getLast?_cons_cons]; exact h5
   ·exact .inr (List.mem_cons_of_mem _ h4)
structure Good (p:List Fn) (s:St) (l:List Int):Prop where
 prog:Zx p=0
 n5:s.fibers.length≤5
 o30:s.out.length≤30
 f6:∀ k,k < s.fibers.length→(Za s k).frames.length≤6
 path:Path s.fibers s.now l
 nodup:l.Nodup
 last:l=[]∨l.getLast?=some 0
 pos:0 < s.fibers.length
 main:(0:Int) ∉ l→(Za s 0).frames=[]
 each:∀ k,k < s.fibers.length→Xt p (Za s k) (decide ((k:Int)∈l)) (decide ((k:Int)=s.now))=true
theorem mem_fibAt {s:St} {b:Fb} (h:b∈s.fibers):∃ k,k < s.fibers.length∧Za s k=b:=by
 obtain ⟨k,hk,rfl⟩:=List.getElem_of_mem h
 exact ⟨k,hk,by simp [Za,List.getD,hk]⟩
theorem right_good {p:List Fn} {s:St} (h:Zy p s=0):∃ l,Xm s=some l∧Good p s l:=by
 obtain ⟨hp,hlim,hf⟩:=Km h
 obtain ⟨l,hl,hfib⟩:=right_fiber h
 obtain ⟨h5,h30,h6,hpos,⟨hn1,hn2⟩,hcal⟩:=Kd hlim
 have hl':=hl
 unfold Xm at hl'
 cases hlf:Xe s.fibers (s.fibers.length + 1) s.now [] with
 | none=>rw [hlf] at hl'; cases hl'
 | some l' =>
  rw [hlf] at hl'
  simp only at hl'
  split at hl'
  ·rename_i hlast
   obtain rfl:=Option.some.inj hl'
   obtain ⟨r,e,hpath,hnd⟩:=path_of_line hcal _ _ _ _ hlf hn1 hn2 List.nodup_nil
   rw [List.nil_append] at e
   subst e
   refine ⟨_,hl,hp,h5,h30,fun k hk=>h6 _ (top_mem k hk),hpath,hnd,hlast,hpos,fun h0=>?_,hfib⟩
   unfold formR at hf
   rw [hl] at hf
   simp only [Bool.and_eq_true] at hf
   have:=Jj.1 hf.2 0 hpos
   simp only [Bool.and_eq_true,decide_true,Bool.true_and] at this
   have h2:=this.2
   rw [decide_eq_false h0] at h2
   have h3:(s.fibers.getD 0 Fb.zero).frames.isEmpty=true:=by simpa using h2
   exact List.isEmpty_iff.1 h3
  ·cases hl'
theorem fiberB_off {p:List Fn} {b:Fb} {r:Bool} (h:Xt p b false r=true) (hr:r=false):b.caller=-1:=by
 subst hr
 unfold Xt at h
 split at h
 ·simpa using h
 ·simp only [Bool.and_eq_true,Bool.false_eq_true,if_false,decide_eq_true_eq] at h
  exact h.2.1
theorem Good.head {p:List Fn} {s:St} {l:List Int} (h:Good p s l) (hn:0≤s.now):∃ r,l=s.now :: r:=by
 have hp:=h.path
 cases l with
 | nil=>have:s.now=-1:=hp; omega
 | cons x r=>obtain ⟨h1,_⟩:=hp; exact ⟨r,by rw [h1]⟩
theorem Good.now_mem {p:List Fn} {s:St} {l:List Int} (h:Good p s l) (hn:0≤s.now):s.now∈l:=by
 obtain ⟨r,rfl⟩:=h.head hn; simp
theorem Good.off {p:List Fn} {s:St} {l:List Int} (h:Good p s l) {k:Nat} (hk:k < s.fibers.length) (hm:(k:Int) ∉ l):(Za s k).caller=-1:=by
 have:=h.each k hk
 rw [decide_eq_false hm] at this
 refine fiberB_off this (decide_eq_false fun e=>hm ?_)
 rw [e]; exact h.now_mem (by omega)
theorem Good.caller {p:List Fn} {s:St} {l:List Int} (h:Good p s l) {k:Nat} (hk:k < s.fibers.length):-1≤(Za s k).caller∧(Za s k).caller < s.fibers.length:=by
 by_cases hm:(k:Int)∈l
 ·rcases h.path.next _ hm with ⟨e,_⟩ | e
  ·have:(Za s k).caller=-1:=e
   omega
  ·have h1:=h.path.inside _ e
   have:Xf s.fibers (k:Int)=(Za s k).caller:=rfl
   omega
 ·have:=h.off hk hm
  omega
theorem Good.line {p:List Fn} {s:St} {l:List Int} (h:Good p s l):Xe s.fibers (s.fibers.length + 1) s.now []=some l∧Xm s=some l:=by
 have hlen:l.length≤s.fibers.length:=few h.nodup h.path.inside
 have h1:Xe s.fibers (s.fibers.length + 1) s.now []=some l:=by
  have:=line_of_path (fs:=s.fibers) (s.fibers.length + 1) s.now [] l h.path (by simpa using h.nodup) (by omega)
  simpa using this
 refine ⟨h1,?_⟩
 unfold Xm
 rw [h1]
 simp only
 rw [if_pos h.last]
theorem Good.lim {p:List Fn} {s:St} {l:List Int} (h:Good p s l):limS s=0:=by
 have hr:=h.path.range
 unfold limS
 rw [if_pos ⟨h.n5,h.o30⟩,if_pos,if_pos h.pos,if_pos,if_pos]
 ·rw [List.all_eq_true]
  intro b hb
  obtain ⟨k,hk,rfl⟩:=mem_fibAt hb
  have:=h.caller hk
  rw [inB_iff]; omega
 ·rw [inB_iff]
  have:=h.pos
  rcases hr.2 with h1 | h1 <;> omega
 ·rw [List.all_eq_true]
  intro b hb
  obtain ⟨k,hk,rfl⟩:=mem_fibAt hb
  exact decide_eq_true (h.f6 k hk)
theorem good_right {p:List Fn} {s:St} {l:List Int} (h:Good p s l):Zy p s=0:=by
 unfold Zy
 rw [if_pos h.prog,if_pos h.lim,if_pos]
 unfold formR
 rw [h.line.2]
 simp only [Bool.and_eq_true]
 have hmain:(0:Int) ∉ l→(s.fibers.getD 0 Fb.zero).frames.isEmpty=true:=fun h0=>List.isEmpty_iff.2 (h.main h0)
 constructor
 ·by_cases hn:s.now=-1
  ·have:l=[]:=by
    have hp:=h.path
    cases l with
    | nil=>rfl
    | cons x r=>obtain ⟨h1,h2,_⟩:=hp; omega
   rw [hmain (by rw [this]; simp)]
   simp
  ·rw [decide_eq_false hn]; rfl
 ·rw [Jj]
  intro k hk
  simp only [Bool.and_eq_true]
  refine ⟨h.each k hk,?_⟩
  by_cases h0:k=0
  ·by_cases hm:(0:Int)∈l
   ·rw [decide_eq_true hm]; simp
   ·rw [hmain hm]; simp
  ·rw [decide_eq_false h0]; rfl
theorem jwaits_snoc {p:List Fn}:∀ (l:List Fr) (u t:Fr),Xu p (l++[u,t])=(Xu p (l++[u]) && Xp p u (11,t.fn))
 | [],u,t=>by simp [Xu]
 | [x],u,t=>by simp [Xu]
 | x :: y :: l,u,t=>by
  have:=jwaits_snoc (p:=p) (y :: l) u t
  simp only [List.cons_append,Xu] at this ⊢
  rw [this,Bool.and_assoc]
theorem jwaits_top {p:List Fn} (l:List Fr) (t t':Fr) (h:t'.fn=t.fn):Xu p (l++[t'])=Xu p (l++[t]):=by
 rcases List.eq_nil_or_concat l with rfl | ⟨l',u,rfl⟩
 ·rfl
 ·simp only [List.concat_eq_append,List.append_assoc,List.cons_append,List.nil_append]
  rw [jwaits_snoc,jwaits_snoc,h]
def FrsG (p:List Fn) (fs:List Fr) (t:Fr):Prop:=(∀ f,f∈fs→Zw p f=true)∧Zw p t=true∧Xu p (fs++[t])=true
theorem FrsG.bool {p:List Fn} {fs:List Fr} {t:Fr}:Jg p (fs++[t])=true↔FrsG p fs t:=by
 rw [framesB_iff]
 unfold FrsG
 simp only [List.all_append,List.all_cons,List.all_nil,Bool.and_true,Bool.and_eq_true,List.all_eq_true]
 exact and_assoc
theorem FrsG.turn {p:List Fn} {fs:List Fr} {t t':Fr} (h:FrsG p fs t) (ht:Zw p t'=true) (hf:t'.fn=t.fn):FrsG p fs t':=⟨h.1,ht,by rw [jwaits_top _ _ _ hf]; exact h.2.2⟩
theorem FrsG.push {p:List Fn} {fs:List Fr} {t u:Fr} (h:FrsG p fs t) (hw:Xp p t (11,u.fn)=true) (hu:Zw p u=true):FrsG p (fs++[t]) u:=by
 refine ⟨fun f hf=>?_,hu,?_⟩
 ·rcases List.mem_append.1 hf with hf | hf
  ·exact h.1 f hf
  ·rw [List.mem_singleton.1 hf]; exact h.2.1
 ·rw [List.append_assoc]
  show Xu p (fs++[t,u])=true
  rw [jwaits_snoc,h.2.2,hw]; rfl
theorem FrsG.pop {p:List Fn} {fs:List Fr} {t u:Fr} (h:FrsG p (fs++[t]) u):FrsG p fs t∧Xp p t (11,u.fn)=true:=by
 obtain ⟨h1,_,h3⟩:=h
 rw [List.append_assoc] at h3
 have h3':Xu p (fs++[t,u])=true:=h3
 rw [jwaits_snoc,Bool.and_eq_true] at h3'
 exact ⟨⟨fun f hf=>h1 f (by simp [hf]),h1 t (by simp),h3'.1⟩,h3'.2⟩
theorem Kc {p:List Fn} {fs:List Fr} {t:Fr} {c:Int} {on runs:Bool}:Xt p ⟨fs++[t],c⟩ on runs=true↔FrsG p fs t ∧
  (if runs=true then (t.stack.length:Int)=hAt p t else if on=true then waitB p t 14 0=true else c=-1∧(Qk p ⟨fs++[t],c⟩=true∨waitB p t 15 0=true)):=by
 unfold Xt
 simp only [List.getLast?_append,List.getLast?_singleton,Option.some_or,Bool.and_eq_true,FrsG.bool]
 cases runs <;> cases on <;> simp
theorem fiber_none {p:List Fn} {c:Int} {on runs:Bool}:Xt p ⟨[],c⟩ on runs=true↔on=false∧c=-1:=by
 unfold Xt
 simp
theorem Fb.form (b:Fb):b=⟨[],b.caller⟩∨∃ fs t,b=⟨fs++[t],b.caller⟩:=by
 rcases List.eq_nil_or_concat b.frames with h | ⟨fs,t,h⟩
 ·left; rw [← h]
 ·right; exact ⟨fs,t,by rw [List.concat_eq_append] at h; rw [← h]⟩
theorem Good.on {p:List Fn} {s:St} {l:List Int} (h:Good p s l) {k:Nat} (hk:(k:Int)∈l):∃ fs t,Za s k=⟨fs++[t],(Za s k).caller⟩:=by
 rcases Fb.form (Za s k) with e | e
 ·have:=h.each k (by have:=h.path.inside _ hk; omega)
  rw [e,fiber_none,decide_eq_true hk] at this
  cases this.1
 ·exact e
end Go.Proofs.YtblihfpigjiahaaGreatDoor
namespace Go.Proofs.YtblihfpigjiahaaGreatDoor
theorem Qi (s:St) (n:Nat) (a b:Fb):Zf (Zf s n a) n b=Zf s n b:=by simp [Zf]
structure Tops (s:St) (n:Nat) (fs:List Fr) (t:Fr) (c:Int):Prop where
 lt:n < s.fibers.length
 eq:Za s n=⟨fs++[t],c⟩
theorem Tops.set {s:St} {n:Nat} {fs:List Fr} {t:Fr} {c:Int} (h:Tops s n fs t c) (gs:List Fr) (u:Fr) (d:Int):Tops (Zf s n ⟨gs++[u],d⟩) n gs u d :=
 ⟨by rw [Zv]; exact h.lt,Xi _ h.lt⟩
theorem Ks {s:St} {n:Nat} {fs:List Fr} {t:Fr} {c:Int} (h:Tops s n fs t c) (g:Fr→Fr):s.turnTop (n:Int) g=Zf s n ⟨fs++[g t],c⟩:=by
 unfold St.turnTop
 rw [Qy,h.eq]
 unfold Fb.turnTop Fb.top
 simp
theorem top_form {s:St} {n:Nat} {fs:List Fr} {t:Fr} {c:Int} (h:Tops s n fs t c) (hn:s.now=n):s.top=t:=by
 unfold St.top
 rw [hn,Qp,h.eq]
 simp [Fb.top]
def Fr.stk (t:Fr) (l:List Int):Fr:=⟨t.fn,t.at_,t.locals,l⟩
theorem push_form {s:St} {n:Nat} {fs:List Fr} {t:Fr} {c:Int} (h:Tops s n fs t c) (v:Int):Zp s n v=Zf s n ⟨fs++[t.stk (t.stack++[v])],c⟩:=Ks h _
theorem Ke {s:St} {n:Nat} {fs:List Fr} {t:Fr} {c:Int} (h:Tops s n fs t c) (hn:s.now=n):Zc s=Zf s n ⟨fs++[t.stk t.stack.dropLast],c⟩:=by
 unfold Zc; rw [hn,Ks h]; rfl
theorem setAt_form {s:St} {n:Nat} {fs:List Fr} {t:Fr} {c:Int} (h:Tops s n fs t c) (hn:s.now=n) (a:Int):setAt s a=Zf s n ⟨fs++[{ t with at_:=a }],c⟩:=by
 unfold setAt; rw [hn,Ks h]
theorem last_form {s:St} {n:Nat} {fs:List Fr} {t:Fr} {c:Int} (h:Tops s n fs t c) (hn:s.now=n):Zh s=t.stack.getLast?.getD 0:=by
 unfold Zh; rw [top_form h hn]
structure Op (p:List Fn) (s:St) (n:Nat) (fs:List Fr) (t:Fr) (c:Int) (kd a:Int):Prop where
 tops:Tops s n fs t c
 now:s.now=n
 op:(Zu p t.fn.toNat).getD t.at_.toNat (0,0)=(kd,a)
def Fr.on (t:Fr):Fr:=⟨t.fn,t.at_ + 1,t.locals,t.stack⟩
section
variable {p:List Fn} {s:St} {n:Nat} {fs:List Fr} {t:Fr} {c:Int} {kd a:Int}
theorem Op.next (h:Op p s n fs t c kd a):setAt s (s.top.at_ + 1)=Zf s n ⟨fs++[t.on],c⟩:=by
 rw [setAt_form h.tops h.now,top_form h.tops h.now]; rfl
theorem Kb (h:Op p s n fs t c kd a) {s1:St} (h1:Zf s n ⟨fs++[t.on],c⟩=s1):Zr p s =
  (if kd=0 then (Zp s1 n a,0)
   else if kd=1 then (Zc s1,0)
   else if kd=2 then (Zp s1 n (t.locals.getD a.toNat 0),0)
   else if kd=3 then ((Zc s1).turnTop n fun f=>{ f with locals:=f.locals.set a.toNat (Zh s1) },0)
   else if kd=9 then (setAt s1 a,0)
   else if kd=10 then (if Zh s1=0 then setAt (Zc s1) a else Zc s1,0)
   else if kd=11 then calledS p s1 a
   else if kd=12 then givenS s1
   else if kd=13 then madeS p s1 a
   else if kd=14 then Jo s1
   else if kd=15 then Je s1
   else if kd=16 then putS (Zc s1) (Zh s1)
   else (Zp (Zc (Zc s1)) n (Qd kd (Zh (Zc s1)) (Zh s1)),0)):=by
 have ht:s.top=t:=top_form h.tops h.now
 have hnow:s1.now=n:=by rw [← h1]; exact h.now
 have htop:s1.top=t.on:=by rw [← h1]; exact top_form (h.tops.set fs t.on c) h.now
 unfold Zr
 simp only
 rw [h.next,ht,h.op,h1]
 simp only [hnow,htop]
 rfl
theorem done_stay (h:Op p s n fs t c kd a) (h0:0≤kd) (h10:kd≤10) {ta lb:Int} (he:effS p kd a=(ta,lb,0)) (hst:ta≤t.stack.length) (hat:0≤t.at_) (ha:kd=9∨kd=10→0≤a) :
  ∃ t' j,Zr p s=(Zf s n ⟨fs++[t'],c⟩,0)∧t'.fn=t.fn∧t'.locals.length=t.locals.length∧(t'.stack.length:Int)=t.stack.length - ta + lb∧j∈Xg (kd,a) t.at_.toNat∧t'.at_=(j:Int):=by
 have hT:=h.tops.set fs t.on c
 have hN:(Zf s n ⟨fs++[t.on],c⟩).now=n:=h.now
 have hat':t.on.at_=((t.at_.toNat + 1:Nat):Int):=by show t.at_ + 1=_; omega
 have hP:=Ke hT hN
 have hT2:=hT.set fs (t.on.stk (t.on.stack.dropLast)) c
 rw [← hP] at hT2
 have hN2:(Zc (Zf s n ⟨fs++[t.on],c⟩)).now=n:=by rw [hP]; exact h.now
 rw [Kb h rfl]
 have hstk:t.on.stack=t.stack:=rfl
 have hloc:t.on.locals=t.locals:=rfl
 have heff:kd≠11→ta=tk kd.toNat∧lb=lv kd.toNat:=fun hk=>by
  unfold effS at he
  rw [if_pos (by omega),if_neg hk] at he
  simp only [Prod.mk.injEq] at he
  exact ⟨he.1.symm,he.2.1.symm⟩
 obtain ⟨hta,hlb⟩:=heff (by omega)
 have hnext:kd≠9→kd≠10→Xg (kd,a) t.at_.toNat=[t.at_.toNat + 1]:=fun h1 h2=>by
  unfold Xg; simp only; rw [if_neg (by omega),if_neg h1,if_neg h2]
 by_cases k0:kd=0
 ·subst k0
  rw [if_pos rfl,push_form hT,Qi]
  refine ⟨_,_,rfl,rfl,rfl,?_,by rw [hnext (by omega) (by omega)]; exact List.mem_singleton.2 rfl,hat'⟩
  have h1:ta=0:=hta
  have h2:lb=1:=hlb
  simp only [Fr.stk,List.length_append,List.length_singleton,hstk]; omega
 rw [if_neg k0]
 by_cases k1:kd=1
 ·subst k1
  rw [if_pos rfl,hP,Qi]
  refine ⟨_,_,rfl,rfl,rfl,?_,by rw [hnext (by omega) (by omega)]; exact List.mem_singleton.2 rfl,hat'⟩
  have h1:ta=1:=hta
  have h2:lb=0:=hlb
  simp only [Fr.stk,List.length_dropLast,hstk]; omega
 rw [if_neg k1]
 by_cases k2:kd=2
 ·subst k2
  rw [if_pos rfl,push_form hT,Qi]
  refine ⟨_,_,rfl,rfl,rfl,?_,by rw [hnext (by omega) (by omega)]; exact List.mem_singleton.2 rfl,hat'⟩
  have h1:ta=0:=hta
  have h2:lb=1:=hlb
  simp only [Fr.stk,List.length_append,List.length_singleton,hstk]; omega
 rw [if_neg k2]
 by_cases k3:kd=3
 ·subst k3
  rw [if_pos rfl,Ks hT2,hP,Qi,Qi]
  refine ⟨_,_,rfl,rfl,by simp [Fr.stk,hloc],?_,by rw [hnext (by omega) (by omega)]; exact List.mem_singleton.2 rfl,hat'⟩
  have h1:ta=1:=hta
  have h2:lb=0:=hlb
  simp only [Fr.stk,List.length_dropLast,hstk]; omega
 rw [if_neg k3]
 by_cases k9:kd=9
 ·subst k9
  rw [if_pos rfl,setAt_form hT hN,Qi]
  have h1:ta=0:=hta
  have h2:lb=0:=hlb
  have:=ha (.inl rfl)
  refine ⟨_,a.toNat,rfl,rfl,rfl,?_,by simp [Xg],by show a=_; omega⟩
  simp only [hstk]; omega
 rw [if_neg k9]
 by_cases k10:kd=10
 ·subst k10
  have h1:ta=1:=hta
  have h2:lb=0:=hlb
  have:=ha (.inr rfl)
  rw [if_pos rfl]
  split
  ·rw [setAt_form hT2 hN2,hP,Qi,Qi]
   refine ⟨_,a.toNat,rfl,rfl,rfl,?_,by simp [Xg],by show a=_; omega⟩
   simp only [Fr.stk,List.length_dropLast,hstk]; omega
  ·rw [hP,Qi]
   refine ⟨_,t.at_.toNat + 1,rfl,rfl,rfl,?_,by simp [Xg],hat'⟩
   simp only [Fr.stk,List.length_dropLast,hstk]; omega
 rw [if_neg k10,if_neg (by omega),if_neg (by omega),if_neg (by omega),if_neg (by omega),if_neg (by omega),if_neg (by omega)]
 have hP2:=Ke hT2 hN2
 have hT3:=hT2.set fs ((t.on.stk t.on.stack.dropLast).stk (t.on.stk t.on.stack.dropLast).stack.dropLast) c
 rw [← hP2] at hT3
 rw [push_form hT3,hP2,hP]
 simp only [Qi]
 refine ⟨_,_,rfl,rfl,rfl,?_,by rw [hnext k9 k10]; exact List.mem_singleton.2 rfl,hat'⟩
 have h3:ta=2∧lb=1:=by
  have:kd=4∨kd=5∨kd=6∨kd=7∨kd=8:=by omega
  rcases this with rfl | rfl | rfl | rfl | rfl <;> exact ⟨hta,hlb⟩
 simp only [Fr.stk,List.length_append,List.length_singleton,List.length_dropLast,hstk]; omega
theorem goes_call (h:Op p s n fs t c 11 a):Zr p s=if fs.length + 1=6 then (St.zero,2) else
  (Zf s n ⟨fs++[(t.on.stk (t.stack.take (t.stack.length - (p.getD a.toNat Fn.zero).args.toNat)))]++[Qg p a (t.stack.drop (t.stack.length - (p.getD a.toNat Fn.zero).args.toNat))],c⟩,0):=by
 have hT:=h.tops.set fs t.on c
 have hN:(Zf s n ⟨fs++[t.on],c⟩).now=n:=h.now
 rw [Kb h rfl]
 simp only [show ¬ ((11:Int)=0) by omega,show ¬ ((11:Int)=1) by omega,show ¬ ((11:Int)=2) by omega,show ¬ ((11:Int)=3) by omega,show ¬ ((11:Int)=9) by omega,show ¬ ((11:Int)=10) by omega,if_false,if_true]
 unfold calledS
 simp only [hN,top_form hT hN,Ks hT,Qp,Qy]
 rw [Qi,Xi _ h.tops.lt]
 simp only [List.length_append,List.length_singleton]
 split
 ·rfl
 ·rw [Qi]; rfl
theorem stack_one {l:List Int} (h:0 < l.length):∃ st v,l=st++[v]:=by
 rcases List.eq_nil_or_concat l with rfl | ⟨st,v,e⟩
 ·simp at h
 ·exact ⟨st,v,by rw [e,List.concat_eq_append]⟩
theorem stack_two {l:List Int} (h:2≤l.length):∃ st x v,l=st++[x,v]:=by
 obtain ⟨st,v,rfl⟩:=stack_one (l:=l) (by omega)
 simp only [List.length_append,List.length_singleton] at h
 obtain ⟨st',x,rfl⟩:=stack_one (l:=st) (by omega)
 exact ⟨st',x,v,by simp⟩
theorem done_return_in {gs:List Fr} {u:Fr} (h:Op p s n (gs++[u]) t c 12 a) {st:List Int} {v:Int} (hst:t.stack=st++[v]):Zr p s=(Zf s n ⟨gs++[(u.stk (u.stack++[v]))],c⟩,0):=by
 have hT:=h.tops.set (gs++[u]) t.on c
 have hN:(Zf s n ⟨gs++[u]++[t.on],c⟩).now=n:=h.now
 have hv:t.on.stack=st++[v]:=hst
 rw [Kb h rfl]
 simp only [show ¬ ((12:Int)=0) by omega,show ¬ ((12:Int)=1) by omega,show ¬ ((12:Int)=2) by omega,show ¬ ((12:Int)=3) by omega,show ¬ ((12:Int)=9) by omega,show ¬ ((12:Int)=10) by omega,show ¬ ((12:Int)=11) by omega,if_false,if_true]
 unfold givenS
 simp only [hN,last_form hT hN,Ke hT hN,Qp,Qy,hv,List.getLast?_append,List.getLast?_singleton,Option.some_or,Option.getD_some]
 simp only [Qi,Xi _ h.tops.lt]
 simp only [List.dropLast_concat]
 rw [if_neg (by simp)]
 have hT2:=h.tops.set gs u c
 rw [push_form hT2,Qi]
theorem done_return_end (h:Op p s n [] t c 12 a) {st:List Int} {v:Int} (hst:t.stack=st++[v]) (hc:c < 0):Zr p s=putS { Zf s n ⟨[],c⟩ with now:=-1 } v:=by
 have hT:=h.tops.set [] t.on c
 have hN:(Zf s n ⟨[]++[t.on],c⟩).now=n:=h.now
 have hv:t.on.stack=st++[v]:=hst
 rw [Kb h rfl]
 simp only [show ¬ ((12:Int)=0) by omega,show ¬ ((12:Int)=1) by omega,show ¬ ((12:Int)=2) by omega,show ¬ ((12:Int)=3) by omega,show ¬ ((12:Int)=9) by omega,show ¬ ((12:Int)=10) by omega,show ¬ ((12:Int)=11) by omega,if_false,if_true]
 unfold givenS
 simp only [hN,last_form hT hN,Ke hT hN,Qp,Qy,hv,List.getLast?_append,List.getLast?_singleton,Option.some_or,Option.getD_some]
 simp only [Qi,Xi _ h.tops.lt]
 simp [hc]
theorem fibAt_set2 {s:St} {n m:Nat} (hne:n≠m) (b:Fb):Za (Zf s n b) m=Za s m:=Xr b hne
theorem done_return_on (h:Op p s n [] t c 12 a) {st:List Int} {v:Int} (hst:t.stack=st++[v]) {m:Nat} (hc:c=m) (hne:n≠m) {gs:List Fr} {u:Fr} {d:Int} (hm:Tops s m gs u d) :
  Zr p s=({ Zf (Zf s n ⟨[],-1⟩) m ⟨gs++[(u.stk (u.stack++[v]))],d⟩ with now:=m },0):=by
 have hT:=h.tops.set [] t.on c
 have hN:(Zf s n ⟨[]++[t.on],c⟩).now=n:=h.now
 have hv:t.on.stack=st++[v]:=hst
 rw [Kb h rfl]
 simp only [show ¬ ((12:Int)=0) by omega,show ¬ ((12:Int)=1) by omega,show ¬ ((12:Int)=2) by omega,show ¬ ((12:Int)=3) by omega,show ¬ ((12:Int)=9) by omega,show ¬ ((12:Int)=10) by omega,show ¬ ((12:Int)=11) by omega,if_false,if_true]
 unfold givenS
 simp only [hN,last_form hT hN,Ke hT hN,Qp,Qy,hv,List.getLast?_append,List.getLast?_singleton,Option.some_or,Option.getD_some]
 simp only [Qi,Xi _ h.tops.lt]
 rw [if_pos (by simp),if_neg (by omega)]
 simp only [hc]
 have hT2:Tops { Zf s n ⟨[],-1⟩ with now:=(m:Int) } m gs u d:=⟨by show m < (Zf s n ⟨[],-1⟩).fibers.length; rw [Zv]; exact hm.lt,(fibAt_set2 hne _).trans hm.eq⟩
 have:=push_form hT2 v
 simp only [List.nil_append,List.dropLast_singleton] at this ⊢
 rw [this]
 rfl
theorem goes_make (h:Op p s n fs t c 13 a):Zr p s=if s.fibers.length=5 then (St.zero,2) else
  ({ s with fibers:=(Zf s n ⟨fs++[(t.on.stk (t.stack++[(s.fibers.length:Int)]))],c⟩).fibers++[⟨[Qg p a []],-1⟩] },0):=by
 have hT:=h.tops.set fs t.on c
 have hN:(Zf s n ⟨fs++[t.on],c⟩).now=n:=h.now
 rw [Kb h rfl]
 simp only [show ¬ ((13:Int)=0) by omega,show ¬ ((13:Int)=1) by omega,show ¬ ((13:Int)=2) by omega,show ¬ ((13:Int)=3) by omega,show ¬ ((13:Int)=9) by omega,show ¬ ((13:Int)=10) by omega,show ¬ ((13:Int)=11) by omega,show ¬ ((13:Int)=12) by omega,if_false,if_true]
 unfold madeS
 rw [hN,Zv,push_form hT,Qi]
 rfl
theorem goes_yield (h:Op p s n fs t c 15 a) (hc:c < 0):Zr p s=(St.zero,7):=by
 have hT:=h.tops.set fs t.on c
 have hN:(Zf s n ⟨fs++[t.on],c⟩).now=n:=h.now
 rw [Kb h rfl]
 simp only [show ¬ ((15:Int)=0) by omega,show ¬ ((15:Int)=1) by omega,show ¬ ((15:Int)=2) by omega,show ¬ ((15:Int)=3) by omega,show ¬ ((15:Int)=9) by omega,show ¬ ((15:Int)=10) by omega,show ¬ ((15:Int)=11) by omega,show ¬ ((15:Int)=12) by omega,show ¬ ((15:Int)=13) by omega,show ¬ ((15:Int)=14) by omega,if_false,if_true]
 unfold Je
 simp only [hN,Ke hT hN,Qp]
 rw [Qi,Xi _ h.tops.lt,if_pos hc]
theorem done_yield_on (h:Op p s n fs t c 15 a) {st:List Int} {v:Int} (hst:t.stack=st++[v]) {m:Nat} (hc:c=m) (hne:n≠m) {gs:List Fr} {u:Fr} {d:Int} (hm:Tops s m gs u d) :
  Zr p s=({ Zf (Zf s n ⟨fs++[(t.on.stk (st))],-1⟩) m ⟨gs++[(u.stk (u.stack++[v]))],d⟩ with now:=m },0):=by
 have hT:=h.tops.set fs t.on c
 have hN:(Zf s n ⟨fs++[t.on],c⟩).now=n:=h.now
 have hv:t.on.stack=st++[v]:=hst
 rw [Kb h rfl]
 simp only [show ¬ ((15:Int)=0) by omega,show ¬ ((15:Int)=1) by omega,show ¬ ((15:Int)=2) by omega,show ¬ ((15:Int)=3) by omega,show ¬ ((15:Int)=9) by omega,show ¬ ((15:Int)=10) by omega,show ¬ ((15:Int)=11) by omega,show ¬ ((15:Int)=12) by omega,show ¬ ((15:Int)=13) by omega,show ¬ ((15:Int)=14) by omega,if_false,if_true]
 unfold Je
 simp only [hN,last_form hT hN,Ke hT hN,Qp,Qy,hv,List.getLast?_append,List.getLast?_singleton,Option.some_or,Option.getD_some,List.dropLast_concat]
 simp only [Qi,Xi _ h.tops.lt]
 rw [if_neg (by omega)]
 simp only [hc]
 have hT2:Tops { Zf s n ⟨fs++[(t.on.stk (st))],-1⟩ with now:=(m:Int) } m gs u d:=⟨by show m < (Zf s n _).fibers.length; rw [Zv]; exact hm.lt,(fibAt_set2 hne _).trans hm.eq⟩
 have:=push_form hT2 v
 rw [this]
 rfl
theorem goes_put (h:Op p s n fs t c 16 a) {st:List Int} {v:Int} (hst:t.stack=st++[v]):Zr p s=putS (Zf s n ⟨fs++[(t.on.stk (st))],c⟩) v:=by
 have hT:=h.tops.set fs t.on c
 have hN:(Zf s n ⟨fs++[t.on],c⟩).now=n:=h.now
 have hv:t.on.stack=st++[v]:=hst
 rw [Kb h rfl]
 simp only [show ¬ ((16:Int)=0) by omega,show ¬ ((16:Int)=1) by omega,show ¬ ((16:Int)=2) by omega,show ¬ ((16:Int)=3) by omega,show ¬ ((16:Int)=9) by omega,show ¬ ((16:Int)=10) by omega,show ¬ ((16:Int)=11) by omega,show ¬ ((16:Int)=12) by omega,show ¬ ((16:Int)=13) by omega,show ¬ ((16:Int)=14) by omega,show ¬ ((16:Int)=15) by omega,if_false,if_true]
 rw [last_form hT hN,Ke hT hN,Qi,hv]
 simp
def Fr.got (u:Fr) (v:Int):Fr:=if u.at_=0 then ⟨u.fn,u.at_,u.locals.set 0 v,u.stack⟩ else u.stk (u.stack++[v])
theorem goes_resume (h:Op p s n fs t c 14 a) {st:List Int} {x v:Int} (hst:t.stack=st++[x,v]) :
  Zr p s=if ixB x s.fibers.length=true then (if x∈(Xe s.fibers (s.fibers.length + 1) s.now []).getD []∨(Za (Zf s n ⟨fs++[(t.on.stk (st))],c⟩) x.toNat).frames=[] then (St.zero,6) else
   ({ (Zf (Zf s n ⟨fs++[(t.on.stk (st))],c⟩) x.toNat ((⟨(Za (Zf s n ⟨fs++[(t.on.stk (st))],c⟩) x.toNat).frames,n⟩:Fb).turnTop fun u=>u.got v)) with now:=x },0)) else (St.zero,5):=by
 have hT:=h.tops.set fs t.on c
 have hN:(Zf s n ⟨fs++[t.on],c⟩).now=n:=h.now
 have hv:t.on.stack=st++[x,v]:=hst
 have hd:(st++[x,v]).dropLast=st++[x]:=by
  have:st++[x,v]=(st++[x])++[v]:=by simp
  rw [this,List.dropLast_concat]
 have hP:=Ke hT hN
 rw [Qi,hv,hd] at hP
 have hT2:Tops (Zc (Zf s n ⟨fs++[t.on],c⟩)) n fs (t.on.stk (st++[x])) c:=by rw [hP]; exact h.tops.set _ _ _
 have hN2:(Zc (Zf s n ⟨fs++[t.on],c⟩)).now=n:=by rw [hP]; exact h.now
 have hP2:=Ke hT2 hN2
 rw [hP,Qi,show (t.on.stk (st++[x])).stack.dropLast=st from List.dropLast_concat,show (t.on.stk (st++[x])).stk st=t.on.stk st from rfl] at hP2
 rw [Kb h rfl]
 simp only [show ¬ ((14:Int)=0) by omega,show ¬ ((14:Int)=1) by omega,show ¬ ((14:Int)=2) by omega,show ¬ ((14:Int)=3) by omega,show ¬ ((14:Int)=9) by omega,show ¬ ((14:Int)=10) by omega,show ¬ ((14:Int)=11) by omega,show ¬ ((14:Int)=12) by omega,show ¬ ((14:Int)=13) by omega,if_false,if_true]
 unfold Jo
 have hl1:Zh (Zf s n ⟨fs++[t.on],c⟩)=v:=by rw [last_form hT hN,hv]; simp
 have hl2:Zh (Zc (Zf s n ⟨fs++[t.on],c⟩))=x:=by rw [last_form hT2 hN2,show (t.on.stk (st++[x])).stack=st++[x] from rfl]; simp
 simp only [hl1,hl2]
 rw [hP,hP2]
 have hline:∀ k z acc,Xe (Zf s n ⟨fs++[(t.on.stk (st))],c⟩).fibers k z acc=Xe s.fibers k z acc:=fun k z acc=>lineF_congr (fun y=>by
  show (Za (Zf s n _) y.toNat).caller=(Za s y.toNat).caller
  by_cases e:n=y.toNat
  ·rw [← e,Xi _ h.tops.lt,h.tops.eq]
  ·rw [Xr _ e]) k z acc
 have hnow:(Zf s n ⟨fs++[(t.on.stk (st))],c⟩).now=s.now:=rfl
 rw [hline,hnow,Zv]
 generalize hs1:Zf s n ⟨fs++[(t.on.stk (st))],c⟩=s1
 have hs1n:s1.now=n:=by rw [← hs1]; exact h.now
 split
 ·rename_i hix
  obtain ⟨hx0,hx1⟩:=Qb.1 hix
  obtain ⟨m,rfl⟩:∃ m:Nat,x=m:=⟨x.toNat,by omega⟩
  simp only [Qp,Int.toNat_natCast]
  split
  ·rfl
  ·rename_i hne
   simp only [Qy]
   have hfr:(Za s1 m).frames≠[]:=fun e=>hne (.inr e)
   obtain ⟨gs,u,hgu⟩:∃ gs u,(Za s1 m).frames=gs++[u]:=by
    rcases List.eq_nil_or_concat (Za s1 m).frames with e | ⟨gs,u,e⟩
    ·exact absurd e hfr
    ·exact ⟨gs,u,by rw [e,List.concat_eq_append]⟩
   have hml:m < s1.fibers.length:=by rw [← hs1,Zv]; omega
   have hT3:Tops { Zf s1 m { Za s1 m with caller:=s.now } with now:=(m:Int) } m gs u s.now:=⟨by show m < (Zf s1 m _).fibers.length; rw [Zv]; exact hml,by
    show Za (Zf s1 m _) m=_
    rw [Xi _ hml,← hgu]⟩
   rw [top_form hT3 rfl,Ks hT3,push_form hT3,hgu]
   unfold Fb.turnTop Fb.top Fr.got
   rw [h.now]
   simp only [List.getLast?_append,List.getLast?_singleton,Option.some_or,Option.getD_some,List.length_append,List.length_singleton]
   split <;> simp [Zf,Fr.stk]
 ·rfl
end
end Go.Proofs.YtblihfpigjiahaaGreatDoor
