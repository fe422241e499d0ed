/- StateLp, StateTq, GoodA, GoodB -/
import Derived.Test.YtogcfkmekdpmmaaDoorFB13
import Derived.Test.YtogcfkmekdpmmaaDoorFB11
set_option maxRecDepth 100000
set_option maxHeartbeats 8000000
namespace Go.Proofs.YtogcfkmekdpmmaaDoor
theorem right_code {p:List Fn} (h:progS p=0) {k:Nat} (hk:k < p.length):Right p (codeOf p k):=by
 obtain ⟨_,_,hck⟩:=progS_right h
 obtain ⟨_,_,hops⟩:=chkS_ops (hck k hk)
 exact ⟨p.getD k Fn.zero,rfl,fun x hx=>opsS_all hops x hx⟩
theorem cons_code {p:List Fn} (h:progS p=0) {k:Nat} (hk:k < p.length):Cons p (codeOf p k) (hgt p k)∧Sound p (codeOf p k) (hgt p k) :=
 heightsS_ok (right_code h hk) (progS_heights h hk)
theorem hgt_le {p:List Fn} (h:progS p=0) {k:Nat} (hk:k < p.length) (a:Nat):-1≤(hgt p k).getD a 0∧(hgt p k).getD a 0≤8:=by
 by_cases ha:a < (hgt p k).length
 ·obtain ⟨hc,hs⟩:=cons_code h hk
  rcases hs a (by rw [← hc.len]; exact ha) with e | ⟨h0,hr⟩
  ·omega
  ·have:=hr (fun _ z=>z≤8) (by omega) (fun k' z x m j _ hx hm _=>(beh_nonneg (right_code h hk) (List.mem_of_getElem? hx) hm).2)
   exact ⟨by omega,this⟩
 ·simp [List.getD,List.getElem?_eq_none (by omega:(hgt p k).length≤a)]
theorem bare_of {p:List Fn} (h:progS p=0):Bare p:=by
 intro k i x hx hk
 by_cases hkl:k < p.length
 ·obtain ⟨_,_,hck⟩:=progS_right h
  obtain ⟨_,_,hops⟩:=chkS_ops (hck k hkl)
  obtain ⟨_,_,hm⟩:=opS_kind (opsS_all hops x (List.mem_of_getElem? hx))
  have ho:opd x.1.toNat=0:=by rcases hk with e | e <;> rw [e] <;> rfl
  rw [ho] at hm
  simpa [mayB] using hm
 ·have:codeOf p k=[]:=by
   unfold codeOf
   simp [List.getD,List.getElem?_eq_none (by omega:p.length≤k),Fn.zero]
  rw [this] at hx
  simp at hx
theorem right_parts {p:List Fn} {s:St} (h:stErrS p s=0):progS p=0∧limS s=0∧formR p s=true:=by
 unfold stErrS at h
 split at h
 ·rename_i h1
  split at h
  ·rename_i h2
   split at h
   ·rename_i h3; exact ⟨h1,h2,h3⟩
   ·cases h
  ·rename_i h2; exact absurd h h2
 ·rename_i h1; exact absurd h h1
theorem right_fiber {p:List Fn} {s:St} (h:stErrS p s=0):∃ l,lineS s=some l∧∀ k,k < s.fibers.length→fiberB p (fibAt s k) (decide ((k:Int)∈l)) (decide ((k:Int)=s.now))=true:=by
 obtain ⟨_,_,h3⟩:=right_parts h
 unfold formR at h3
 cases hl:lineS s with
 | none=>rw [hl] at h3; cases h3
 | some l =>
  rw [hl] at h3
  simp only [Bool.and_eq_true] at h3
  refine ⟨l,rfl,fun k hk=>?_⟩
  have:=all_range.1 h3.2 k hk
  simp only [Bool.and_eq_true] at this
  exact this.1
theorem jwaits_at {p:List Fn}:∀ (l:List Fr) (j:Nat),jwaitsB p l=true→j + 1 < l.length→((l.getD j Fr.zero).stack.length:Int)=hAt p (l.getD j Fr.zero) - 1
 | [],j,_,hj=>by simp at hj
 | [x],j,_,hj=>by simp at hj
 | x :: y :: r,0,h,_=>by
  simp only [jwaitsB,Bool.and_eq_true] at h
  obtain ⟨h1,_⟩:=h
  unfold jwaitB at h1
  simp only [Bool.and_eq_true,decide_eq_true_eq] at h1
  exact h1.1.2
 | x :: y :: r,j + 1,h,hj=>by
  simp only [jwaitsB,Bool.and_eq_true] at h
  exact jwaits_at (y :: r) j h.2 (by simpa using hj)
theorem frame_parts {p:List Fn} {x:Fr} (h:frameB p x=true):(0≤x.fn∧x.fn < p.length)∧(x.locals.length:Int)=(p.getD x.fn.toNat Fn.zero).locals∧(0≤x.at_∧x.at_ < (codeOf p x.fn.toNat).length)∧0≤hAt p x:=by
 unfold frameB at h
 simp only [Bool.and_eq_true,decide_eq_true_eq] at h
 obtain ⟨h1,h2,h3,h4⟩:=h
 exact ⟨ixB_iff.1 h1,h2,ixB_iff.1 h3,h4⟩
theorem right_frame {p:List Fn} {s:St} (h:stErrS p s=0) {k j:Nat} (hk:k < s.fibers.length) (hj:j < (fibAt s k).frames.length) :
  frameB p (frAt s k j)=true∧(frAt s k j).stack.length≤8:=by
 obtain ⟨hp,_,_⟩:=right_parts h
 obtain ⟨l,_,hf⟩:=right_fiber h
 have hfk:=hf k hk
 unfold fiberB at hfk
 cases hlast:(fibAt s k).frames.getLast? with
 | none =>
  have:=List.getLast?_eq_none_iff.1 hlast
  rw [this] at hj
  simp at hj
 | some t =>
  rw [hlast] at hfk
  simp only [Bool.and_eq_true] at hfk
  obtain ⟨hfr,hcond⟩:=hfk
  obtain ⟨hall,hjw⟩:=(framesB_iff p _).1 hfr
  have hfj:frameB p (frAt s k j)=true:=all_getD hall hj
  refine ⟨hfj,?_⟩
  obtain ⟨⟨q1,q2⟩,_,_,q3⟩:=frame_parts hfj
  have hle:=(hgt_le hp (k:=(frAt s k j).fn.toNat) (by omega) (frAt s k j).at_.toNat).2
  have hle':hAt p (frAt s k j)≤8:=hle
  by_cases hjl:j + 1 < (fibAt s k).frames.length
  ·have:=jwaits_at _ j hjw hjl
   have h2:((frAt s k j).stack.length:Int)=hAt p (frAt s k j) - 1:=this
   omega
  ·have ht:t=frAt s k j:=by
    rw [List.getLast?_eq_getElem?] at hlast
    have hj2:j=(fibAt s k).frames.length - 1:=by omega
    unfold frAt
    rw [hj2]
    simp [List.getD,hlast]
   subst ht
   split at hcond
   ·have:=of_decide_eq_true hcond; omega
   ·split at hcond
    ·unfold waitB at hcond
     simp only [Bool.and_eq_true,decide_eq_true_eq] at hcond
     have:=hcond.1.2
     omega
    ·simp only [Bool.and_eq_true,Bool.or_eq_true] at hcond
     rcases hcond.2 with h1 | h1
     ·unfold freshB at h1
      split at h1
      ·rename_i x hx
       simp only [Bool.and_eq_true,decide_eq_true_eq] at h1
       have:frAt s k j=x:=by unfold frAt; rw [hx] at hj ⊢; simp at hj; rw [hj]; rfl
       rw [this,h1.1.2.2]
       omega
      ·cases h1
     ·unfold waitB at h1
      simp only [Bool.and_eq_true,decide_eq_true_eq] at h1
      have:=h1.1.2
      omega
def Path (fs:List Fb):Int→List Int→Prop
 | n,[]=>n=-1
 | n,x :: r=>n=x∧0≤x∧x < fs.length∧Path fs (callerOf fs x) r
theorem path_of_line {fs:List Fb} (hc:∀ b,b∈fs→-1≤b.caller∧b.caller < fs.length):∀ (k:Nat) (n:Int) (acc l:List Int),lineF fs k n acc=some l→-1≤n→n < fs.length→acc.Nodup→∃ r,l=acc++r∧Path fs n r∧l.Nodup
 | 0,_,_,_,h,_,_,_=>by cases h
 | k + 1,n,acc,l,h,h1,h2,hd=>by
  unfold lineF at h
  split at h
  ·obtain rfl:=Option.some.inj h
   exact ⟨[],by simp,by show n=-1; omega,hd⟩
  ·split at h
   ·cases h
   ·rename_i hn hna
    have hc':-1≤callerOf fs n∧callerOf fs n < fs.length:=hc _ (List.mem_of_getElem? (getD_of_lt fs n.toNat Fb.zero (by omega)))
    obtain ⟨r,e,hp,hl⟩:=path_of_line hc k _ _ l h hc'.1 hc'.2 (by
     rw [List.nodup_append]
     refine ⟨hd,by simp,fun a ha b hb e=>?_⟩
     simp only [List.mem_singleton] at hb
     subst hb e
     exact hna ha)
    exact ⟨n :: r,by rw [e]; simp,⟨rfl,by omega,h2,hp⟩,hl⟩
theorem line_of_path {fs:List Fb}:∀ (k:Nat) (n:Int) (acc r:List Int),Path fs n r→(acc++r).Nodup→r.length < k→lineF fs k n acc=some (acc++r)
 | 0,_,_,_,_,_,h=>by omega
 | k + 1,n,acc,[],hp,_,_=>by
  have:n=-1:=hp
  unfold lineF
  rw [if_pos (by omega)]
  simp
 | k + 1,n,acc,x :: r,hp,hd,hk=>by
  obtain ⟨rfl,h0,_,hp'⟩:=hp
  have hna:n ∉ acc:=fun h=>(List.nodup_append.1 hd).2.2 n h n (by simp) rfl
  unfold lineF
  rw [if_neg (by omega),if_neg hna]
  have:=line_of_path k (callerOf fs n) (acc++[n]) r hp' (by simpa using hd) (by simpa using hk)
  simpa using this
theorem Path.inside {fs:List Fb}:∀ {n:Int} {l:List Int},Path fs n l→∀ z,z∈l→0≤z∧z < fs.length
 | _,[],_,z,hz=>by cases hz
 | _,x :: r,⟨_,h0,h1,h2⟩,z,hz=>by
  rcases List.mem_cons.1 hz with rfl | hz
  ·exact ⟨h0,h1⟩
  ·exact h2.inside z hz
theorem Path.congr {fs fs':List Fb} (hl:fs.length≤fs'.length):∀ {n:Int} {l:List Int},Path fs n l→(∀ z,z∈l→callerOf fs' z=callerOf fs z)→Path fs' n l
 | _,[],h,_=>h
 | _,x :: r,⟨h0,h1,h2,h3⟩,hc=>⟨h0,h1,by omega,by rw [hc x (by simp)]; exact h3.congr hl (fun z hz=>hc z (List.mem_cons_of_mem _ hz))⟩
theorem Path.range {fs:List Fb} {n:Int} {l:List Int} (h:Path fs n l):-1≤n∧(n < fs.length∨n=-1):=by
 cases l with
 | nil=>have:n=-1:=h; omega
 | cons x r=>obtain ⟨rfl,h0,h1,_⟩:=h; omega
theorem Path.next {fs:List Fb}:∀ {n:Int} {l:List Int},Path fs n l→∀ z,z∈l→(callerOf fs z=-1∧l.getLast?=some z)∨(callerOf fs z∈l)
 | _,[],_,z,hz=>by cases hz
 | _,x :: r,⟨_,_,_,h3⟩,z,hz=>by
  rcases List.mem_cons.1 hz with rfl | hz
  ·cases r with
   | nil=>exact .inl ⟨h3,rfl⟩
   | cons y r'=>obtain ⟨h4,_⟩:=h3; right; rw [h4]; simp
  ·rcases h3.next z hz with ⟨h4,h5⟩ | h4
   ·refine .inl ⟨h4,?_⟩
    cases r with
    | nil=>cases hz
    | cons y r'=>rw [List.getLast?_cons_cons]; exact h5
   ·exact .inr (List.mem_cons_of_mem _ h4)
structure Good (p:List Fn) (s:St) (l:List Int):Prop where
 prog:progS p=0
 n5:s.fibers.length≤5
 o30:s.out.length≤30
 f6:∀ k,k < s.fibers.length→(fibAt s k).frames.length≤6
 path:Path s.fibers s.now l
 nodup:l.Nodup
 last:l=[]∨l.getLast?=some 0
 pos:0 < s.fibers.length
 main:(0:Int) ∉ l→(fibAt s 0).frames=[]
 each:∀ k,k < s.fibers.length→fiberB p (fibAt s k) (decide ((k:Int)∈l)) (decide ((k:Int)=s.now))=true
theorem mem_fibAt {s:St} {b:Fb} (h:b∈s.fibers):∃ k,k < s.fibers.length∧fibAt s k=b:=by
 obtain ⟨k,hk,rfl⟩:=List.getElem_of_mem h
 exact ⟨k,hk,by simp [fibAt,List.getD,hk]⟩
theorem right_good {p:List Fn} {s:St} (h:stErrS p s=0):∃ l,lineS s=some l∧Good p s l:=by
 obtain ⟨hp,hlim,hf⟩:=right_parts h
 obtain ⟨l,hl,hfib⟩:=right_fiber h
 obtain ⟨h5,h30,h6,hpos,⟨hn1,hn2⟩,hcal⟩:=limS_zero hlim
 have hl':=hl
 unfold lineS at hl'
 cases hlf:lineF s.fibers (s.fibers.length + 1) s.now [] with
 | none=>rw [hlf] at hl'; cases hl'
 | some l' =>
  rw [hlf] at hl'
  simp only at hl'
  split at hl'
  ·rename_i hlast
   obtain rfl:=Option.some.inj hl'
   obtain ⟨r,e,hpath,hnd⟩:=path_of_line hcal _ _ _ _ hlf hn1 hn2 List.nodup_nil
   rw [List.nil_append] at e
   subst e
   refine ⟨_,hl,hp,h5,h30,fun k hk=>h6 _ (top_mem k hk),hpath,hnd,hlast,hpos,fun h0=>?_,hfib⟩
   unfold formR at hf
   rw [hl] at hf
   simp only [Bool.and_eq_true] at hf
   have:=all_range.1 hf.2 0 hpos
   simp only [Bool.and_eq_true,decide_true,Bool.true_and] at this
   have h2:=this.2
   rw [decide_eq_false h0] at h2
   have h3:(s.fibers.getD 0 Fb.zero).frames.isEmpty=true:=by simpa using h2
   exact List.isEmpty_iff.1 h3
  ·cases hl'
theorem fiberB_off {p:List Fn} {b:Fb} {r:Bool} (h:fiberB p b false r=true) (hr:r=false):b.caller=-1:=by
 subst hr
 unfold fiberB at h
 split at h
 ·simpa using h
 ·simp only [Bool.and_eq_true,Bool.false_eq_true,if_false,decide_eq_true_eq] at h
  exact h.2.1
theorem Good.head {p:List Fn} {s:St} {l:List Int} (h:Good p s l) (hn:0≤s.now):∃ r,l=s.now :: r:=by
 have hp:=h.path
 cases l with
 | nil=>have:s.now=-1:=hp; omega
 | cons x r=>obtain ⟨h1,_⟩:=hp; exact ⟨r,by rw [h1]⟩
theorem Good.now_mem {p:List Fn} {s:St} {l:List Int} (h:Good p s l) (hn:0≤s.now):s.now∈l:=by
 obtain ⟨r,rfl⟩:=h.head hn; simp
theorem Good.off {p:List Fn} {s:St} {l:List Int} (h:Good p s l) {k:Nat} (hk:k < s.fibers.length) (hm:(k:Int) ∉ l):(fibAt s k).caller=-1:=by
 have:=h.each k hk
 rw [decide_eq_false hm] at this
 refine fiberB_off this (decide_eq_false fun e=>hm ?_)
 rw [e]; exact h.now_mem (by omega)
theorem Good.caller {p:List Fn} {s:St} {l:List Int} (h:Good p s l) {k:Nat} (hk:k < s.fibers.length):-1≤(fibAt s k).caller∧(fibAt s k).caller < s.fibers.length:=by
 by_cases hm:(k:Int)∈l
 ·rcases h.path.next _ hm with ⟨e,_⟩ | e
  ·have:(fibAt s k).caller=-1:=e
   omega
  ·have h1:=h.path.inside _ e
   have:callerOf s.fibers (k:Int)=(fibAt s k).caller:=rfl
   omega
 ·have:=h.off hk hm
  omega
theorem Good.line {p:List Fn} {s:St} {l:List Int} (h:Good p s l):lineF s.fibers (s.fibers.length + 1) s.now []=some l∧lineS s=some l:=by
 have hlen:l.length≤s.fibers.length:=few h.nodup h.path.inside
 have h1:lineF s.fibers (s.fibers.length + 1) s.now []=some l:=by
  have:=line_of_path (fs:=s.fibers) (s.fibers.length + 1) s.now [] l h.path (by simpa using h.nodup) (by omega)
  simpa using this
 refine ⟨h1,?_⟩
 unfold lineS
 rw [h1]
 simp only
 rw [if_pos h.last]
theorem Good.lim {p:List Fn} {s:St} {l:List Int} (h:Good p s l):limS s=0:=by
 have hr:=h.path.range
 unfold limS
 rw [if_pos ⟨h.n5,h.o30⟩,if_pos,if_pos h.pos,if_pos,if_pos]
 ·rw [List.all_eq_true]
  intro b hb
  obtain ⟨k,hk,rfl⟩:=mem_fibAt hb
  have:=h.caller hk
  rw [inB_iff]; omega
 ·rw [inB_iff]
  have:=h.pos
  rcases hr.2 with h1 | h1 <;> omega
 ·rw [List.all_eq_true]
  intro b hb
  obtain ⟨k,hk,rfl⟩:=mem_fibAt hb
  exact decide_eq_true (h.f6 k hk)
theorem good_right {p:List Fn} {s:St} {l:List Int} (h:Good p s l):stErrS p s=0:=by
 unfold stErrS
 rw [if_pos h.prog,if_pos h.lim,if_pos]
 unfold formR
 rw [h.line.2]
 simp only [Bool.and_eq_true]
 have hmain:(0:Int) ∉ l→(s.fibers.getD 0 Fb.zero).frames.isEmpty=true:=fun h0=>List.isEmpty_iff.2 (h.main h0)
 constructor
 ·by_cases hn:s.now=-1
  ·have:l=[]:=by
    have hp:=h.path
    cases l with
    | nil=>rfl
    | cons x r=>obtain ⟨h1,h2,_⟩:=hp; omega
   rw [hmain (by rw [this]; simp)]
   simp
  ·rw [decide_eq_false hn]; rfl
 ·rw [all_range]
  intro k hk
  simp only [Bool.and_eq_true]
  refine ⟨h.each k hk,?_⟩
  by_cases h0:k=0
  ·by_cases hm:(0:Int)∈l
   ·rw [decide_eq_true hm]; simp
   ·rw [hmain hm]; simp
  ·rw [decide_eq_false h0]; rfl
theorem jwaits_snoc {p:List Fn}:∀ (l:List Fr) (u t:Fr),jwaitsB p (l++[u,t])=(jwaitsB p (l++[u]) && jwaitB p u (11,t.fn))
 | [],u,t=>by simp [jwaitsB]
 | [x],u,t=>by simp [jwaitsB]
 | x :: y :: l,u,t=>by
  have:=jwaits_snoc (p:=p) (y :: l) u t
  simp only [List.cons_append,jwaitsB] at this ⊢
  rw [this,Bool.and_assoc]
theorem jwaits_top {p:List Fn} (l:List Fr) (t t':Fr) (h:t'.fn=t.fn):jwaitsB p (l++[t'])=jwaitsB p (l++[t]):=by
 rcases List.eq_nil_or_concat l with rfl | ⟨l',u,rfl⟩
 ·rfl
 ·simp only [List.concat_eq_append,List.append_assoc,List.cons_append,List.nil_append]
  rw [jwaits_snoc,jwaits_snoc,h]
def FrsG (p:List Fn) (fs:List Fr) (t:Fr):Prop:=(∀ f,f∈fs→frameB p f=true)∧frameB p t=true∧jwaitsB p (fs++[t])=true
theorem FrsG.bool {p:List Fn} {fs:List Fr} {t:Fr}:framesB p (fs++[t])=true↔FrsG p fs t:=by
 rw [framesB_iff]
 unfold FrsG
 simp only [List.all_append,List.all_cons,List.all_nil,Bool.and_true,Bool.and_eq_true,List.all_eq_true]
 exact and_assoc
theorem FrsG.turn {p:List Fn} {fs:List Fr} {t t':Fr} (h:FrsG p fs t) (ht:frameB p t'=true) (hf:t'.fn=t.fn):FrsG p fs t':=⟨h.1,ht,by rw [jwaits_top _ _ _ hf]; exact h.2.2⟩
theorem FrsG.push {p:List Fn} {fs:List Fr} {t u:Fr} (h:FrsG p fs t) (hw:jwaitB p t (11,u.fn)=true) (hu:frameB p u=true):FrsG p (fs++[t]) u:=by
 refine ⟨fun f hf=>?_,hu,?_⟩
 ·rcases List.mem_append.1 hf with hf | hf
  ·exact h.1 f hf
  ·rw [List.mem_singleton.1 hf]; exact h.2.1
 ·rw [List.append_assoc]
  show jwaitsB p (fs++[t,u])=true
  rw [jwaits_snoc,h.2.2,hw]; rfl
theorem FrsG.pop {p:List Fn} {fs:List Fr} {t u:Fr} (h:FrsG p (fs++[t]) u):FrsG p fs t∧jwaitB p t (11,u.fn)=true:=by
 obtain ⟨h1,_,h3⟩:=h
 rw [List.append_assoc] at h3
 have h3':jwaitsB p (fs++[t,u])=true:=h3
 rw [jwaits_snoc,Bool.and_eq_true] at h3'
 exact ⟨⟨fun f hf=>h1 f (by simp [hf]),h1 t (by simp),h3'.1⟩,h3'.2⟩
theorem fiber_parts {p:List Fn} {fs:List Fr} {t:Fr} {c:Int} {on runs:Bool}:fiberB p ⟨fs++[t],c⟩ on runs=true↔FrsG p fs t ∧
  (if runs=true then (t.stack.length:Int)=hAt p t else if on=true then waitB p t 14 0=true else c=-1∧(freshB p ⟨fs++[t],c⟩=true∨waitB p t 15 0=true)):=by
 unfold fiberB
 simp only [List.getLast?_append,List.getLast?_singleton,Option.some_or,Bool.and_eq_true,FrsG.bool]
 cases runs <;> cases on <;> simp
theorem fiber_none {p:List Fn} {c:Int} {on runs:Bool}:fiberB p ⟨[],c⟩ on runs=true↔on=false∧c=-1:=by
 unfold fiberB
 simp
theorem Fb.form (b:Fb):b=⟨[],b.caller⟩∨∃ fs t,b=⟨fs++[t],b.caller⟩:=by
 rcases List.eq_nil_or_concat b.frames with h | ⟨fs,t,h⟩
 ·left; rw [← h]
 ·right; exact ⟨fs,t,by rw [List.concat_eq_append] at h; rw [← h]⟩
theorem Good.on {p:List Fn} {s:St} {l:List Int} (h:Good p s l) {k:Nat} (hk:(k:Int)∈l):∃ fs t,fibAt s k=⟨fs++[t],(fibAt s k).caller⟩:=by
 rcases Fb.form (fibAt s k) with e | e
 ·have:=h.each k (by have:=h.path.inside _ hk; omega)
  rw [e,fiber_none,decide_eq_true hk] at this
  cases this.1
 ·exact e
end Go.Proofs.YtogcfkmekdpmmaaDoor
namespace Go.Proofs.YtogcfkmekdpmmaaDoor
theorem setFib_setFib (s:St) (n:Nat) (a b:Fb):setFib (setFib s n a) n b=setFib s n b:=by simp [setFib]
structure Tops (s:St) (n:Nat) (fs:List Fr) (t:Fr) (c:Int):Prop where
 lt:n < s.fibers.length
 eq:fibAt s n=⟨fs++[t],c⟩
theorem Tops.set {s:St} {n:Nat} {fs:List Fr} {t:Fr} {c:Int} (h:Tops s n fs t c) (gs:List Fr) (u:Fr) (d:Int):Tops (setFib s n ⟨gs++[u],d⟩) n gs u d :=
 ⟨by rw [setFib_len]; exact h.lt,fibAt_same _ h.lt⟩
theorem turnTop_form {s:St} {n:Nat} {fs:List Fr} {t:Fr} {c:Int} (h:Tops s n fs t c) (g:Fr→Fr):s.turnTop (n:Int) g=setFib s n ⟨fs++[g t],c⟩:=by
 unfold St.turnTop
 rw [turn_setFib,h.eq]
 unfold Fb.turnTop Fb.top
 simp
theorem top_form {s:St} {n:Nat} {fs:List Fr} {t:Fr} {c:Int} (h:Tops s n fs t c) (hn:s.now=n):s.top=t:=by
 unfold St.top
 rw [hn,fib_fibAt,h.eq]
 simp [Fb.top]
def Fr.stk (t:Fr) (l:List Int):Fr:=⟨t.fn,t.at_,t.locals,l⟩
theorem push_form {s:St} {n:Nat} {fs:List Fr} {t:Fr} {c:Int} (h:Tops s n fs t c) (v:Int):pushV s n v=setFib s n ⟨fs++[t.stk (t.stack++[v])],c⟩:=turnTop_form h _
theorem pull_form {s:St} {n:Nat} {fs:List Fr} {t:Fr} {c:Int} (h:Tops s n fs t c) (hn:s.now=n):pullV s=setFib s n ⟨fs++[t.stk t.stack.dropLast],c⟩:=by
 unfold pullV; rw [hn,turnTop_form h]; rfl
theorem setAt_form {s:St} {n:Nat} {fs:List Fr} {t:Fr} {c:Int} (h:Tops s n fs t c) (hn:s.now=n) (a:Int):setAt s a=setFib s n ⟨fs++[{ t with at_:=a }],c⟩:=by
 unfold setAt; rw [hn,turnTop_form h]
theorem last_form {s:St} {n:Nat} {fs:List Fr} {t:Fr} {c:Int} (h:Tops s n fs t c) (hn:s.now=n):lastV s=t.stack.getLast?.getD 0:=by
 unfold lastV; rw [top_form h hn]
structure Op (p:List Fn) (s:St) (n:Nat) (fs:List Fr) (t:Fr) (c:Int) (kd a:Int):Prop where
 tops:Tops s n fs t c
 now:s.now=n
 op:(codeOf p t.fn.toNat).getD t.at_.toNat (0,0)=(kd,a)
def Fr.on (t:Fr):Fr:=⟨t.fn,t.at_ + 1,t.locals,t.stack⟩
section
variable {p:List Fn} {s:St} {n:Nat} {fs:List Fr} {t:Fr} {c:Int} {kd a:Int}
theorem Op.next (h:Op p s n fs t c kd a):setAt s (s.top.at_ + 1)=setFib s n ⟨fs++[t.on],c⟩:=by
 rw [setAt_form h.tops h.now,top_form h.tops h.now]; rfl
theorem done_form (h:Op p s n fs t c kd a) {s1:St} (h1:setFib s n ⟨fs++[t.on],c⟩=s1):doneS p s =
  (if kd=0 then (pushV s1 n a,0)
   else if kd=1 then (pullV s1,0)
   else if kd=2 then (pushV s1 n (t.locals.getD a.toNat 0),0)
   else if kd=3 then ((pullV s1).turnTop n fun f=>{ f with locals:=f.locals.set a.toNat (lastV s1) },0)
   else if kd=9 then (setAt s1 a,0)
   else if kd=10 then (if lastV s1=0 then setAt (pullV s1) a else pullV s1,0)
   else if kd=11 then calledS p s1 a
   else if kd=12 then givenS s1
   else if kd=13 then madeS p s1 a
   else if kd=14 then resumedS s1
   else if kd=15 then yieldedS s1
   else if kd=16 then putS (pullV s1) (lastV s1)
   else (pushV (pullV (pullV s1)) n (reckonS kd (lastV (pullV s1)) (lastV s1)),0)):=by
 have ht:s.top=t:=top_form h.tops h.now
 have hnow:s1.now=n:=by rw [← h1]; exact h.now
 have htop:s1.top=t.on:=by rw [← h1]; exact top_form (h.tops.set fs t.on c) h.now
 unfold doneS
 simp only
 rw [h.next,ht,h.op,h1]
 simp only [hnow,htop]
 rfl
theorem done_stay (h:Op p s n fs t c kd a) (h0:0≤kd) (h10:kd≤10) {ta lb:Int} (he:effS p kd a=(ta,lb,0)) (hst:ta≤t.stack.length) (hat:0≤t.at_) (ha:kd=9∨kd=10→0≤a) :
  ∃ t' j,doneS p s=(setFib s n ⟨fs++[t'],c⟩,0)∧t'.fn=t.fn∧t'.locals.length=t.locals.length∧(t'.stack.length:Int)=t.stack.length - ta + lb∧j∈nexts (kd,a) t.at_.toNat∧t'.at_=(j:Int):=by
 have hT:=h.tops.set fs t.on c
 have hN:(setFib s n ⟨fs++[t.on],c⟩).now=n:=h.now
 have hat':t.on.at_=((t.at_.toNat + 1:Nat):Int):=by show t.at_ + 1=_; omega
 have hP:=pull_form hT hN
 have hT2:=hT.set fs (t.on.stk (t.on.stack.dropLast)) c
 rw [← hP] at hT2
 have hN2:(pullV (setFib s n ⟨fs++[t.on],c⟩)).now=n:=by rw [hP]; exact h.now
 rw [done_form h rfl]
 have hstk:t.on.stack=t.stack:=rfl
 have hloc:t.on.locals=t.locals:=rfl
 have heff:kd≠11→ta=tk kd.toNat∧lb=lv kd.toNat:=fun hk=>by
  unfold effS at he
  rw [if_pos (by omega),if_neg hk] at he
  simp only [Prod.mk.injEq] at he
  exact ⟨he.1.symm,he.2.1.symm⟩
 obtain ⟨hta,hlb⟩:=heff (by omega)
 have hnext:kd≠9→kd≠10→nexts (kd,a) t.at_.toNat=[t.at_.toNat + 1]:=fun h1 h2=>by
  unfold nexts; simp only; rw [if_neg (by omega),if_neg h1,if_neg h2]
 by_cases k0:kd=0
 ·subst k0
  rw [if_pos rfl,push_form hT,setFib_setFib]
  refine ⟨_,_,rfl,rfl,rfl,?_,by rw [hnext (by omega) (by omega)]; exact List.mem_singleton.2 rfl,hat'⟩
  have h1:ta=0:=hta
  have h2:lb=1:=hlb
  simp only [Fr.stk,List.length_append,List.length_singleton,hstk]; omega
 rw [if_neg k0]
 by_cases k1:kd=1
 ·subst k1
  rw [if_pos rfl,hP,setFib_setFib]
  refine ⟨_,_,rfl,rfl,rfl,?_,by rw [hnext (by omega) (by omega)]; exact List.mem_singleton.2 rfl,hat'⟩
  have h1:ta=1:=hta
  have h2:lb=0:=hlb
  simp only [Fr.stk,List.length_dropLast,hstk]; omega
 rw [if_neg k1]
 by_cases k2:kd=2
 ·subst k2
  rw [if_pos rfl,push_form hT,setFib_setFib]
  refine ⟨_,_,rfl,rfl,rfl,?_,by rw [hnext (by omega) (by omega)]; exact List.mem_singleton.2 rfl,hat'⟩
  have h1:ta=0:=hta
  have h2:lb=1:=hlb
  simp only [Fr.stk,List.length_append,List.length_singleton,hstk]; omega
 rw [if_neg k2]
 by_cases k3:kd=3
 ·subst k3
  rw [if_pos rfl,turnTop_form hT2,hP,setFib_setFib,setFib_setFib]
  refine ⟨_,_,rfl,rfl,by simp [Fr.stk,hloc],?_,by rw [hnext (by omega) (by omega)]; exact List.mem_singleton.2 rfl,hat'⟩
  have h1:ta=1:=hta
  have h2:lb=0:=hlb
  simp only [Fr.stk,List.length_dropLast,hstk]; omega
 rw [if_neg k3]
 by_cases k9:kd=9
 ·subst k9
  rw [if_pos rfl,setAt_form hT hN,setFib_setFib]
  have h1:ta=0:=hta
  have h2:lb=0:=hlb
  have:=ha (.inl rfl)
  refine ⟨_,a.toNat,rfl,rfl,rfl,?_,by simp [nexts],by show a=_; omega⟩
  simp only [hstk]; omega
 rw [if_neg k9]
 by_cases k10:kd=10
 ·subst k10
  have h1:ta=1:=hta
  have h2:lb=0:=hlb
  have:=ha (.inr rfl)
  rw [if_pos rfl]
  split
  ·rw [setAt_form hT2 hN2,hP,setFib_setFib,setFib_setFib]
   refine ⟨_,a.toNat,rfl,rfl,rfl,?_,by simp [nexts],by show a=_; omega⟩
   simp only [Fr.stk,List.length_dropLast,hstk]; omega
  ·rw [hP,setFib_setFib]
   refine ⟨_,t.at_.toNat + 1,rfl,rfl,rfl,?_,by simp [nexts],hat'⟩
   simp only [Fr.stk,List.length_dropLast,hstk]; omega
 rw [if_neg k10,if_neg (by omega),if_neg (by omega),if_neg (by omega),if_neg (by omega),if_neg (by omega),if_neg (by omega)]
 have hP2:=pull_form hT2 hN2
 have hT3:=hT2.set fs ((t.on.stk t.on.stack.dropLast).stk (t.on.stk t.on.stack.dropLast).stack.dropLast) c
 rw [← hP2] at hT3
 rw [push_form hT3,hP2,hP]
 simp only [setFib_setFib]
 refine ⟨_,_,rfl,rfl,rfl,?_,by rw [hnext k9 k10]; exact List.mem_singleton.2 rfl,hat'⟩
 have h3:ta=2∧lb=1:=by
  have:kd=4∨kd=5∨kd=6∨kd=7∨kd=8:=by omega
  rcases this with rfl | rfl | rfl | rfl | rfl <;> exact ⟨hta,hlb⟩
 simp only [Fr.stk,List.length_append,List.length_singleton,List.length_dropLast,hstk]; omega
theorem goes_call (h:Op p s n fs t c 11 a):doneS p s=if fs.length + 1=6 then (St.zero,2) else
  (setFib s n ⟨fs++[(t.on.stk (t.stack.take (t.stack.length - (p.getD a.toNat Fn.zero).args.toNat)))]++[begunS p a (t.stack.drop (t.stack.length - (p.getD a.toNat Fn.zero).args.toNat))],c⟩,0):=by
 have hT:=h.tops.set fs t.on c
 have hN:(setFib s n ⟨fs++[t.on],c⟩).now=n:=h.now
 rw [done_form h rfl]
 simp only [show ¬ ((11:Int)=0) by omega,show ¬ ((11:Int)=1) by omega,show ¬ ((11:Int)=2) by omega,show ¬ ((11:Int)=3) by omega,show ¬ ((11:Int)=9) by omega,show ¬ ((11:Int)=10) by omega,if_false,if_true]
 unfold calledS
 simp only [hN,top_form hT hN,turnTop_form hT,fib_fibAt,turn_setFib]
 rw [setFib_setFib,fibAt_same _ h.tops.lt]
 simp only [List.length_append,List.length_singleton]
 split
 ·rfl
 ·rw [setFib_setFib]; rfl
theorem stack_one {l:List Int} (h:0 < l.length):∃ st v,l=st++[v]:=by
 rcases List.eq_nil_or_concat l with rfl | ⟨st,v,e⟩
 ·simp at h
 ·exact ⟨st,v,by rw [e,List.concat_eq_append]⟩
theorem stack_two {l:List Int} (h:2≤l.length):∃ st x v,l=st++[x,v]:=by
 obtain ⟨st,v,rfl⟩:=stack_one (l:=l) (by omega)
 simp only [List.length_append,List.length_singleton] at h
 obtain ⟨st',x,rfl⟩:=stack_one (l:=st) (by omega)
 exact ⟨st',x,v,by simp⟩
theorem done_return_in {gs:List Fr} {u:Fr} (h:Op p s n (gs++[u]) t c 12 a) {st:List Int} {v:Int} (hst:t.stack=st++[v]):doneS p s=(setFib s n ⟨gs++[(u.stk (u.stack++[v]))],c⟩,0):=by
 have hT:=h.tops.set (gs++[u]) t.on c
 have hN:(setFib s n ⟨gs++[u]++[t.on],c⟩).now=n:=h.now
 have hv:t.on.stack=st++[v]:=hst
 rw [done_form h rfl]
 simp only [show ¬ ((12:Int)=0) by omega,show ¬ ((12:Int)=1) by omega,show ¬ ((12:Int)=2) by omega,show ¬ ((12:Int)=3) by omega,show ¬ ((12:Int)=9) by omega,show ¬ ((12:Int)=10) by omega,show ¬ ((12:Int)=11) by omega,if_false,if_true]
 unfold givenS
 simp only [hN,last_form hT hN,pull_form hT hN,fib_fibAt,turn_setFib,hv,List.getLast?_append,List.getLast?_singleton,Option.some_or,Option.getD_some]
 simp only [setFib_setFib,fibAt_same _ h.tops.lt]
 simp only [List.dropLast_concat]
 rw [if_neg (by simp)]
 have hT2:=h.tops.set gs u c
 rw [push_form hT2,setFib_setFib]
theorem done_return_end (h:Op p s n [] t c 12 a) {st:List Int} {v:Int} (hst:t.stack=st++[v]) (hc:c < 0):doneS p s=putS { setFib s n ⟨[],c⟩ with now:=-1 } v:=by
 have hT:=h.tops.set [] t.on c
 have hN:(setFib s n ⟨[]++[t.on],c⟩).now=n:=h.now
 have hv:t.on.stack=st++[v]:=hst
 rw [done_form h rfl]
 simp only [show ¬ ((12:Int)=0) by omega,show ¬ ((12:Int)=1) by omega,show ¬ ((12:Int)=2) by omega,show ¬ ((12:Int)=3) by omega,show ¬ ((12:Int)=9) by omega,show ¬ ((12:Int)=10) by omega,show ¬ ((12:Int)=11) by omega,if_false,if_true]
 unfold givenS
 simp only [hN,last_form hT hN,pull_form hT hN,fib_fibAt,turn_setFib,hv,List.getLast?_append,List.getLast?_singleton,Option.some_or,Option.getD_some]
 simp only [setFib_setFib,fibAt_same _ h.tops.lt]
 simp [hc]
theorem fibAt_set2 {s:St} {n m:Nat} (hne:n≠m) (b:Fb):fibAt (setFib s n b) m=fibAt s m:=fibAt_ne b hne
theorem done_return_on (h:Op p s n [] t c 12 a) {st:List Int} {v:Int} (hst:t.stack=st++[v]) {m:Nat} (hc:c=m) (hne:n≠m) {gs:List Fr} {u:Fr} {d:Int} (hm:Tops s m gs u d) :
  doneS p s=({ setFib (setFib s n ⟨[],-1⟩) m ⟨gs++[(u.stk (u.stack++[v]))],d⟩ with now:=m },0):=by
 have hT:=h.tops.set [] t.on c
 have hN:(setFib s n ⟨[]++[t.on],c⟩).now=n:=h.now
 have hv:t.on.stack=st++[v]:=hst
 rw [done_form h rfl]
 simp only [show ¬ ((12:Int)=0) by omega,show ¬ ((12:Int)=1) by omega,show ¬ ((12:Int)=2) by omega,show ¬ ((12:Int)=3) by omega,show ¬ ((12:Int)=9) by omega,show ¬ ((12:Int)=10) by omega,show ¬ ((12:Int)=11) by omega,if_false,if_true]
 unfold givenS
 simp only [hN,last_form hT hN,pull_form hT hN,fib_fibAt,turn_setFib,hv,List.getLast?_append,List.getLast?_singleton,Option.some_or,Option.getD_some]
 simp only [setFib_setFib,fibAt_same _ h.tops.lt]
 rw [if_pos (by simp),if_neg (by omega)]
 simp only [hc]
 have hT2:Tops { setFib s n ⟨[],-1⟩ with now:=(m:Int) } m gs u d:=⟨by show m < (setFib s n ⟨[],-1⟩).fibers.length; rw [setFib_len]; exact hm.lt,(fibAt_set2 hne _).trans hm.eq⟩
 have:=push_form hT2 v
 simp only [List.nil_append,List.dropLast_singleton] at this ⊢
 rw [this]
 rfl
theorem goes_make (h:Op p s n fs t c 13 a):doneS p s=if s.fibers.length=5 then (St.zero,2) else
  ({ s with fibers:=(setFib s n ⟨fs++[(t.on.stk (t.stack++[(s.fibers.length:Int)]))],c⟩).fibers++[⟨[begunS p a []],-1⟩] },0):=by
 have hT:=h.tops.set fs t.on c
 have hN:(setFib s n ⟨fs++[t.on],c⟩).now=n:=h.now
 rw [done_form h rfl]
 simp only [show ¬ ((13:Int)=0) by omega,show ¬ ((13:Int)=1) by omega,show ¬ ((13:Int)=2) by omega,show ¬ ((13:Int)=3) by omega,show ¬ ((13:Int)=9) by omega,show ¬ ((13:Int)=10) by omega,show ¬ ((13:Int)=11) by omega,show ¬ ((13:Int)=12) by omega,if_false,if_true]
 unfold madeS
 rw [hN,setFib_len,push_form hT,setFib_setFib]
 rfl
theorem goes_yield (h:Op p s n fs t c 15 a) (hc:c < 0):doneS p s=(St.zero,7):=by
 have hT:=h.tops.set fs t.on c
 have hN:(setFib s n ⟨fs++[t.on],c⟩).now=n:=h.now
 rw [done_form h rfl]
 simp only [show ¬ ((15:Int)=0) by omega,show ¬ ((15:Int)=1) by omega,show ¬ ((15:Int)=2) by omega,show ¬ ((15:Int)=3) by omega,show ¬ ((15:Int)=9) by omega,show ¬ ((15:Int)=10) by omega,show ¬ ((15:Int)=11) by omega,show ¬ ((15:Int)=12) by omega,show ¬ ((15:Int)=13) by omega,show ¬ ((15:Int)=14) by omega,if_false,if_true]
 unfold yieldedS
 simp only [hN,pull_form hT hN,fib_fibAt]
 rw [setFib_setFib,fibAt_same _ h.tops.lt,if_pos hc]
theorem done_yield_on (h:Op p s n fs t c 15 a) {st:List Int} {v:Int} (hst:t.stack=st++[v]) {m:Nat} (hc:c=m) (hne:n≠m) {gs:List Fr} {u:Fr} {d:Int} (hm:Tops s m gs u d) :
  doneS p s=({ setFib (setFib s n ⟨fs++[(t.on.stk (st))],-1⟩) m ⟨gs++[(u.stk (u.stack++[v]))],d⟩ with now:=m },0):=by
 have hT:=h.tops.set fs t.on c
 have hN:(setFib s n ⟨fs++[t.on],c⟩).now=n:=h.now
 have hv:t.on.stack=st++[v]:=hst
 rw [done_form h rfl]
 simp only [show ¬ ((15:Int)=0) by omega,show ¬ ((15:Int)=1) by omega,show ¬ ((15:Int)=2) by omega,show ¬ ((15:Int)=3) by omega,show ¬ ((15:Int)=9) by omega,show ¬ ((15:Int)=10) by omega,show ¬ ((15:Int)=11) by omega,show ¬ ((15:Int)=12) by omega,show ¬ ((15:Int)=13) by omega,show ¬ ((15:Int)=14) by omega,if_false,if_true]
 unfold yieldedS
 simp only [hN,last_form hT hN,pull_form hT hN,fib_fibAt,turn_setFib,hv,List.getLast?_append,List.getLast?_singleton,Option.some_or,Option.getD_some,List.dropLast_concat]
 simp only [setFib_setFib,fibAt_same _ h.tops.lt]
 rw [if_neg (by omega)]
 simp only [hc]
 have hT2:Tops { setFib s n ⟨fs++[(t.on.stk (st))],-1⟩ with now:=(m:Int) } m gs u d:=⟨by show m < (setFib s n _).fibers.length; rw [setFib_len]; exact hm.lt,(fibAt_set2 hne _).trans hm.eq⟩
 have:=push_form hT2 v
 rw [this]
 rfl
theorem goes_put (h:Op p s n fs t c 16 a) {st:List Int} {v:Int} (hst:t.stack=st++[v]):doneS p s=putS (setFib s n ⟨fs++[(t.on.stk (st))],c⟩) v:=by
 have hT:=h.tops.set fs t.on c
 have hN:(setFib s n ⟨fs++[t.on],c⟩).now=n:=h.now
 have hv:t.on.stack=st++[v]:=hst
 rw [done_form h rfl]
 simp only [show ¬ ((16:Int)=0) by omega,show ¬ ((16:Int)=1) by omega,show ¬ ((16:Int)=2) by omega,show ¬ ((16:Int)=3) by omega,show ¬ ((16:Int)=9) by omega,show ¬ ((16:Int)=10) by omega,show ¬ ((16:Int)=11) by omega,show ¬ ((16:Int)=12) by omega,show ¬ ((16:Int)=13) by omega,show ¬ ((16:Int)=14) by omega,show ¬ ((16:Int)=15) by omega,if_false,if_true]
 rw [last_form hT hN,pull_form hT hN,setFib_setFib,hv]
 simp
def Fr.got (u:Fr) (v:Int):Fr:=if u.at_=0 then ⟨u.fn,u.at_,u.locals.set 0 v,u.stack⟩ else u.stk (u.stack++[v])
theorem goes_resume (h:Op p s n fs t c 14 a) {st:List Int} {x v:Int} (hst:t.stack=st++[x,v]) :
  doneS p s=if ixB x s.fibers.length=true then (if x∈(lineF s.fibers (s.fibers.length + 1) s.now []).getD []∨(fibAt (setFib s n ⟨fs++[(t.on.stk (st))],c⟩) x.toNat).frames=[] then (St.zero,6) else
   ({ (setFib (setFib s n ⟨fs++[(t.on.stk (st))],c⟩) x.toNat ((⟨(fibAt (setFib s n ⟨fs++[(t.on.stk (st))],c⟩) x.toNat).frames,n⟩:Fb).turnTop fun u=>u.got v)) with now:=x },0)) else (St.zero,5):=by
 have hT:=h.tops.set fs t.on c
 have hN:(setFib s n ⟨fs++[t.on],c⟩).now=n:=h.now
 have hv:t.on.stack=st++[x,v]:=hst
 have hd:(st++[x,v]).dropLast=st++[x]:=by
  have:st++[x,v]=(st++[x])++[v]:=by simp
  rw [this,List.dropLast_concat]
 have hP:=pull_form hT hN
 rw [setFib_setFib,hv,hd] at hP
 have hT2:Tops (pullV (setFib s n ⟨fs++[t.on],c⟩)) n fs (t.on.stk (st++[x])) c:=by rw [hP]; exact h.tops.set _ _ _
 have hN2:(pullV (setFib s n ⟨fs++[t.on],c⟩)).now=n:=by rw [hP]; exact h.now
 have hP2:=pull_form hT2 hN2
 rw [hP,setFib_setFib,show (t.on.stk (st++[x])).stack.dropLast=st from List.dropLast_concat,show (t.on.stk (st++[x])).stk st=t.on.stk st from rfl] at hP2
 rw [done_form h rfl]
 simp only [show ¬ ((14:Int)=0) by omega,show ¬ ((14:Int)=1) by omega,show ¬ ((14:Int)=2) by omega,show ¬ ((14:Int)=3) by omega,show ¬ ((14:Int)=9) by omega,show ¬ ((14:Int)=10) by omega,show ¬ ((14:Int)=11) by omega,show ¬ ((14:Int)=12) by omega,show ¬ ((14:Int)=13) by omega,if_false,if_true]
 unfold resumedS
 have hl1:lastV (setFib s n ⟨fs++[t.on],c⟩)=v:=by rw [last_form hT hN,hv]; simp
 have hl2:lastV (pullV (setFib s n ⟨fs++[t.on],c⟩))=x:=by rw [last_form hT2 hN2,show (t.on.stk (st++[x])).stack=st++[x] from rfl]; simp
 simp only [hl1,hl2]
 rw [hP,hP2]
 have hline:∀ k z acc,lineF (setFib s n ⟨fs++[(t.on.stk (st))],c⟩).fibers k z acc=lineF s.fibers k z acc:=fun k z acc=>lineF_congr (fun y=>by
  show (fibAt (setFib s n _) y.toNat).caller=(fibAt s y.toNat).caller
  by_cases e:n=y.toNat
  ·rw [← e,fibAt_same _ h.tops.lt,h.tops.eq]
  ·rw [fibAt_ne _ e]) k z acc
 have hnow:(setFib s n ⟨fs++[(t.on.stk (st))],c⟩).now=s.now:=rfl
 rw [hline,hnow,setFib_len]
 generalize hs1:setFib s n ⟨fs++[(t.on.stk (st))],c⟩=s1
 have hs1n:s1.now=n:=by rw [← hs1]; exact h.now
 split
 ·rename_i hix
  obtain ⟨hx0,hx1⟩:=ixB_iff.1 hix
  obtain ⟨m,rfl⟩:∃ m:Nat,x=m:=⟨x.toNat,by omega⟩
  simp only [fib_fibAt,Int.toNat_natCast]
  split
  ·rfl
  ·rename_i hne
   simp only [turn_setFib]
   have hfr:(fibAt s1 m).frames≠[]:=fun e=>hne (.inr e)
   obtain ⟨gs,u,hgu⟩:∃ gs u,(fibAt s1 m).frames=gs++[u]:=by
    rcases List.eq_nil_or_concat (fibAt s1 m).frames with e | ⟨gs,u,e⟩
    ·exact absurd e hfr
    ·exact ⟨gs,u,by rw [e,List.concat_eq_append]⟩
   have hml:m < s1.fibers.length:=by rw [← hs1,setFib_len]; omega
   have hT3:Tops { setFib s1 m { fibAt s1 m with caller:=s.now } with now:=(m:Int) } m gs u s.now:=⟨by show m < (setFib s1 m _).fibers.length; rw [setFib_len]; exact hml,by
    show fibAt (setFib s1 m _) m=_
    rw [fibAt_same _ hml,← hgu]⟩
   rw [top_form hT3 rfl,turnTop_form hT3,push_form hT3,hgu]
   unfold Fb.turnTop Fb.top Fr.got
   rw [h.now]
   simp only [List.getLast?_append,List.getLast?_singleton,Option.some_or,Option.getD_some,List.length_append,List.length_singleton]
   split <;> simp [setFib,Fr.stk]
 ·rfl
end
end Go.Proofs.YtogcfkmekdpmmaaDoor
