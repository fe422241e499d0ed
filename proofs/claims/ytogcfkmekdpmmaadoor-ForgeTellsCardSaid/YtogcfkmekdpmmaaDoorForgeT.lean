/-
  Expressions as functions, plain (K1): a forged function is right, and has heights.
-/
import Derived.Test.YtogcfkmekdpmmaaDoorForgeS
set_option maxRecDepth 100000
set_option maxHeartbeats 8000000
namespace Go.Proofs.YtogcfkmekdpmmaaDoor

theorem heights_of_consF {p:List Fn} {c:List (Int × Int)} (hr:Right p c) {H:List Int} (a:Cons p c H) (b:Sound p c H):heightsS p c=some H:=by
  obtain ⟨H',h',_⟩:=rounds_all a (c.length + 1) _ (start_mono a).1
  have hh:heightsS p c=some H':=by
    unfold heightsS
    rw [if_neg (by have:=a.pos; omega)]
    exact h'
  obtain ⟨a',b'⟩:=heightsS_ok hr hh
  rw [hh,cons_one hr a b a' b']

theorem opsS_of_allF {p:List Fn} {g:Fn}:∀ {c:List (Int × Int)},(∀ x,x∈c→opS p g x=0)→opsS p g c=0
  | [],_=>rfl
  | x :: c,h=>by
    unfold opsS
    rw [if_pos (h x (by simp))]
    exact opsS_of_allF fun y hy=>h y (by simp [hy])

theorem firstS_allF {e:Nat→Int}:∀ (n k:Nat),(∀ i,k≤i→i < k + n→e i=0)→firstS e k n=0
  | 0,_,_=>rfl
  | n + 1,k,h=>by
    unfold firstS
    rw [if_pos (h k (Nat.le_refl k) (by omega))]
    exact firstS_allF n (k + 1) fun i h1 h2=>h i (by omega) (by omega)

def OpF (q:Int) (most:Nat) (x:Int × Int):Prop:=(x.1=0∧0≤x.2∧x.2≤999)∨(x.1=2∧0≤x.2∧x.2 < q)∨(4≤x.1∧x.1≤8∧x.2=0)∨((x.1=9∨x.1=10)∧0≤x.2∧x.2≤most)
theorem OpF.more {q:Int} {m m':Nat} {x:Int × Int} (h:OpF q m x) (hm:m≤m'):OpF q m' x:=by unfold OpF at h ⊢; omega
theorem lay_ops (q:Int) (vals:List Int):∀ (n:Nat) (e:List (Int × Int)) (o:Int) (h:Nat),e.length≤n→1≤o→onlyS e o=true→(∀ x∈e,kindOk x)→(∀ x∈e,numOk q x) →
    (∀ x∈(layS n e h).1,OpF q (h + (layS n e h).1.length) x)∧(layS n e h).1.length≤2 * (e.length - (valS vals n e).2.length)
  | n,[],o,_,_,ho,h,_,_=>by simp [onlyS] at h; omega
  | 0,x :: r,o,_,hl,_,_,_,_=>by simp at hl
  | n + 1,x :: r,o,h,hl,ho,ho1,hk,hn=>by
    have hx:=hk x (by simp)
    have hnx:=hn x (by simp)
    have hr:∀ y∈r,kindOk y:=fun y hy=>hk y (by simp [hy])
    have hnr:∀ y∈r,numOk q y:=fun y hy=>hn y (by simp [hy])
    have hl':r.length≤n:=by simpa using hl
    simp only [onlyS] at ho1
    rw [if_neg (by omega)] at ho1
    unfold kindOk at hx
    unfold numOk mostS at hnx
    unfold layS valS
    by_cases h0:x.1=0
    · simp only [h0,if_true] at hnx ⊢
      refine ⟨fun y hy=>?_,by simp⟩
      obtain rfl:=List.mem_singleton.1 hy
      exact .inl ⟨rfl,hnx⟩
    · simp only [h0,if_false] at hnx ⊢
      by_cases h1:x.1=1
      · simp only [h1,if_true] at hnx ⊢
        refine ⟨fun y hy=>?_,by simp⟩
        obtain rfl:=List.mem_singleton.1 hy
        exact .inr (.inl ⟨rfl,hnx.1,by show x.2 < q; omega⟩)
      · simp only [h1,if_false] at hnx ⊢
        obtain ⟨_,_,a3⟩:=lay_hg n r h 0 vals
        by_cases h7:x.1=7
        · simp only [h7,if_true]
          have hp:partsS x.1=3:=by rw [h7]; rfl
          rw [hp] at ho1
          obtain ⟨j1,p1,q1,e1,o1⟩:=val_rest vals n r (o - 1 + 3) hl' (by omega) ho1 hr
          obtain ⟨l1,_,k1,n1⟩:=val_next vals n r (o - 1 + 3) q hl' (by omega) ho1 hr hnr
          obtain ⟨j2,p2,q2,e2,o2⟩:=val_rest vals n _ (o - 1 + 3 - 1) l1 (by omega) o1 k1
          obtain ⟨l2,_,k2,n2⟩:=val_next vals n _ (o - 1 + 3 - 1) q l1 (by omega) o1 k1 n1
          obtain ⟨j3,p3,q3,e3,o3⟩:=val_rest vals n _ (o - 1 + 3 - 1 - 1) l2 (by omega) o2 k2
          have w1:(valS vals n r).2.length=r.length - j1:=by rw [e1]; simp
          have w2:(valS vals n (valS vals n r).2).2.length=(valS vals n r).2.length - j2:=by rw [e2]; simp
          have w3:(valS vals n (valS vals n (valS vals n r).2).2).2.length=(valS vals n (valS vals n r).2).2.length - j3:=by rw [e3]; simp
          rw [a3]
          obtain ⟨_,_,b3⟩:=lay_hg n (valS vals n r).2 (h + (layS n r h).1.length + 1) 0 vals
          rw [b3]
          have sa:=lay_ops q vals n r (o - 1 + 3) h hl' (by omega) ho1 hr hnr
          have sb:=lay_ops q vals n _ (o - 1 + 3 - 1) (h + (layS n r h).1.length + 1) l1 (by omega) o1 k1 n1
          have sd:=lay_ops q vals n _ (o - 1 + 3 - 1 - 1) (h + (layS n r h).1.length + 1 + (layS n (valS vals n r).2 (h + (layS n r h).1.length + 1)).1.length + 1) l2 (by omega) o2 k2 n2
          simp only [List.length_append,List.length_cons]
          generalize layS n r h=A at *
          generalize layS n (valS vals n r).2 (h + A.1.length + 1)=B at *
          generalize layS n (valS vals n (valS vals n r).2).2 (h + A.1.length + 1 + B.1.length + 1)=D at *
          refine ⟨fun y hy=>?_,by omega⟩
          rcases List.mem_append.1 hy with hy | hy
          · exact (sa.1 y hy).more (by omega)
          rcases List.mem_cons.1 hy with rfl | hy
          · exact .inr (.inr (.inr ⟨.inr rfl,by simp only; omega,by simp only; omega⟩))
          rcases List.mem_append.1 hy with hy | hy
          · exact (sb.1 y hy).more (by omega)
          rcases List.mem_cons.1 hy with rfl | hy
          · exact .inr (.inr (.inr ⟨.inl rfl,by simp only; omega,by simp only; omega⟩))
          · exact (sd.1 y hy).more (by omega)
        · simp only [h7,if_false]
          have hp:partsS x.1=2:=by unfold partsS; rw [if_neg (by omega),if_pos (by omega)]
          rw [hp] at ho1
          obtain ⟨j1,p1,q1,e1,o1⟩:=val_rest vals n r (o - 1 + 2) hl' (by omega) ho1 hr
          obtain ⟨l1,_,k1,n1⟩:=val_next vals n r (o - 1 + 2) q hl' (by omega) ho1 hr hnr
          obtain ⟨j2,p2,q2,e2,o2⟩:=val_rest vals n _ (o - 1 + 2 - 1) l1 (by omega) o1 k1
          have w1:(valS vals n r).2.length=r.length - j1:=by rw [e1]; simp
          have w2:(valS vals n (valS vals n r).2).2.length=(valS vals n r).2.length - j2:=by rw [e2]; simp
          rw [a3]
          have sa:=lay_ops q vals n r (o - 1 + 2) h hl' (by omega) ho1 hr hnr
          have sb:=lay_ops q vals n _ (o - 1 + 2 - 1) (h + (layS n r h).1.length) l1 (by omega) o1 k1 n1
          simp only [List.length_append,List.length_cons,List.length_nil]
          generalize layS n r h=A at *
          generalize layS n (valS vals n r).2 (h + A.1.length)=B at *
          refine ⟨fun y hy=>?_,by omega⟩
          rcases List.mem_append.1 hy with hy | hy
          · exact (sa.1 y hy).more (by omega)
          rcases List.mem_append.1 hy with hy | hy
          · exact (sb.1 y hy).more (by omega)
          · obtain rfl:=List.mem_singleton.1 hy
            exact .inr (.inr (.inl ⟨by show 4≤x.1 + 2; omega,by show x.1 + 2≤8; omega,rfl⟩))

def fnH (e:List (Int × Int)):List Int:=(hgS 9 e 0).1++[1]
theorem At.self {α:Type} (c d:List α):At (c++d) 0 c:=fun k x hx=>by
  rw [Nat.zero_add,List.getElem?_append_left (List.getElem?_eq_some_iff.1 hx).1]; exact hx
structure ExG (e:List (Int × Int)) (L:Int):Prop where
  lo:0≤L
  hi:L≤4
  len:e.length≤9
  kinds:∀ x∈e,kindOk x
  nums:∀ x∈e,numOk L x
  one:onlyS e 1=true
theorem ExG.of {e:List (Int × Int)} {L:Int} (h:exErrS e L=0):ExG e L:=by
  obtain ⟨a,b,c,d,f,g⟩:=exErr_ok h
  exact ⟨a,b,c,d,f,g⟩
theorem ExG.rest {e:List (Int × Int)} {L:Int} (h:ExG e L) (vals:List Int):(valS vals 9 e).2=[]:=by
  obtain ⟨_,_,_,_,o⟩:=val_rest vals 9 e 1 h.len (by omega) h.one h.kinds
  exact one_nil o
theorem ExG.most {e:List (Int × Int)} {L:Int} (h:ExG e L):(layS 9 e 0).1.length≤18:=by
  have:=(lay_ops L [] 9 e 1 0 h.len (by omega) h.one h.kinds h.nums).2
  have:=h.len
  omega
theorem ExG.seg {e:List (Int × Int)} {L:Int} (h:ExG e L) (p:List Fn):0 < (layS 9 e 0).1.length∧(fnH e).getD 0 0=0∧Seg p (fnS e L).code (fnH e) 0 (layS 9 e 0).1.length:=by
  have hr:=h.rest []
  have hl:=(lay_hg 9 e 0 0 []).1
  have hend:(fnH e).getD (0 + (layS 9 e 0).1.length) 0=0 + 1:=by
    unfold fnH
    rw [Nat.zero_add,← hl]
    simp
  have:=lay_seg p (fnS e L).code (fnH e) [] 9 e 1 0 0 h.len (by omega) h.one h.kinds (by omega) (by rw [hr]; have:=h.len; simp; omega) (At.self _ _) (At.self _ _) hend
  simpa using this
theorem ExG.cons {e:List (Int × Int)} {L:Int} (h:ExG e L) (p:List Fn) (hright:Right p (fnS e L).code):Cons p (fnS e L).code (fnH e)∧Sound p (fnS e L).code (fnH e):=by
  obtain ⟨s1,s2,s3⟩:=h.seg p
  have hl:=(lay_hg 9 e 0 0 []).1
  have hlen:(fnH e).length=(fnS e L).code.length:=by simp [fnH,fnS,hl]
  have hcl:(fnS e L).code.length=(layS 9 e 0).1.length + 1:=by simp [fnS]
  have hlast:(fnS e L).code[(layS 9 e 0).1.length]?=some (12,0):=by simp [fnS]
  have hH:(fnH e).getD (layS 9 e 0).1.length 0=1:=by unfold fnH; rw [← hl]; simp
  have hdone:∀ k,k < (fnS e L).code.length→Done p (fnS e L).code (fnH e) k:=fun k hk=>by
    by_cases ek:k < (layS 9 e 0).1.length
    · obtain ⟨x,m,q1,q2,q3⟩:=s3 k (Nat.zero_le _) ek
      exact ⟨x,m,q1,q2,fun j hj=>⟨by have:=(q3 j hj).1; omega,(q3 j hj).2⟩⟩
    · obtain rfl:k=(layS 9 e 0).1.length:=by omega
      refine ⟨(12,0),0,hlast,?_,fun j hj=>by simp [nexts] at hj⟩
      rw [hH]
      have he:effS p 12 0=(1,0,0):=by unfold effS; rw [if_pos (by omega),if_neg (by omega)]; rfl
      unfold beh
      rw [he]
      decide
  have hcons:Cons p (fnS e L).code (fnH e):=⟨hlen,by omega,s2,fun k hk _=>hdone k hk⟩
  refine ⟨hcons,fun k hk=>.inr ?_⟩
  have hre:∀ k,k≤(layS 9 e 0).1.length→Reach p (fnS e L).code k ((fnH e).getD k 0):=fun k hk=>by
    refine lay_reach (fnS e L).code [] (layS 9 e 0).1.length (fun k=>Reach p (fnS e L).code k ((fnH e).getD k 0)) (fun k x j hx hkL hR hj=>?_) 9 e 1 0 h.len (by omega) h.one h.kinds (At.self _ _) (by omega) (by rw [s2]; exact Reach.zero p _) k (Nat.zero_le _) (by omega)
    obtain ⟨x',m,q1,q2,q3⟩:=s3 k (Nat.zero_le _) hkL
    obtain rfl:x=x':=by rw [hx] at q1; exact Option.some.inj q1
    rw [(q3 j hj).2]
    exact hR.step hx q2 hj
  have hR:=hre k (by omega)
  exact ⟨(hR.in hcons hright).2.2,hR⟩
theorem opS_of {p:List Fn} {g:Fn} {kd a:Int} (h0:0≤kd) (h1:kd < 17) (h13:kd≠13) (hm:mayB p g (opd kd.toNat) a=true):opS p g (kd,a)=0:=by
  unfold opS
  rw [if_pos ⟨h0,h1⟩,if_pos hm,if_neg (fun h=>h13 h.1)]
theorem ExG.right {e:List (Int × Int)} {L:Int} (h:ExG e L) (p:List Fn):∀ x∈(fnS e L).code,opS p (fnS e L) x=0:=by
  intro x hx
  have hcl:(fnS e L).code.length=(layS 9 e 0).1.length + 1:=by simp [fnS]
  have hops:=(lay_ops L [] 9 e 1 0 h.len (by omega) h.one h.kinds h.nums).1
  have:OpF L (layS 9 e 0).1.length x∨x=(12,0):=by
    rcases List.mem_append.1 (show x∈(layS 9 e 0).1++[(12,0)] from hx) with hx | hx
    · left; simpa using hops x hx
    · right; exact List.mem_singleton.1 hx
  obtain ⟨kd,a⟩:=x
  have hl:((fnS e L).locals:Int)=L:=rfl
  rcases this with (⟨h1,h2,h3⟩ | ⟨h1,h2,h3⟩ | ⟨h1,h2,h3⟩ | ⟨h1,h2,h3⟩) | h1
  · have h1':kd=0:=h1
    subst h1'
    exact opS_of (by omega) (by omega) (by omega) (show inB a 0 999=true from inB_true h2 h3)
  · have h1':kd=2:=h1
    subst h1'
    exact opS_of (by omega) (by omega) (by omega) (show ixB a L=true from ixB_iff.2 ⟨h2,h3⟩)
  · have h3':a=0:=h3
    subst h3'
    have hk:kd=4∨kd=5∨kd=6∨kd=7∨kd=8:=by
      have h1':4≤kd:=h1
      have h2':kd≤8:=h2
      omega
    rcases hk with rfl | rfl | rfl | rfl | rfl <;> exact opS_of (by omega) (by omega) (by omega) rfl
  · have h1':kd=9∨kd=10:=h1
    have h2':0≤a:=h2
    have h3':a≤((layS 9 e 0).1.length:Int):=h3
    have hi:ixB a (fnS e L).code.length=true:=ixB_iff.2 ⟨h2',by rw [hcl]; omega⟩
    rcases h1' with rfl | rfl <;> exact opS_of (by omega) (by omega) (by omega) hi
  · cases h1
    exact opS_of (by omega) (by omega) (by omega) rfl
theorem ExG.heights {e:List (Int × Int)} {L:Int} (h:ExG e L) (p:List Fn):heightsS p (fnS e L).code=some (fnH e):=by
  have hr:Right p (fnS e L).code:=⟨fnS e L,rfl,h.right p⟩
  obtain ⟨a,b⟩:=h.cons p hr
  exact heights_of_consF hr a b
theorem ExG.chk {e:List (Int × Int)} {L:Int} (h:ExG e L) (p:List Fn) {f:Nat} (hf:p[f]?=some (fnS e L)):chkS p f=0:=by
  have hlt:f < p.length:=(List.getElem?_eq_some_iff.1 hf).1
  have hg:p.getD (f:Int).toNat Fn.zero=fnS e L:=by simp [List.getD,hf]
  have hm:=h.most
  have:=h.lo
  have:=h.hi
  unfold chkS
  rw [if_pos (by omega)]
  simp only [hg]
  rw [if_neg (by simp [fnS]; omega),if_pos (show roomB (fnS e L).args (fnS e L).locals=true from roomB_iff.2 ⟨h.lo,Int.le_refl _,h.hi⟩)]
  exact opsS_of_allF (h.right p)

def mainS (vals:List Int):Fn:=⟨0,0,vals.map (fun v=>(0,v))++[(11,1),(12,0)]⟩
def mainH (n:Nat):List Int:=(List.range (n + 1)).map (fun (k:Nat)=>(k:Int))++[1]
def forgeP (e:List (Int × Int)) (vals:List Int):List Fn:=[mainS vals,fnS e vals.length]
theorem main_len (vals:List Int):(mainS vals).code.length=vals.length + 2:=by simp [mainS]
theorem main_at (vals:List Int) (k:Nat):(mainS vals).code[k]?=if k < vals.length then some (0,vals.getD k 0) else if k=vals.length then some (11,1) else if k=vals.length + 1 then some (12,0) else none:=by
  unfold mainS
  simp only
  by_cases h:k < vals.length
  · rw [if_pos h,List.getElem?_append_left (by simpa using h),List.getElem?_map,List.getElem?_eq_getElem h]
    simp [List.getD,h]
  · rw [if_neg h,List.getElem?_append_right (by simp; omega)]
    simp only [List.length_map]
    by_cases h1:k=vals.length
    · rw [if_pos h1,h1]; simp
    · rw [if_neg h1]
      by_cases h2:k=vals.length + 1
      · rw [if_pos h2,h2,show vals.length + 1 - vals.length=1 by omega]; rfl
      · rw [if_neg h2,List.getElem?_eq_none (by simp; omega)]
theorem mainH_at (n k:Nat):(mainH n).getD k 0=if k≤n then (k:Int) else if k=n + 1 then 1 else 0:=by
  unfold mainH
  rw [List.getD_eq_getElem?_getD]
  by_cases h:k≤n
  · rw [if_pos h,List.getElem?_append_left (by simp; omega),List.getElem?_map,List.getElem?_range (by omega)]
    rfl
  · rw [if_neg h,List.getElem?_append_right (by simp; omega)]
    simp only [List.length_map,List.length_range]
    by_cases h1:k=n + 1
    · rw [if_pos h1,h1,Nat.sub_self]; rfl
    · rw [if_neg h1,List.getElem?_eq_none (by simp; omega)]; rfl
section
variable {e:List (Int × Int)} {vals:List Int}
theorem forge_call (e:List (Int × Int)) (vals:List Int):effS (forgeP e vals) 11 1=((vals.length:Int),1,0):=by
  unfold effS
  rw [if_pos (by omega),if_pos rfl,if_pos (by simp [forgeP])]
  rfl
theorem main_right (h:ExG e vals.length) (hv:∀ v∈vals,0≤v∧v≤999):∀ x∈(mainS vals).code,opS (forgeP e vals) (mainS vals) x=0:=by
  intro x hx
  rcases List.mem_append.1 (show x∈vals.map (fun v=>((0:Int),v))++[(11,1),(12,0)] from hx) with hx | hx
  · obtain ⟨v,hvm,rfl⟩:=List.mem_map.1 hx
    exact opS_of (by omega) (by omega) (by omega) (show inB v 0 999=true from inB_true (hv v hvm).1 (hv v hvm).2)
  · rcases List.mem_cons.1 hx with rfl | hx
    · refine opS_of (by omega) (by omega) (by omega) ?_
      show (ixB 1 (forgeP e vals).length && roomB (vals.length:Int) (vals.length:Int))=true
      rw [ixB_iff.2 (by simp [forgeP]),roomB_iff.2 ⟨by omega,Int.le_refl _,h.hi⟩]
      rfl
    · obtain rfl:=List.mem_singleton.1 hx
      exact opS_of (by omega) (by omega) (by omega) rfl
theorem main_cons (h:ExG e vals.length) (hv:∀ v∈vals,0≤v∧v≤999):Cons (forgeP e vals) (mainS vals).code (mainH vals.length)∧Sound (forgeP e vals) (mainS vals).code (mainH vals.length):=by
  have h4:=h.hi
  have hlen:=main_len vals
  have hdone:∀ k,k < (mainS vals).code.length→Done (forgeP e vals) (mainS vals).code (mainH vals.length) k:=fun k hk=>by
    rw [hlen] at hk
    by_cases h1:k < vals.length
    · refine ⟨(0,vals.getD k 0),(k:Int) + 1,by rw [main_at,if_pos h1],?_,fun j hj=>?_⟩
      · rw [mainH_at,if_pos (by omega)]
        exact beh_plain _ (x:=(0,vals.getD k 0)) (by simp) (by simp) (t:=0) (l:=1) rfl rfl (by omega) (by omega) (by omega)
      · obtain rfl:j=k + 1:=by simpa [nexts] using hj
        exact ⟨by omega,by rw [mainH_at,if_pos (by omega)]; omega⟩
    · by_cases h2:k=vals.length
      · refine ⟨(11,1),1,by rw [main_at,if_neg h1,if_pos h2],?_,fun j hj=>?_⟩
        · rw [mainH_at,if_pos (by omega)]
          unfold beh
          rw [forge_call e vals,if_pos ⟨rfl,by simp only; omega,(fun hh=>absurd hh.1 (by decide)),by simp only; omega⟩]
          simp only [Option.some.injEq]
          omega
        · obtain rfl:j=k + 1:=by simpa [nexts] using hj
          exact ⟨by omega,by rw [mainH_at,if_neg (by omega),if_pos (by omega)]⟩
      · have h3:k=vals.length + 1:=by omega
        refine ⟨(12,0),0,by rw [main_at,if_neg h1,if_neg h2,if_pos h3],?_,fun j hj=>by simp [nexts] at hj⟩
        rw [mainH_at,if_neg (by omega),if_pos h3]
        have he:effS (forgeP e vals) 12 0=(1,0,0):=by unfold effS; rw [if_pos (by omega),if_neg (by omega)]; rfl
        unfold beh
        rw [he]
        decide
  have hcons:Cons (forgeP e vals) (mainS vals).code (mainH vals.length):=⟨by rw [hlen]; simp [mainH],by omega,by rw [mainH_at]; simp,fun k hk _=>hdone k hk⟩
  have hre:∀ k,k≤vals.length + 1→Reach (forgeP e vals) (mainS vals).code k ((mainH vals.length).getD k 0):=by
    intro k
    induction k with
    | zero=>intro _; rw [hcons.first]; exact Reach.zero _ _
    | succ k ih =>
      intro hk
      obtain ⟨x,m,q1,q2,q3⟩:=hdone k (by omega)
      have hj:k + 1∈nexts x k:=by
        rw [main_at] at q1
        by_cases h1:k < vals.length
        · rw [if_pos h1] at q1
          obtain rfl:=Option.some.inj q1
          simp [nexts]
        · rw [if_neg h1,if_pos (by omega)] at q1
          obtain rfl:=Option.some.inj q1
          simp [nexts]
      rw [(q3 _ hj).2]
      exact (ih (by omega)).step q1 q2 hj
  refine ⟨hcons,fun k hk=>.inr ?_⟩
  have hR:=hre k (by omega)
  exact ⟨(hR.in hcons ⟨mainS vals,rfl,main_right h hv⟩).2.2,hR⟩
theorem forge_right (h:ExG e vals.length) (hv:∀ v∈vals,0≤v∧v≤999):progS (forgeP e vals)=0∧heightsS (forgeP e vals) (codeOf (forgeP e vals) 0)=some (mainH vals.length)∧heightsS (forgeP e vals) (codeOf (forgeP e vals) 1)=some (fnH e):=by
  have h4:=h.hi
  have hm:heightsS (forgeP e vals) (mainS vals).code=some (mainH vals.length):=heights_of_consF ⟨mainS vals,rfl,main_right h hv⟩ (main_cons h hv).1 (main_cons h hv).2
  have hf:=h.heights (forgeP e vals)
  have c1:chkS (forgeP e vals) (1:Nat)=0:=h.chk (forgeP e vals) (f:=1) rfl
  have c0:chkS (forgeP e vals) (0:Nat)=0:=by
    unfold chkS
    rw [if_pos (by simp [forgeP])]
    show (if 24 < (mainS vals).code.length then 2 else if roomB 0 0=true then opsS (forgeP e vals) (mainS vals) (mainS vals).code else 3)=0
    rw [if_neg (by rw [main_len]; omega),if_pos (show roomB 0 0=true from rfl)]
    exact opsS_of_allF (main_right h hv)
  have hE0:hgtE (forgeP e vals) 0=0:=by unfold hgtE; rw [show codeOf (forgeP e vals) 0=(mainS vals).code from rfl,hm]
  have hE1:hgtE (forgeP e vals) 1=0:=by unfold hgtE; rw [show codeOf (forgeP e vals) 1=(fnS e vals.length).code from rfl,hf]
  refine ⟨?_,hm,hf⟩
  unfold progS
  rw [if_neg (by simp [forgeP]),if_neg (by simp [forgeP]),if_neg (by simp [forgeP,mainS])]
  show (if firstS (fun k=>chkS (forgeP e vals) k) 0 2=0 then firstS (hgtE (forgeP e vals)) 0 2 else firstS (fun k=>chkS (forgeP e vals) k) 0 2)=0
  have:firstS (fun k=>chkS (forgeP e vals) k) 0 2=0:=firstS_allF 2 0 (fun i h1 h2=>by
    have:i=0∨i=1:=by omega
    rcases this with rfl | rfl
    · exact c0
    · exact c1)
  rw [if_pos this]
  exact firstS_allF 2 0 (fun i h1 h2=>by
    have:i=0∨i=1:=by omega
    rcases this with rfl | rfl
    · exact hE0
    · exact hE1)
end
end Go.Proofs.YtogcfkmekdpmmaaDoor
