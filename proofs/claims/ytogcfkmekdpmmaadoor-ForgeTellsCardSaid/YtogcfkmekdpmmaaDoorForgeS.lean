/-
  Expressions as functions, plain (K1): the ops of an expression, how high the stack is at each.
-/
import Derived.Test.YtogcfkmekdpmmaaDoorExprS
import Derived.Test.YtogcfkmekdpmmaaDoorFB13
set_option maxRecDepth 100000
set_option maxHeartbeats 8000000
namespace Go.Proofs.YtogcfkmekdpmmaaDoor

def layS:Nat→List (Int × Int)→Nat→List (Int × Int) × List (Int × Int)
  | 0,e,_=>([],e)
  | _ + 1,[],_=>([],[])
  | n + 1,x :: r,h =>
    if x.1=0 then ([(0,x.2)],r) else if x.1=1 then ([(2,x.2)],r)
    else if x.1=7 then
      let a:=layS n r h
      let b:=layS n a.2 (h + a.1.length + 1)
      let c:=layS n b.2 (h + a.1.length + 1 + b.1.length + 1)
      (a.1++((10,((h + a.1.length + 1 + b.1.length + 1:Nat):Int)) :: (b.1++((9,((h + a.1.length + 1 + b.1.length + 1 + c.1.length:Nat):Int)) :: c.1))),c.2)
    else
      let a:=layS n r h
      let b:=layS n a.2 (h + a.1.length)
      (a.1++(b.1++[(x.1 + 2,0)]),b.2)
def hgS:Nat→List (Int × Int)→Int→List Int × List (Int × Int)
  | 0,e,_=>([],e)
  | _ + 1,[],_=>([],[])
  | n + 1,x :: r,z =>
    if x.1=0 then ([z],r) else if x.1=1 then ([z],r)
    else if x.1=7 then
      let a:=hgS n r z
      let b:=hgS n a.2 z
      let c:=hgS n b.2 z
      (a.1++((z + 1) :: (b.1++((z + 1) :: c.1))),c.2)
    else
      let a:=hgS n r z
      let b:=hgS n a.2 (z + 1)
      (a.1++(b.1++[z + 2]),b.2)
theorem lay_hg:∀ (n:Nat) (e:List (Int × Int)) (h:Nat) (z:Int) (vals:List Int),(hgS n e z).1.length=(layS n e h).1.length∧(hgS n e z).2=(valS vals n e).2∧(layS n e h).2=(valS vals n e).2
  | 0,e,_,_,_=>⟨rfl,rfl,rfl⟩
  | _ + 1,[],_,_,_=>⟨rfl,rfl,rfl⟩
  | n + 1,x :: r,h,z,vals=>by
    unfold layS hgS valS
    split
    · exact ⟨rfl,rfl,rfl⟩
    split
    · exact ⟨rfl,rfl,rfl⟩
    split
    · obtain ⟨a1,a2,a3⟩:=lay_hg n r h z vals
      obtain ⟨b1,b2,b3⟩:=lay_hg n (valS vals n r).2 (h + (layS n r h).1.length + 1) z vals
      obtain ⟨c1,c2,c3⟩:=lay_hg n (valS vals n (valS vals n r).2).2 (h + (layS n r h).1.length + 1 + (layS n (valS vals n r).2 (h + (layS n r h).1.length + 1)).1.length + 1) z vals
      simp only [a2,a3,b2,b3,c2,c3,List.length_append,List.length_cons]
      exact ⟨by omega,trivial,trivial⟩
    · obtain ⟨a1,a2,a3⟩:=lay_hg n r h z vals
      obtain ⟨b1,b2,b3⟩:=lay_hg n (valS vals n r).2 (h + (layS n r h).1.length) (z + 1) vals
      simp only [a2,a3,b2,b3,List.length_append,List.length_cons,List.length_nil]
      exact ⟨by omega,trivial,trivial⟩
def At {α:Type} (C:List α) (h:Nat) (c:List α):Prop:=∀ k x,c[k]?=some x→C[h + k]?=some x
theorem At.app {α:Type} {C:List α} {h:Nat} {c d:List α} (a:At C h (c++d)):At C h c∧At C (h + c.length) d:=by
  refine ⟨fun k x hx=>a k x ?_,fun k x hx=>?_⟩
  · rw [List.getElem?_append_left (List.getElem?_eq_some_iff.1 hx).1]; exact hx
  · have:=a (c.length + k) x (by rw [List.getElem?_append_right (by omega)]; simpa using hx)
    rwa [← Nat.add_assoc] at this
theorem At.cons {α:Type} {C:List α} {h:Nat} {x:α} {d:List α} (a:At C h (x :: d)):C[h]?=some x∧At C (h + 1) d:=by
  refine ⟨a 0 x rfl,fun k y hy=>?_⟩
  have:=a (k + 1) y hy
  rwa [show h + (k + 1)=h + 1 + k by omega] at this
theorem At.getD {α:Type} {C:List α} {h:Nat} {x d:α} {c:List α} (a:At C h (x :: c)):C.getD h d=x:=by
  have:=a.cons.1
  simp [List.getD,this]
def Seg (p:List Fn) (C:List (Int × Int)) (H:List Int) (a b:Nat):Prop :=
  ∀ k,a≤k→k < b→∃ x m,C[k]?=some x∧beh p x (H.getD k 0)=some m∧∀ j,j∈nexts x k→j≤b∧H.getD j 0=m
theorem Seg.nil (p:List Fn) (C:List (Int × Int)) (H:List Int) (a:Nat):Seg p C H a a:=fun k h1 h2=>by omega
theorem Seg.app {p:List Fn} {C:List (Int × Int)} {H:List Int} {a b c:Nat} (h:Seg p C H a b) (g:Seg p C H b c) (hc:b≤c):Seg p C H a c:=fun k h1 h2=>by
  by_cases e:k < b
  · obtain ⟨x,m,q1,q2,q3⟩:=h k h1 e
    exact ⟨x,m,q1,q2,fun j hj=>⟨by have:=(q3 j hj).1; omega,(q3 j hj).2⟩⟩
  · exact g k (by omega) h2
theorem Seg.one {p:List Fn} {C:List (Int × Int)} {H:List Int} {a b:Nat} {x:Int × Int} {m:Int} (hx:C[a]?=some x) (hb:beh p x (H.getD a 0)=some m) (hn:∀ j,j∈nexts x a→j≤b∧H.getD j 0=m) (hab:a < b) (g:Seg p C H (a + 1) b):Seg p C H a b:=fun k h1 h2=>by
  by_cases e:k=a
  · subst e; exact ⟨x,m,hx,hb,hn⟩
  · exact g k (by omega) h2
theorem beh_plain (p:List Fn) {x:Int × Int} {z:Int} (h0:0≤x.1) (h9:x.1≤10) {t l:Int} (ht:tk x.1.toNat=t) (hl:lv x.1.toNat=l) {m:Int} (h1:t≤z) (h2:m≤8) (hm:m=z - t + l):beh p x z=some m:=by
  subst hm
  have he:effS p x.1 x.2=(t,l,0):=by unfold effS; rw [if_pos (by omega),if_neg (by omega),ht,hl]
  unfold beh
  rw [he,if_pos ⟨rfl,h1,fun h=>by omega,h2⟩]
theorem nexts_jump (t k:Nat):nexts (9,(t:Int)) k=[t]:=by simp [nexts]
theorem nexts_zero (t k:Nat):nexts (10,(t:Int)) k=[t,k + 1]:=by simp [nexts]
theorem getD_of_at {C:List Int} {h:Nat} {x:Int} (a:C[h]?=some x):C.getD h 0=x:=by simp [List.getD,a]
theorem lay_seg (p:List Fn) (C:List (Int × Int)) (H:List Int) (vals:List Int):∀ (n:Nat) (e:List (Int × Int)) (o:Int) (h:Nat) (z:Int),e.length≤n→1≤o→onlyS e o=true→(∀ x∈e,kindOk x) →
    0≤z→2 * z + ((e.length - (valS vals n e).2.length:Nat):Int) + 1≤16→At C h (layS n e h).1→At H h (hgS n e z).1→H.getD (h + (layS n e h).1.length) 0=z + 1 →
    0 < (layS n e h).1.length∧H.getD h 0=z∧Seg p C H h (h + (layS n e h).1.length)
  | n,[],o,_,_,_,ho,h,_,_,_,_,_,_=>by simp [onlyS] at h; omega
  | 0,x :: r,o,_,_,hl,_,_,_,_,_,_,_,_=>by simp at hl
  | n + 1,x :: r,o,h,z,hl,ho,ho1,hk,hz,hb,hC,hH,hend=>by
    have hx:=hk x (by simp)
    have hr:∀ y∈r,kindOk y:=fun y hy=>hk y (by simp [hy])
    have hl':r.length≤n:=by simpa using hl
    simp only [onlyS] at ho1
    rw [if_neg (by omega)] at ho1
    unfold kindOk at hx
    unfold layS at hC hend ⊢
    unfold hgS at hH
    unfold valS at hb
    by_cases h0:x.1=0
    · simp only [h0,if_true] at hC hH hb hend ⊢
      have e1:=getD_of_at hH.cons.1
      refine ⟨by simp,e1,Seg.one (x:=(0,x.2)) (m:=z + 1) hC.cons.1 ?_ ?_ (by simp) (Seg.nil _ _ _ _)⟩
      · rw [e1]; exact beh_plain p (x:=(0,x.2)) (by simp) (by simp) (t:=0) (l:=1) rfl rfl (by omega) (by simp at hb; omega) (by omega)
      · intro j hj
        obtain rfl:j=h + 1:=by simpa [nexts] using hj
        exact ⟨Nat.le_refl _,hend⟩
    · simp only [h0,if_false] at hC hH hb hend ⊢
      by_cases h1:x.1=1
      · simp only [h1,if_true] at hC hH hb hend ⊢
        have e1:=getD_of_at hH.cons.1
        refine ⟨by simp,e1,Seg.one (x:=(2,x.2)) (m:=z + 1) hC.cons.1 ?_ ?_ (by simp) (Seg.nil _ _ _ _)⟩
        · rw [e1]; exact beh_plain p (x:=(2,x.2)) (by simp) (by simp) (t:=0) (l:=1) rfl rfl (by omega) (by simp at hb; omega) (by omega)
        · intro j hj
          obtain rfl:j=h + 1:=by simpa [nexts] using hj
          exact ⟨Nat.le_refl _,hend⟩
      · simp only [h1,if_false] at hC hH hb hend ⊢
        obtain ⟨a1,a2,a3⟩:=lay_hg n r h z vals
        by_cases h7:x.1=7
        · simp only [h7,if_true] at hC hH hb hend ⊢
          have hp:partsS x.1=3:=by rw [h7]; rfl
          rw [hp] at ho1
          obtain ⟨j1,p1,q1,e1,o1⟩:=val_rest vals n r (o - 1 + 3) hl' (by omega) ho1 hr
          have k1:∀ y∈(valS vals n r).2,kindOk y:=by rw [e1]; exact fun y hy=>hr y (List.mem_of_mem_drop hy)
          have l1:(valS vals n r).2.length≤n:=by rw [e1]; simp; omega
          obtain ⟨j2,p2,q2,e2,o2⟩:=val_rest vals n _ (o - 1 + 3 - 1) l1 (by omega) o1 k1
          have k2:∀ y∈(valS vals n (valS vals n r).2).2,kindOk y:=by rw [e2]; exact fun y hy=>k1 y (List.mem_of_mem_drop hy)
          have l2:(valS vals n (valS vals n r).2).2.length≤n:=by rw [e2]; simp; omega
          obtain ⟨j3,p3,q3,e3,o3⟩:=val_rest vals n _ (o - 1 + 3 - 1 - 1) l2 (by omega) o2 k2
          have w1:(valS vals n r).2.length=r.length - j1:=by rw [e1]; simp
          have w2:(valS vals n (valS vals n r).2).2.length=(valS vals n r).2.length - j2:=by rw [e2]; simp
          have w3:(valS vals n (valS vals n (valS vals n r).2).2).2.length=(valS vals n (valS vals n r).2).2.length - j3:=by rw [e3]; simp
          rw [a3] at hC hend ⊢
          rw [a2] at hH
          obtain ⟨b1,b2,b3⟩:=lay_hg n (valS vals n r).2 (h + (layS n r h).1.length + 1) z vals
          rw [b3] at hC hend ⊢
          rw [b2] at hH
          obtain ⟨c1,_,_⟩:=lay_hg n (valS vals n (valS vals n r).2).2 (h + (layS n r h).1.length + 1 + (layS n (valS vals n r).2 (h + (layS n r h).1.length + 1)).1.length + 1) z vals
          obtain ⟨hCa,hC'⟩:=hC.app
          obtain ⟨hCz,hC'⟩:=hC'.cons
          obtain ⟨hCb,hC'⟩:=hC'.app
          obtain ⟨hCj,hCc⟩:=hC'.cons
          obtain ⟨hHa,hH'⟩:=hH.app
          rw [a1] at hH'
          obtain ⟨hHz,hH'⟩:=hH'.cons
          obtain ⟨hHb,hH'⟩:=hH'.app
          rw [b1] at hH'
          obtain ⟨hHj,hHc⟩:=hH'.cons
          have e5:=getD_of_at hHz
          have e6:=getD_of_at hHj
          simp only [List.length_append,List.length_cons] at hend ⊢
          simp only [List.length_cons] at hb
          generalize hA:layS n r h=A at *
          generalize hB:layS n (valS vals n r).2 (h + A.1.length + 1)=B at *
          generalize hD:layS n (valS vals n (valS vals n r).2).2 (h + A.1.length + 1 + B.1.length + 1)=D at *
          have hend':H.getD (h + A.1.length + 1 + B.1.length + 1 + D.1.length) 0=z + 1:=by rw [← hend]; congr 1; omega
          have sd:=lay_seg p C H vals n (valS vals n (valS vals n r).2).2 (o - 1 + 3 - 1 - 1) (h + A.1.length + 1 + B.1.length + 1) z l2 (by omega) o2 k2 hz (by omega) (by rw [hD]; exact hCc) hHc (by rw [hD]; exact hend')
          rw [hD] at sd
          have sb:=lay_seg p C H vals n (valS vals n r).2 (o - 1 + 3 - 1) (h + A.1.length + 1) z l1 (by omega) o1 k1 hz (by omega) (by rw [hB]; exact hCb) hHb (by rw [hB]; exact e6)
          rw [hB] at sb
          have sa:=lay_seg p C H vals n r (o - 1 + 3) h z hl' (by omega) ho1 hr hz (by omega) (by rw [hA]; exact hCa) hHa (by rw [hA]; exact e5)
          rw [hA] at sa
          have sj:Seg p C H (h + A.1.length + 1 + B.1.length) (h + A.1.length + 1 + B.1.length + 1 + D.1.length):=by
            refine Seg.one (m:=z + 1) hCj ?_ ?_ (by omega) sd.2.2
            · rw [e6]; exact beh_plain p (by simp) (by simp) (t:=0) (l:=0) rfl rfl (by omega) (by omega) (by omega)
            · intro j hj
              obtain rfl:j=h + A.1.length + 1 + B.1.length + 1 + D.1.length:=by rw [nexts_jump] at hj; exact List.mem_singleton.1 hj
              exact ⟨Nat.le_refl _,hend'⟩
          have sz:Seg p C H (h + A.1.length) (h + A.1.length + 1 + B.1.length + 1 + D.1.length):=by
            refine Seg.one (m:=z) hCz ?_ ?_ (by omega) (sb.2.2.app sj (by omega))
            · rw [e5]; exact beh_plain p (by simp) (by simp) (t:=1) (l:=0) rfl rfl (by omega) (by omega) (by omega)
            · intro j hj
              have hj':j=h + A.1.length + 1 + B.1.length + 1∨j=h + A.1.length + 1:=by
                rw [nexts_zero] at hj
                rcases List.mem_cons.1 hj with e | e
                · exact .inl e
                · exact .inr (List.mem_singleton.1 e)
              rcases hj' with rfl | rfl
              · exact ⟨by omega,sd.2.1⟩
              · exact ⟨by omega,sb.2.1⟩
          have:=sa.2.2.app sz (by omega)
          refine ⟨by omega,sa.2.1,?_⟩
          rw [show h + (A.1.length + (B.1.length + (D.1.length + 1) + 1))=h + A.1.length + 1 + B.1.length + 1 + D.1.length by omega]
          exact this
        · simp only [h7,if_false] at hC hH hb hend ⊢
          have hp:partsS x.1=2:=by unfold partsS; rw [if_neg (by omega),if_pos (by omega)]
          rw [hp] at ho1
          obtain ⟨j1,p1,q1,e1,o1⟩:=val_rest vals n r (o - 1 + 2) hl' (by omega) ho1 hr
          have k1:∀ y∈(valS vals n r).2,kindOk y:=by rw [e1]; exact fun y hy=>hr y (List.mem_of_mem_drop hy)
          have l1:(valS vals n r).2.length≤n:=by rw [e1]; simp; omega
          obtain ⟨j2,p2,q2,e2,o2⟩:=val_rest vals n _ (o - 1 + 2 - 1) l1 (by omega) o1 k1
          have w1:(valS vals n r).2.length=r.length - j1:=by rw [e1]; simp
          have w2:(valS vals n (valS vals n r).2).2.length=(valS vals n r).2.length - j2:=by rw [e2]; simp
          rw [a3] at hC hend ⊢
          rw [a2] at hH
          obtain ⟨b1,b2,b3⟩:=lay_hg n (valS vals n r).2 (h + (layS n r h).1.length) (z + 1) vals
          obtain ⟨hCa,hC'⟩:=hC.app
          obtain ⟨hCb,hC''⟩:=hC'.app
          obtain ⟨hHa,hH'⟩:=hH.app
          obtain ⟨hHb,hH''⟩:=hH'.app
          rw [a1] at hHb hH''
          rw [b1] at hH''
          simp only [List.length_append,List.length_cons,List.length_nil] at hend ⊢
          simp only [List.length_cons] at hb
          have e5:=getD_of_at hH''.cons.1
          generalize hA:layS n r h=A at *
          generalize hB:layS n (valS vals n r).2 (h + A.1.length)=B at *
          have sb:=lay_seg p C H vals n (valS vals n r).2 (o - 1 + 2 - 1) (h + A.1.length) (z + 1) l1 (by omega) o1 k1 (by omega) (by omega) (by rw [hB]; exact hCb) hHb (by rw [hB,e5]; omega)
          rw [hB] at sb
          have sa:=lay_seg p C H vals n r (o - 1 + 2) h z hl' (by omega) ho1 hr hz (by omega) (by rw [hA]; exact hCa) hHa (by rw [hA]; exact sb.2.1)
          rw [hA] at sa
          refine ⟨by omega,sa.2.1,(sa.2.2.app sb.2.2 (by omega)).app (Seg.one (x:=(x.1 + 2,0)) (m:=z + 1) hC''.cons.1 ?_ ?_ (by omega) ?_) (by omega)⟩
          · have hv:tk (x.1 + 2).toNat=2∧lv (x.1 + 2).toNat=1:=by
              have:x.1=2∨x.1=3∨x.1=4∨x.1=5∨x.1=6:=by omega
              rcases this with e | e | e | e | e <;> rw [e] <;> decide
            rw [e5]
            exact beh_plain p (x:=(x.1 + 2,0)) (by show 0≤x.1 + 2; omega) (by show x.1 + 2≤10; omega) hv.1 hv.2 (by omega) (by omega) (by omega)
          · intro j hj
            obtain rfl:j=h + A.1.length + B.1.length + 1:=by
              unfold nexts at hj
              rw [if_neg (by show ¬ x.1 + 2=12; omega),if_neg (by show ¬ x.1 + 2=9; omega),if_neg (by show ¬ x.1 + 2=10; omega)] at hj
              simpa using hj
            exact ⟨by omega,by rw [← hend]; congr 1; omega⟩
          · rw [show h + (A.1.length + (B.1.length + (0 + 1)))=h + A.1.length + B.1.length + 1 by omega]
            exact Seg.nil _ _ _ _
theorem lay_reach (C:List (Int × Int)) (vals:List Int) (L:Nat) (R:Nat→Prop) (hstep:∀ k x j,C[k]?=some x→k < L→R k→j∈nexts x k→R j):∀ (n:Nat) (e:List (Int × Int)) (o:Int) (h:Nat),e.length≤n→1≤o→onlyS e o=true→(∀ x∈e,kindOk x) →
    At C h (layS n e h).1→h + (layS n e h).1.length≤L→R h→∀ k,h≤k→k≤h + (layS n e h).1.length→R k
  | n,[],o,_,_,ho,h,_,_,_,_=>by simp [onlyS] at h; omega
  | 0,x :: r,o,_,hl,_,_,_,_,_,_=>by simp at hl
  | n + 1,x :: r,o,h,hl,ho,ho1,hk,hC,hL,hR=>by
    have hx:=hk x (by simp)
    have hr:∀ y∈r,kindOk y:=fun y hy=>hk y (by simp [hy])
    have hl':r.length≤n:=by simpa using hl
    simp only [onlyS] at ho1
    rw [if_neg (by omega)] at ho1
    unfold kindOk at hx
    unfold layS at hC hL ⊢
    have next1:∀ k y,C[k]?=some y→k < L→R k→y.1≠12→y.1≠9→R (k + 1):=fun k y hy hk hr h12 h9=>hstep k y (k + 1) hy hk hr (by
      unfold nexts
      rw [if_neg h12,if_neg h9]
      split <;> simp)
    by_cases h0:x.1=0
    · simp only [h0,if_true,List.length_cons,List.length_nil] at hC hL ⊢
      intro k h1 h2
      by_cases e:k=h
      · rw [e]; exact hR
      · rw [show k=h + 1 by omega]; exact next1 h _ hC.cons.1 (by omega) hR (by simp) (by simp)
    · simp only [h0,if_false] at hC hL ⊢
      by_cases h1:x.1=1
      · simp only [h1,if_true,List.length_cons,List.length_nil] at hC hL ⊢
        intro k h1 h2
        by_cases e:k=h
        · rw [e]; exact hR
        · rw [show k=h + 1 by omega]; exact next1 h _ hC.cons.1 (by omega) hR (by simp) (by simp)
      · simp only [h1,if_false] at hC hL ⊢
        obtain ⟨_,_,a3⟩:=lay_hg n r h 0 vals
        by_cases h7:x.1=7
        · simp only [h7,if_true] at hC hL ⊢
          have hp:partsS x.1=3:=by rw [h7]; rfl
          rw [hp] at ho1
          obtain ⟨j1,p1,q1,e1,o1⟩:=val_rest vals n r (o - 1 + 3) hl' (by omega) ho1 hr
          have k1:∀ y∈(valS vals n r).2,kindOk y:=by rw [e1]; exact fun y hy=>hr y (List.mem_of_mem_drop hy)
          have l1:(valS vals n r).2.length≤n:=by rw [e1]; simp; omega
          obtain ⟨j2,p2,q2,e2,o2⟩:=val_rest vals n _ (o - 1 + 3 - 1) l1 (by omega) o1 k1
          have k2:∀ y∈(valS vals n (valS vals n r).2).2,kindOk y:=by rw [e2]; exact fun y hy=>k1 y (List.mem_of_mem_drop hy)
          have l2:(valS vals n (valS vals n r).2).2.length≤n:=by rw [e2]; simp; omega
          rw [a3] at hC hL ⊢
          obtain ⟨_,_,b3⟩:=lay_hg n (valS vals n r).2 (h + (layS n r h).1.length + 1) 0 vals
          rw [b3] at hC hL ⊢
          obtain ⟨hCa,hC'⟩:=hC.app
          obtain ⟨hCz,hC'⟩:=hC'.cons
          obtain ⟨hCb,hC'⟩:=hC'.app
          obtain ⟨hCj,hCc⟩:=hC'.cons
          simp only [List.length_append,List.length_cons] at hL ⊢
          generalize hA:layS n r h=A at *
          generalize hB:layS n (valS vals n r).2 (h + A.1.length + 1)=B at *
          generalize hD:layS n (valS vals n (valS vals n r).2).2 (h + A.1.length + 1 + B.1.length + 1)=D at *
          have ra:=lay_reach C vals L R hstep n r (o - 1 + 3) h hl' (by omega) ho1 hr (by rw [hA]; exact hCa) (by rw [hA]; omega) hR
          rw [hA] at ra
          have rz:=ra (h + A.1.length) (by omega) (Nat.le_refl _)
          have r1:=hstep _ _ (h + A.1.length + 1) hCz (by omega) rz (by rw [nexts_zero]; simp)
          have r2:=hstep _ _ (h + A.1.length + 1 + B.1.length + 1) hCz (by omega) rz (by rw [nexts_zero]; simp)
          have rb:=lay_reach C vals L R hstep n (valS vals n r).2 (o - 1 + 3 - 1) (h + A.1.length + 1) l1 (by omega) o1 k1 (by rw [hB]; exact hCb) (by rw [hB]; omega) r1
          rw [hB] at rb
          have rd:=lay_reach C vals L R hstep n (valS vals n (valS vals n r).2).2 (o - 1 + 3 - 1 - 1) (h + A.1.length + 1 + B.1.length + 1) l2 (by omega) o2 k2 (by rw [hD]; exact hCc) (by rw [hD]; omega) r2
          rw [hD] at rd
          intro k g1 g2
          by_cases c1:k≤h + A.1.length
          · exact ra k g1 c1
          · by_cases c2:k≤h + A.1.length + 1 + B.1.length
            · exact rb k (by omega) c2
            · exact rd k (by omega) (by omega)
        · simp only [h7,if_false] at hC hL ⊢
          have hp:partsS x.1=2:=by unfold partsS; rw [if_neg (by omega),if_pos (by omega)]
          rw [hp] at ho1
          obtain ⟨j1,p1,q1,e1,o1⟩:=val_rest vals n r (o - 1 + 2) hl' (by omega) ho1 hr
          have k1:∀ y∈(valS vals n r).2,kindOk y:=by rw [e1]; exact fun y hy=>hr y (List.mem_of_mem_drop hy)
          have l1:(valS vals n r).2.length≤n:=by rw [e1]; simp; omega
          rw [a3] at hC hL ⊢
          obtain ⟨hCa,hC'⟩:=hC.app
          obtain ⟨hCb,hC''⟩:=hC'.app
          simp only [List.length_append,List.length_cons,List.length_nil] at hL ⊢
          generalize hA:layS n r h=A at *
          generalize hB:layS n (valS vals n r).2 (h + A.1.length)=B at *
          have ra:=lay_reach C vals L R hstep n r (o - 1 + 2) h hl' (by omega) ho1 hr (by rw [hA]; exact hCa) (by rw [hA]; omega) hR
          rw [hA] at ra
          have rb:=lay_reach C vals L R hstep n (valS vals n r).2 (o - 1 + 2 - 1) (h + A.1.length) l1 (by omega) o1 k1 (by rw [hB]; exact hCb) (by rw [hB]; omega) (ra _ (by omega) (Nat.le_refl _))
          rw [hB] at rb
          intro k g1 g2
          by_cases c1:k≤h + A.1.length
          · exact ra k g1 c1
          · by_cases c2:k≤h + A.1.length + B.1.length
            · exact rb k (by omega) c2
            · rw [show k=h + A.1.length + B.1.length + 1 by omega]
              exact next1 _ _ hC''.cons.1 (by omega) (rb _ (by omega) (Nat.le_refl _)) (by show x.1 + 2≠12; omega) (by show x.1 + 2≠9; omega)
def fnS (e:List (Int × Int)) (L:Int):Fn:=⟨L,L,(layS 9 e 0).1++[(12,0)]⟩
end Go.Proofs.YtogcfkmekdpmmaaDoor
