/- StXr, StepW, StepBgW, StepBg -/
import Derived.Test.YtblihfpigjiahaaGreatDoorStX
import Derived.Test.YtblihfpigjiahaaGreatDoorZB11
import Derived.Test.YtblihfpigjiahaaGreatDoorZB08
import Derived.Test.YtblihfpigjiahaaGreatDoorZB30
import Derived.Test.YtblihfpigjiahaaGreatDoorZB47
set_option maxRecDepth 100000
set_option maxHeartbeats 8000000
namespace Go.Proofs.YtblihfpigjiahaaGreatDoor
open Go.RowKit

theorem stAt_fib {w:World} {oa oo:Option Addr} {n cap m co:Nat} {c:Int} {s:St} (h:StAt w (.agg #[.slice oa n cap,.int .i64 c,.slice oo m co]) s) {i:Nat} (hi:i < s.fibers.length) :
    ∃ b o of cf,oa=some ⟨b,o,none⟩∧w.cell? ⟨b,o + i * 2,none⟩=some (.slice of (Za s i).frames.length cf)∧w.cell? ⟨b,o + i * 2 + 1,none⟩=some (.int .i64 (Za s i).caller)∧FramesAt w (.slice of (Za s i).frames.length cf) (Za s i).frames:=by
  obtain ⟨vf,vo,e,⟨oa',cap',e1,_,hc⟩,⟨oo',co',e2,_,_⟩⟩:=h
  subst e1 e2
  simp only [Value.agg.injEq,Array.mk.injEq,List.cons.injEq,Value.slice.injEq,Value.int.injEq,and_true,true_and] at e
  obtain ⟨⟨e1,_,_⟩,_⟩:=e
  subst e1
  obtain ⟨b,o,vf,e3,h1,h2,h3⟩:=hc i _ (Zm s.fibers i Fb.zero hi)
  obtain ⟨of,cf,e4,h4,h5⟩:=id h3
  subst e4
  exact ⟨b,o,of,cf,e3,h1,h2,h3⟩
theorem stAt_out {w:World} {oa oo:Option Addr} {n cap m co:Nat} {c:Int} {s:St} (h:StAt w (.agg #[.slice oa n cap,.int .i64 c,.slice oo m co]) s):IntsW w (.slice oo m co) s.out:=by
  obtain ⟨vf,vo,e,⟨oa',cap',e1,_,hc⟩,ho⟩:=h
  subst e1
  simp only [Value.agg.injEq,Array.mk.injEq,List.cons.injEq,and_true] at e
  obtain ⟨_,_,rfl⟩:=e
  exact ho
theorem framesAt_fr {w:World} {of:Option Addr} {n cf:Nat} {l:List Fr} (h:FramesAt w (.slice of n cf) l) {j:Nat} (hj:j < l.length) :
    ∃ b o ol nl cl os ns cs,of=some ⟨b,o,none⟩∧w.cell? ⟨b,o + j * 4,none⟩=some (.int .i64 (l.getD j Fr.zero).fn)∧w.cell? ⟨b,o + j * 4 + 1,none⟩=some (.int .i64 (l.getD j Fr.zero).at_)∧w.cell? ⟨b,o + j * 4 + 2,none⟩=some (.slice ol nl cl)∧w.cell? ⟨b,o + j * 4 + 3,none⟩=some (.slice os ns cs) ∧
      IntsW w (.slice ol nl cl) (l.getD j Fr.zero).locals∧IntsW w (.slice os ns cs) (l.getD j Fr.zero).stack∧nl=(l.getD j Fr.zero).locals.length∧ns=(l.getD j Fr.zero).stack.length:=by
  obtain ⟨of',cf',e,_,hc⟩:=h
  cases e
  obtain ⟨b,o,vl,vs,e1,h0,h1,h2,h3,h4,h5⟩:=hc j _ (Zm l j Fr.zero hj)
  obtain ⟨ol,cl,e2,_,_⟩:=id h4
  obtain ⟨os,cs,e3,_,_⟩:=id h5
  subst e2 e3
  exact ⟨b,o,ol,_,cl,os,_,cs,e1,h0,h1,h2,h3,h4,h5,rfl,rfl⟩
theorem stAt_sub {w:World} {b o n cap m co:Nat} {oo:Option Addr} {c:Int} {s:St} (h:StAt w (.agg #[.slice (some ⟨b,o,none⟩) n cap,.int .i64 c,.slice oo m co]) s) {k:Nat} (hk:k < s.fibers.length) (cap':Nat) :
    StAt w (.agg #[.slice (some ⟨b,o + k * 2,none⟩) 1 cap',.int .i64 0,.slice none 0 0]) ⟨[Za s k],0,[]⟩:=by
  obtain ⟨b',o',of,cf,e,h1,h2,h3⟩:=stAt_fib h hk
  cases e
  refine ⟨_,_,rfl,⟨some ⟨b,o + k * 2,none⟩,cap',rfl,by simp,fun i f hf=>?_⟩,IntsW.nil w⟩
  have hi:=(List.getElem?_eq_some_iff.1 hf).1
  obtain rfl:i=0:=by simp at hi; exact hi
  obtain rfl:Za s k=f:=by simpa using hf
  exact ⟨b,o + k * 2,_,rfl,by simpa using h1,by simpa using h2,h3⟩
theorem cut_one (b o n cap k:Nat) (h:k + 1≤cap) (u:World):(Instr.sliceAt 23 (.slice (some ⟨b,o,none⟩) n cap) (some (.int .i64 k)) (some (.int .i64 ((k:Int) + 1))) none).run Tryz.prog u=.ok (.slice (some ⟨b,o + k * 2,none⟩) 1 (cap - k)) u:=by
  rw [run_sliceAt_slice u _ _ _ _ _ (by kernel_rfl),run_slice_lh u _ _ _ _ (by kernel_rfl) _ _ _ _ (by omega) (by omega) (by omega)]
  have hs:(sizeOf (Tryz.prog.elem 23)).run Tryz.prog u=.ok 2 u:=by kernel_rfl
  rw [hs]
  have h2:cap≠k:=by omega
  by_cases hk:k=0
  · subst hk; simp [Result.andThen,sliced,Addr.add,h2]
  · have h3:¬ k * 2=0:=by omega
    simp [Result.andThen,sliced,Addr.add,h2,h3]
def StCp (w:World) (oa:Option Addr) (n cap m co:Nat) (s:St):Prop:=n≤cap∧m≤co∧∀ i j,i < s.fibers.length→j < (Za s i).frames.length →
  ∀ b o of nf cf bf off os ns cs,oa=some ⟨b,o,none⟩→w.cell? ⟨b,o + i * 2,none⟩=some (.slice of nf cf)→of=some ⟨bf,off,none⟩→w.cell? ⟨bf,off + j * 4 + 3,none⟩=some (.slice os ns cs)→ns≤cs
def GivesCp (f:FuncId) (args:Array Value) (u:World) (s:St) (more:List Value):Prop :=
  Calls Tryz.prog f args u fun e w'=>∃ oa n cap c oo m co,e=.returned (.tuple (#[.agg #[.slice oa n cap,.int .i64 c,.slice oo m co]]++more.toArray))∧StAt w' (.agg #[.slice oa n cap,.int .i64 c,.slice oo m co]) s∧StCp w' oa n cap m co s∧Kept u w'
end Go.Proofs.YtblihfpigjiahaaGreatDoor
set_option maxRecDepth 100000
set_option maxHeartbeats 8000000
namespace Go.Proofs.YtblihfpigjiahaaGreatDoor
open Go.RowKit

theorem laid3 {u:World} {B:Nat} {a b c x y z:Value} {t:TypeId} (h:u.heap[B]?=some (.cells #[a,b,c] t)):(((u.setCell ⟨B,0,none⟩ x).setCell ⟨B,1,none⟩ y).setCell ⟨B,2,none⟩ z).heap[B]?=some (.cells #[x,y,z] t):=by
  rw [Zs (Zs (Zs h 0 x) 1 y) 2 z]
  rfl
theorem StAt.zero (w:World):StAt w (.agg #[.slice none 0 0,.int .i64 0,.slice none 0 0]) St.zero:=⟨_,_,rfl,FibersAt.nil w,IntsW.nil w⟩
theorem keptX3 {w w':World} {B:Nat} (hB:w.heap.size≤B) (h:Kept w w') (x y z:Value):Kept w (((w'.setCell ⟨B,0,none⟩ x).setCell ⟨B,1,none⟩ y).setCell ⟨B,2,none⟩ z):=((h.setCell (p:=⟨B,0,none⟩) hB x).setCell (p:=⟨B,1,none⟩) hB y).setCell (p:=⟨B,2,none⟩) hB z
def StFrom (n0:Nat) (w:World) (v:Value) (s:St):Prop:=∀ u,(∀ b,n0≤b→u.heap[b]?=w.heap[b]?)→StAt u v s

theorem stepOf_w (vp:Value) (w:World) (er se:Int) (ss:St) (oa oo:Option Addr) (N M cap co:Nat) (nn:Int)
    (HE:Hid (∀ u,Kept w u→Calls Tryz.prog 11 #[vp,.agg #[.slice oa N cap,.int .i64 nn,.slice oo M co]] u fun e w'=>e=.returned (.int .i64 er)∧Kept u w'))
    (HSD:Hid (er=0→∀ u,Kept w u→Calls Tryz.prog 36 #[vp,.agg #[.slice oa N cap,.int .i64 nn,.slice oo M co]] u fun e w'=>∃ oa n cap c oo m co,e=.returned (.tuple #[.agg #[.slice oa n cap,.int .i64 c,.slice oo m co],.int .i64 se])∧StFrom u.heap.size w' (.agg #[.slice oa n cap,.int .i64 c,.slice oo m co]) ss∧Kept u w')) :
    GivesSt 17 #[vp,.agg #[.slice oa N cap,.int .i64 nn,.slice oo M co]] w (if er=0 then ss else St.zero) [.int .i64 (if er=0 then se else er)]:=by
  unfold GivesSt
  by_cases he:er=0
  · rw [if_pos he,if_pos he]
    subst he
    replace HSD:=hide ((un HSD) rfl)
    go_enter Tryz.func17,Tryz.ntmps17
    go_wp2_with fail
    generalize hw1:(w.alloc (.cells #[.slice oa N cap,.int .i64 nn,.slice oo M co] 26)).alloc (.cells #[.slice none 0 0,.int .i64 0,.slice none 0 0] 26)=w1
    have LA:w1.heap[w.heap.size]?=some (.cells #[.slice oa N cap,.int .i64 nn,.slice oo M co] 26):=by rw [← hw1]; exact Zg (Zd rfl) _
    have LR:w1.heap[w.heap.size + 1]?=some (.cells #[.slice none 0 0,.int .i64 0,.slice none 0 0] 26):=by rw [← hw1]; exact Zd (by simp)
    have hk1:Kept w w1:=by rw [← hw1]; exact ((Kept.refl w).alloc _).alloc _
    have hs1:w1.heap.size=w.heap.size + 2:=by rw [← hw1]; simp
    have HK:=hide hk1
    have HL:=hide LA
    have HR:=hide LR
    have HSZ:=hide hs1
    clear hw1 hk1 hs1 LA LR
    refine ((un HE) _ (un HK)).mono ?_
    rintro _ w2 ⟨rfl,hk⟩
    replace HK:=hide ((un HK).trans hk)
    replace HL:=hide (Zj hk (un HL))
    replace HR:=hide (Zj hk (un HR))
    have HS2:Hid (w.heap.size + 2≤w2.heap.size):=hide (by have:=hk.size; have:=un HSZ; omega)
    clear hk HE HSZ
    have a0:=Zb (un HL) 0
    have a1:=Zb (un HL) 1
    have a2:=Zb (un HL) 2
    go_wp2_with fail
    refine ((un HSD) _ (un HK)).mono ?_
    rintro _ w3 ⟨ob,n3,cap3,c3,oc,m3,co3,rfl,hf,hk⟩
    replace HK:=hide ((un HK).trans hk)
    replace HR:=hide (Zj hk (un HR))
    generalize hB:w.heap.size + 1=B at *
    have HF:=hide hf
    clear hf hk HSD a0 a1 a2 HL
    have r0:=Zb (un HR) 0
    have r1:=Zb (un HR) 1
    have r2:=Zb (un HR) 2
    have f0:=Zi (un HR) 0
    have f1:=Zi (un HR) 1
    have f2:=Zi (un HR) 2
    have HLZ:=hide (laid3 (x:=.slice ob n3 cap3) (y:=.int .i64 c3) (z:=.slice oc m3 co3) (un HR))
    have HKZ:=hide (keptX3 (B:=B) (by omega) (un HK) (.slice ob n3 cap3) (.int .i64 c3) (.slice oc m3 co3))
    have HFZ:=hide ((un HF) (((w3.setCell ⟨B,0,none⟩ (.slice ob n3 cap3)).setCell ⟨B,1,none⟩ (.int .i64 c3)).setCell ⟨B,2,none⟩ (.slice oc m3 co3)) (fun b hb=>by
      have:=un HS2
      rw [Below.heap_setCell _ _ _ _ (by simp only; omega),Below.heap_setCell _ _ _ _ (by simp only; omega),Below.heap_setCell _ _ _ _ (by simp only; omega)]))
    have HBB:=hide hB
    clear HK HR HF hB HS2
    go_wp2
    have k0:=Zb (un HLZ) 0
    have k1:=Zb (un HLZ) 1
    have k2:=Zb (un HLZ) 2
    refine bodyPost_ret (v:=.tuple #[.agg #[.slice ob n3 cap3,.int .i64 c3,.slice oc m3 co3],.int .i64 se]) (by simp [results,Tryz.results17,go_sem,k0,k1,k2]) rfl ?_
    exact ⟨ob,n3,cap3,c3,oc,m3,co3,rfl,un HFZ,un HKZ⟩
  · rw [if_neg he,if_neg he]
    have he':(er != 0)=true:=by rw [bne_iff_ne]; exact he
    go_enter Tryz.func17,Tryz.ntmps17
    go_wp2_with fail
    generalize hw1:(w.alloc (.cells #[.slice oa N cap,.int .i64 nn,.slice oo M co] 26)).alloc (.cells #[.slice none 0 0,.int .i64 0,.slice none 0 0] 26)=w1
    have LR:w1.heap[w.heap.size + 1]?=some (.cells #[.slice none 0 0,.int .i64 0,.slice none 0 0] 26):=by rw [← hw1]; exact Zd (by simp)
    have hk1:Kept w w1:=by rw [← hw1]; exact ((Kept.refl w).alloc _).alloc _
    have HK:=hide hk1
    have HR:=hide LR
    clear hw1 hk1 LR
    refine ((un HE) _ (un HK)).mono ?_
    rintro _ w2 ⟨rfl,hk⟩
    replace HK:=hide ((un HK).trans hk)
    replace HR:=hide (Zj hk (un HR))
    clear hk HE
    generalize hB:w.heap.size + 1=B at *
    have r0:=Zb (un HR) 0
    have r1:=Zb (un HR) 1
    have r2:=Zb (un HR) 2
    have f0:=Zi (un HR) 0
    have f1:=Zi (un HR) 1
    have f2:=Zi (un HR) 2
    have HLZ:=hide (laid3 (x:=.slice none 0 0) (y:=.int .i64 0) (z:=.slice none 0 0) (un HR))
    have HKZ:=hide (keptX3 (B:=B) (by omega) (un HK) (.slice none 0 0) (.int .i64 0) (.slice none 0 0))
    clear HK HR hB
    go_wp2
    have k0:=Zb (un HLZ) 0
    have k1:=Zb (un HLZ) 1
    have k2:=Zb (un HLZ) 2
    refine bodyPost_ret (v:=.tuple #[.agg #[.slice none 0 0,.int .i64 0,.slice none 0 0],.int .i64 er]) (by simp [results,Tryz.results17,go_sem,k0,k1,k2]) rfl ?_
    exact ⟨_,_,_,_,_,_,_,rfl,StAt.zero _,un HKZ⟩

theorem stepped_over (vp:Value) (w:World) (oa oo:Option Addr) (N M cap co:Nat) (nn:Int) (h:nn < 0) :
    Calls Tryz.prog 36 #[vp,.agg #[.slice oa N cap,.int .i64 nn,.slice oo M co]] w fun e w'=>e=.returned (.tuple #[.agg #[.slice none 0 0,.int .i64 0,.slice none 0 0],.int .i64 8])∧Kept w w':=by
  go_enter Tryz.func36,Tryz.ntmps36
  go_wp2
  refine bodyPost_ret (v:=.tuple #[.agg #[.slice none 0 0,.int .i64 0,.slice none 0 0],.int .i64 8]) (by simp [results,Tryz.results36,go_sem]) rfl ?_
  exact ⟨rfl,((Kept.refl w).alloc _).alloc _⟩

theorem runOf_w (vp:Value) (c:Int) (w:World) (er:Int) (ss:St) (steps:Nat) (err:Int) (isIn:Bool) (oa oo:Option Addr) (N M cap co:Nat) (nn:Int)
    (HWI:Hid (∀ u,Calls Tryz.prog 30 #[.int .i64 c,.int .i64 0,.int .i64 500] u fun e w'=>e=.returned (.bool isIn)∧u=w'))
    (HE:Hid (∀ u,Kept w u→Calls Tryz.prog 11 #[vp,.agg #[.slice oa N cap,.int .i64 nn,.slice oo M co]] u fun e w'=>e=.returned (.int .i64 er)∧Kept u w'))
    (HSD:Hid (er=0→isIn=true→∀ u,Kept w u→Calls Tryz.prog 37 #[vp,.agg #[.slice oa N cap,.int .i64 nn,.slice oo M co],.int .i64 c] u fun e w'=>∃ oa n cap c oo m co,e=.returned (.tuple #[.agg #[.slice oa n cap,.int .i64 c,.slice oo m co],.int .i64 steps,.int .i64 err])∧StFrom u.heap.size w' (.agg #[.slice oa n cap,.int .i64 c,.slice oo m co]) ss∧Kept u w')) :
    GivesSt 18 #[vp,.agg #[.slice oa N cap,.int .i64 nn,.slice oo M co],.int .i64 c] w (if isIn=true then if er=0 then ss else St.zero else St.zero) [.int .i64 (if isIn=true then if er=0 then (steps:Int) else 0 else 0),.int .i64 (if isIn=true then if er=0 then err else er else 3)]:=by
  unfold GivesSt
  cases isIn with
  | false =>
    simp only [Bool.false_eq_true,if_false]
    go_enter Tryz.func18,Tryz.ntmps18
    go_wp2_with fail
    refine ((un HWI) _).mono ?_
    rintro _ w0 ⟨rfl,rfl⟩
    clear HWI HE HSD
    go_wp2
    refine bodyPost_ret (v:=.tuple #[.agg #[.slice none 0 0,.int .i64 0,.slice none 0 0],.int .i64 0,.int .i64 3]) (by simp [results,Tryz.results18,go_sem]) rfl ?_
    exact ⟨_,_,_,_,_,_,_,rfl,StAt.zero _,((Kept.refl w).alloc _).alloc _⟩
  | true =>
    simp only [if_true]
    by_cases he:er=0
    · rw [if_pos he,if_pos he,if_pos he]
      subst he
      replace HSD:=hide ((un HSD) rfl rfl)
      go_enter Tryz.func18,Tryz.ntmps18
      go_wp2_with fail
      refine ((un HWI) _).mono ?_
      rintro _ w0 ⟨rfl,rfl⟩
      clear HWI
      go_wp2_with fail
      generalize hw1:(w.alloc (.cells #[.slice oa N cap,.int .i64 nn,.slice oo M co] 26)).alloc (.cells #[.slice none 0 0,.int .i64 0,.slice none 0 0] 26)=w1
      have LA:w1.heap[w.heap.size]?=some (.cells #[.slice oa N cap,.int .i64 nn,.slice oo M co] 26):=by rw [← hw1]; exact Zg (Zd rfl) _
      have LR:w1.heap[w.heap.size + 1]?=some (.cells #[.slice none 0 0,.int .i64 0,.slice none 0 0] 26):=by rw [← hw1]; exact Zd (by simp)
      have hk1:Kept w w1:=by rw [← hw1]; exact ((Kept.refl w).alloc _).alloc _
      have hs1:w1.heap.size=w.heap.size + 2:=by rw [← hw1]; simp
      have HK:=hide hk1
      have HL:=hide LA
      have HR:=hide LR
      have HSZ:=hide hs1
      clear hw1 hk1 hs1 LA LR
      refine ((un HE) _ (un HK)).mono ?_
      rintro _ w2 ⟨rfl,hk⟩
      replace HK:=hide ((un HK).trans hk)
      replace HL:=hide (Zj hk (un HL))
      replace HR:=hide (Zj hk (un HR))
      have HS2:Hid (w.heap.size + 2≤w2.heap.size):=hide (by have:=hk.size; have:=un HSZ; omega)
      clear hk HE HSZ
      have a0:=Zb (un HL) 0
      have a1:=Zb (un HL) 1
      have a2:=Zb (un HL) 2
      go_wp2_with fail
      refine ((un HSD) _ (un HK)).mono ?_
      rintro _ w3 ⟨ob,n3,cap3,c3,oc,m3,co3,rfl,hf,hk⟩
      replace HK:=hide ((un HK).trans hk)
      replace HR:=hide (Zj hk (un HR))
      generalize hB:w.heap.size + 1=B at *
      have HF:=hide hf
      clear hf hk HSD a0 a1 a2 HL
      have r0:=Zb (un HR) 0
      have r1:=Zb (un HR) 1
      have r2:=Zb (un HR) 2
      have f0:=Zi (un HR) 0
      have f1:=Zi (un HR) 1
      have f2:=Zi (un HR) 2
      have HLZ:=hide (laid3 (x:=.slice ob n3 cap3) (y:=.int .i64 c3) (z:=.slice oc m3 co3) (un HR))
      have HKZ:=hide (keptX3 (B:=B) (by omega) (un HK) (.slice ob n3 cap3) (.int .i64 c3) (.slice oc m3 co3))
      have HFZ:=hide ((un HF) (((w3.setCell ⟨B,0,none⟩ (.slice ob n3 cap3)).setCell ⟨B,1,none⟩ (.int .i64 c3)).setCell ⟨B,2,none⟩ (.slice oc m3 co3)) (fun b hb=>by
        have:=un HS2
        rw [Below.heap_setCell _ _ _ _ (by simp only; omega),Below.heap_setCell _ _ _ _ (by simp only; omega),Below.heap_setCell _ _ _ _ (by simp only; omega)]))
      clear HK HR HF hB HS2
      go_wp2
      have k0:=Zb (un HLZ) 0
      have k1:=Zb (un HLZ) 1
      have k2:=Zb (un HLZ) 2
      refine bodyPost_ret (v:=.tuple #[.agg #[.slice ob n3 cap3,.int .i64 c3,.slice oc m3 co3],.int .i64 steps,.int .i64 err]) (by simp [results,Tryz.results18,go_sem,k0,k1,k2]) rfl ?_
      exact ⟨ob,n3,cap3,c3,oc,m3,co3,rfl,un HFZ,un HKZ⟩
    · rw [if_neg he,if_neg he,if_neg he]
      have he':(er != 0)=true:=by rw [bne_iff_ne]; exact he
      go_enter Tryz.func18,Tryz.ntmps18
      go_wp2_with fail
      refine ((un HWI) _).mono ?_
      rintro _ w0 ⟨rfl,rfl⟩
      clear HWI HSD
      go_wp2_with fail
      generalize hw1:(w.alloc (.cells #[.slice oa N cap,.int .i64 nn,.slice oo M co] 26)).alloc (.cells #[.slice none 0 0,.int .i64 0,.slice none 0 0] 26)=w1
      have LR:w1.heap[w.heap.size + 1]?=some (.cells #[.slice none 0 0,.int .i64 0,.slice none 0 0] 26):=by rw [← hw1]; exact Zd (by simp)
      have hk1:Kept w w1:=by rw [← hw1]; exact ((Kept.refl w).alloc _).alloc _
      have HK:=hide hk1
      have HR:=hide LR
      clear hw1 hk1 LR
      refine ((un HE) _ (un HK)).mono ?_
      rintro _ w2 ⟨rfl,hk⟩
      replace HK:=hide ((un HK).trans hk)
      replace HR:=hide (Zj hk (un HR))
      clear hk HE
      generalize hB:w.heap.size + 1=B at *
      have r0:=Zb (un HR) 0
      have r1:=Zb (un HR) 1
      have r2:=Zb (un HR) 2
      have f0:=Zi (un HR) 0
      have f1:=Zi (un HR) 1
      have f2:=Zi (un HR) 2
      have HLZ:=hide (laid3 (x:=.slice none 0 0) (y:=.int .i64 0) (z:=.slice none 0 0) (un HR))
      have HKZ:=hide (keptX3 (B:=B) (by omega) (un HK) (.slice none 0 0) (.int .i64 0) (.slice none 0 0))
      clear HK HR hB
      go_wp2
      have k0:=Zb (un HLZ) 0
      have k1:=Zb (un HLZ) 1
      have k2:=Zb (un HLZ) 2
      refine bodyPost_ret (v:=.tuple #[.agg #[.slice none 0 0,.int .i64 0,.slice none 0 0],.int .i64 0,.int .i64 er]) (by simp [results,Tryz.results18,go_sem,k0,k1,k2]) rfl ?_
      exact ⟨_,_,_,_,_,_,_,rfl,StAt.zero _,un HKZ⟩
end Go.Proofs.YtblihfpigjiahaaGreatDoor
set_option maxRecDepth 100000
set_option maxHeartbeats 8000000
namespace Go.Proofs.YtblihfpigjiahaaGreatDoor
open Go.RowKit

theorem one_state {w:World} {b1 b2 b3:Nat} (h1:w.heap[b1]?=some (.cells #[.int .i64 1] 3)) (h2:w.heap[b2]?=some (.cells #[.int .i64 0,.int .i64 1,.slice none 0 0,.slice (some ⟨b1,0,none⟩) 1 1] 48)) (h3:w.heap[b3]?=some (.cells #[.slice (some ⟨b2,0,none⟩) 1 1,.int .i64 (-1)] 46)) :
    StAt w (.agg #[.slice (some ⟨b3,0,none⟩) 1 1,.int .i64 0,.slice none 0 0]) ⟨[⟨[⟨0,1,[],[1]⟩],-1⟩],0,[]⟩:=by
  refine ⟨_,_,rfl,⟨_,1,rfl,by simp,fun i f hf=>?_⟩,IntsW.nil w⟩
  have hi:=(List.getElem?_eq_some_iff.1 hf).1
  obtain rfl:i=0:=by simp at hi; exact hi
  obtain rfl:(⟨[⟨0,1,[],[1]⟩],-1⟩:Fb)=f:=by simpa using hf
  refine ⟨b3,0,_,rfl,Zb h3 0,Zb h3 1,⟨_,1,rfl,by simp,fun i f hf=>?_⟩⟩
  have hi:=(List.getElem?_eq_some_iff.1 hf).1
  obtain rfl:i=0:=by simp at hi; exact hi
  obtain rfl:(⟨0,1,[],[1]⟩:Fr)=f:=by simpa using hf
  refine ⟨b2,0,_,_,rfl,Zb h2 0,Zb h2 1,Zb h2 2,Zb h2 3,IntsW.nil w,⟨_,1,rfl,by simp,fun i z hz=>?_⟩⟩
  have hi:=(List.getElem?_eq_some_iff.1 hz).1
  obtain rfl:i=0:=by simp at hi; exact hi
  obtain rfl:(1:Int)=z:=by simpa using hz
  exact ⟨b1,0,rfl,Zb h1 0⟩
theorem seven_at (u:World):IntsW (u.alloc (.cells #[.int .i64 7] 3)) (.slice (some ⟨u.heap.size,0,none⟩) 1 1) [7]:=by
  refine ⟨_,1,rfl,by simp,fun i z hz=>?_⟩
  have hi:=(List.getElem?_eq_some_iff.1 hz).1
  obtain rfl:i=0:=by simp at hi; exact hi
  obtain rfl:(7:Int)=z:=by simpa using hz
  exact ⟨_,0,rfl,Zb (Zd rfl) 0⟩
theorem one_fr {w:World} {of:Option Addr} {n cf:Nat} {l:List Fr} (h:FramesAt w (.slice of n cf) l) (hj:0 < l.length) :
    ∃ b o ol nl cl os ns cs,of=some ⟨b,o,none⟩∧w.cell? ⟨b,o + 2,none⟩=some (.slice ol nl cl)∧w.cell? ⟨b,o + 3,none⟩=some (.slice os ns cs)∧IntsW w (.slice ol nl cl) (l.getD 0 Fr.zero).locals∧IntsW w (.slice os ns cs) (l.getD 0 Fr.zero).stack:=by
  obtain ⟨b,o,ol,nl,cl,os,ns,cs,e,_,_,h2,h3,h4,h5,_,_⟩:=framesAt_fr h hj
  exact ⟨b,o,ol,nl,cl,os,ns,cs,e,by simpa using h2,by simpa using h3,h4,h5⟩

theorem stepBegun_w (w:World) (P:List Fn) (s4 s6 s9 a b c d:St)
    (HCN:Hid (∀ u,Calls Tryz.prog 22 #[] u fun e w'=>∃ v,e=.returned v∧ProgAt w' v P∧Kept u w'))
    (HA4:Hid (∀ u v,ProgAt u v P→Calls Tryz.prog 23 #[v,.int .i64 4] u fun e w'=>∃ v,e=.returned v∧StAt w' v s4∧Kept u w'))
    (HA6:Hid (∀ u v,ProgAt u v P→Calls Tryz.prog 23 #[v,.int .i64 6] u fun e w'=>∃ v,e=.returned v∧StAt w' v s6∧Kept u w'))
    (HA9:Hid (∀ u v,ProgAt u v P→Calls Tryz.prog 23 #[v,.int .i64 99] u fun e w'=>∃ v,e=.returned v∧StAt w' v s9∧Kept u w'))
    (HD4:Hid (∀ u vp v,Kept w u→ProgAt u vp P→StAt u v s4→GivesSt 15 #[vp,v] u a [.int .i64 0]))
    (HD6:Hid (∀ u vp v,Kept w u→ProgAt u vp P→StAt u v s6→GivesSt 15 #[vp,v] u b [.int .i64 0]))
    (HD9:Hid (∀ u vp v,Kept w u→ProgAt u vp P→StAt u v s9→GivesSt 15 #[vp,v] u c [.int .i64 8]))
    (HDD:Hid (∀ u vp v,Kept w u→ProgAt u vp [⟨0,0,[(0,1),(15,0),(12,0)]⟩]→StAt u v ⟨[⟨[⟨0,1,[],[1]⟩],-1⟩],0,[]⟩→GivesSt 15 #[vp,v] u d [.int .i64 7]))
    (HSI:Hid (∀ u v1 v2,IntsW u v1 [7]→IntsW u v2 [7]→Calls Tryz.prog 28 #[v1,v2] u fun e w'=>e=.returned (.bool true)∧Kept u w'))
    (ha:a.now=1∧a.fibers.length=2∧(Za a 1).caller=0∧(Za a 1).frames.length=1∧((Za a 1).frames.getD 0 Fr.zero).locals=[7])
    (hb:b.now=0∧b.fibers.length=2∧(Za b 1).caller=-1∧(Za b 0).frames.length=1∧((Za b 0).frames.getD 0 Fr.zero).stack=[7]) :
    Calls Tryz.prog 12 #[] w fun e w'=>e=.returned (.bool true)∧Kept w w':=by
  have HA:=hide ha
  have HB:=hide hb
  have HK:=hide (Kept.refl w)
  clear ha hb
  go_enter Tryz.func12,Tryz.ntmps12
  go_wp2_with fail
  refine ((un HCN) _).mono ?_
  rintro _ wa1 ⟨v1,rfl,hp,hk⟩
  replace HK:=hide ((un HK).trans hk)
  have HQ:=hide (hp)
  clear hk hp
  go_wp2_with fail
  refine ((un HCN) _).mono ?_
  rintro _ wa2 ⟨v2,rfl,hp,hk⟩
  replace HK:=hide ((un HK).trans hk)
  replace HQ:=hide ((un HQ).kept hk)
  have HQ2:=hide (hp)
  clear hk hp
  go_wp2_with fail
  refine ((un HA4) _ _ (un HQ2)).mono ?_
  rintro _ wa3 ⟨v3,rfl,hs,hk⟩
  replace HK:=hide ((un HK).trans hk)
  replace HQ:=hide ((un HQ).kept hk)
  replace HQ2:=hide ((un HQ2).kept hk)
  have HS0:=hide (hs)
  clear hk hs HQ2
  go_wp2_with fail
  refine ((un HD4) _ _ _ (un HK) (un HQ) (un HS0)).mono ?_
  rintro _ wa ⟨oa,na,ca,za,qa,ma,da,rfl,hs,hk⟩
  replace HK:=hide ((un HK).trans hk)
  replace HQ:=hide ((un HQ).kept hk)
  replace HS0:=hide ((un HS0).kept hk)
  have HSa:=hide (hs)
  have HPa:=hide (stAt_parts hs)
  clear hk hs HQ HS0
  go_wp2_with fail
  obtain ⟨k9,l9⟩:=box_st (Kept.refl wa) #[.slice oa na ca,.int .i64 za,.slice qa ma da] 26
  generalize wa.alloc (.cells #[.slice oa na ca,.int .i64 za,.slice qa ma da] 26)=xa at *
  generalize wa.heap.size=Ba at *
  replace HK:=hide ((un HK).trans k9)
  replace HSa:=hide ((un HSa).kept k9)
  have HTa:=hide l9
  clear k9 l9
  refine ((un HCN) _).mono ?_
  rintro _ wb1 ⟨v1,rfl,hp,hk⟩
  replace HK:=hide ((un HK).trans hk)
  replace HSa:=hide ((un HSa).kept hk)
  replace HTa:=hide (Zj hk (un HTa))
  have HQ:=hide (hp)
  clear hk hp
  go_wp2_with fail
  refine ((un HCN) _).mono ?_
  rintro _ wb2 ⟨v2,rfl,hp,hk⟩
  replace HK:=hide ((un HK).trans hk)
  replace HSa:=hide ((un HSa).kept hk)
  replace HTa:=hide (Zj hk (un HTa))
  replace HQ:=hide ((un HQ).kept hk)
  have HQ2:=hide (hp)
  clear hk hp
  go_wp2_with fail
  refine ((un HA6) _ _ (un HQ2)).mono ?_
  rintro _ wb3 ⟨v3,rfl,hs,hk⟩
  replace HK:=hide ((un HK).trans hk)
  replace HSa:=hide ((un HSa).kept hk)
  replace HTa:=hide (Zj hk (un HTa))
  replace HQ:=hide ((un HQ).kept hk)
  replace HQ2:=hide ((un HQ2).kept hk)
  have HS0:=hide (hs)
  clear hk hs HQ2
  go_wp2_with fail
  refine ((un HD6) _ _ _ (un HK) (un HQ) (un HS0)).mono ?_
  rintro _ wb ⟨ob,nb,cb,zb,qb,mb,db,rfl,hs,hk⟩
  replace HK:=hide ((un HK).trans hk)
  replace HSa:=hide ((un HSa).kept hk)
  replace HTa:=hide (Zj hk (un HTa))
  replace HQ:=hide ((un HQ).kept hk)
  replace HS0:=hide ((un HS0).kept hk)
  have HSb:=hide (hs)
  have HPb:=hide (stAt_parts hs)
  clear hk hs HQ HS0
  go_wp2_with fail
  obtain ⟨k9,l9⟩:=box_st (Kept.refl wb) #[.slice ob nb cb,.int .i64 zb,.slice qb mb db] 26
  generalize wb.alloc (.cells #[.slice ob nb cb,.int .i64 zb,.slice qb mb db] 26)=xb at *
  generalize wb.heap.size=Bb at *
  replace HK:=hide ((un HK).trans k9)
  replace HSa:=hide ((un HSa).kept k9)
  replace HTa:=hide (Zj k9 (un HTa))
  replace HSb:=hide ((un HSb).kept k9)
  have HTb:=hide l9
  clear k9 l9
  refine ((un HCN) _).mono ?_
  rintro _ wc1 ⟨v1,rfl,hp,hk⟩
  replace HK:=hide ((un HK).trans hk)
  replace HSa:=hide ((un HSa).kept hk)
  replace HTa:=hide (Zj hk (un HTa))
  replace HSb:=hide ((un HSb).kept hk)
  replace HTb:=hide (Zj hk (un HTb))
  have HQ:=hide (hp)
  clear hk hp
  go_wp2_with fail
  refine ((un HCN) _).mono ?_
  rintro _ wc2 ⟨v2,rfl,hp,hk⟩
  replace HK:=hide ((un HK).trans hk)
  replace HSa:=hide ((un HSa).kept hk)
  replace HTa:=hide (Zj hk (un HTa))
  replace HSb:=hide ((un HSb).kept hk)
  replace HTb:=hide (Zj hk (un HTb))
  replace HQ:=hide ((un HQ).kept hk)
  have HQ2:=hide (hp)
  clear hk hp
  go_wp2_with fail
  refine ((un HA9) _ _ (un HQ2)).mono ?_
  rintro _ wc3 ⟨v3,rfl,hs,hk⟩
  replace HK:=hide ((un HK).trans hk)
  replace HSa:=hide ((un HSa).kept hk)
  replace HTa:=hide (Zj hk (un HTa))
  replace HSb:=hide ((un HSb).kept hk)
  replace HTb:=hide (Zj hk (un HTb))
  replace HQ:=hide ((un HQ).kept hk)
  replace HQ2:=hide ((un HQ2).kept hk)
  have HS0:=hide (hs)
  clear hk hs HQ2
  go_wp2_with fail
  refine ((un HD9) _ _ _ (un HK) (un HQ) (un HS0)).mono ?_
  rintro _ wc ⟨oc,nc,cc,zc,qc,mc,dc,rfl,hs,hk⟩
  replace HK:=hide ((un HK).trans hk)
  replace HSa:=hide ((un HSa).kept hk)
  replace HTa:=hide (Zj hk (un HTa))
  replace HSb:=hide ((un HSb).kept hk)
  replace HTb:=hide (Zj hk (un HTb))
  replace HQ:=hide ((un HQ).kept hk)
  replace HS0:=hide ((un HS0).kept hk)
  have HSc:=hide (hs)
  have HPc:=hide (stAt_parts hs)
  clear hk hs HQ HS0
  go_wp2_with fail
  obtain ⟨k9,l9⟩:=box_st (Kept.refl wc) #[.slice oc nc cc,.int .i64 zc,.slice qc mc dc] 26
  generalize wc.alloc (.cells #[.slice oc nc cc,.int .i64 zc,.slice qc mc dc] 26)=xc at *
  generalize wc.heap.size=Bc at *
  replace HK:=hide ((un HK).trans k9)
  replace HSa:=hide ((un HSa).kept k9)
  replace HTa:=hide (Zj k9 (un HTa))
  replace HSb:=hide ((un HSb).kept k9)
  replace HTb:=hide (Zj k9 (un HTb))
  replace HSc:=hide ((un HSc).kept k9)
  have HTc:=hide l9
  clear k9 l9
  clear HSc HTc HPc
  go_wp2_with (go_at_call 34; refine (o_any _ _ _).mono ?_; rintro e w' ⟨rfl,rfl⟩)
  generalize hwd:(((((((xc.alloc (.cells #[.int .i64 0,.int .i64 1] 66)).alloc (.cells #[.int .i64 15,.int .i64 0] 66)).alloc (.cells #[.int .i64 12,.int .i64 0] 66)).alloc (.cells #[.int .i64 0,.int .i64 1,.int .i64 15,.int .i64 0,.int .i64 12,.int .i64 0] 66)).alloc (.cells #[.int .i64 0,.int .i64 0,.slice (some ⟨xc.heap.size + 1 + 1 + 1,0,none⟩) 3 3] 70)).alloc (.cells #[.int .i64 1] 3)).alloc (.cells #[.int .i64 0,.int .i64 1,.slice none 0 0,.slice (some ⟨xc.heap.size + 1 + 1 + 1 + 1 + 1,0,none⟩) 1 1] 48)).alloc (.cells #[.slice (some ⟨xc.heap.size + 1 + 1 + 1 + 1 + 1 + 1,0,none⟩) 1 1,.int .i64 (-1)] 46)=wd
  have hkd:Kept xc wd:=by rw [← hwd]; exact ((((((((Kept.refl xc).alloc _).alloc _).alloc _).alloc _).alloc _).alloc _).alloc _).alloc _
  have hpd:ProgAt wd (.slice (some ⟨xc.heap.size + 1 + 1 + 1 + 1,0,none⟩) 1 1) [⟨0,0,[(0,1),(15,0),(12,0)]⟩]:=by
    rw [← hwd]
    exact one_prog (b0:=xc.heap.size + 1 + 1 + 1) (b:=xc.heap.size + 1 + 1 + 1 + 1) (Zg (Zg (Zg (Zg (Zd (by simp)) _) _) _) _) rfl (by decide) rfl (Zg (Zg (Zg (Zd (by simp)) _) _) _)
  have hsd:StAt wd (.agg #[.slice (some ⟨xc.heap.size + 1 + 1 + 1 + 1 + 1 + 1 + 1,0,none⟩) 1 1,.int .i64 0,.slice none 0 0]) ⟨[⟨[⟨0,1,[],[1]⟩],-1⟩],0,[]⟩:=by
    rw [← hwd]
    exact one_state (Zg (Zg (Zd (by simp)) _) _) (Zg (Zd (by simp)) _) (Zd (by simp))
  clear hwd
  replace HK:=hide ((un HK).trans hkd)
  replace HSa:=hide ((un HSa).kept hkd)
  replace HTa:=hide (Zj hkd (un HTa))
  replace HSb:=hide ((un HSb).kept hkd)
  replace HTb:=hide (Zj hkd (un HTb))
  clear hkd
  refine ((un HDD) _ _ _ (un HK) hpd hsd).mono ?_
  rintro _ we ⟨oe,ne,ce,ze,qe,me,de,rfl,hs,hk⟩
  replace HK:=hide ((un HK).trans hk)
  replace HSa:=hide ((un HSa).kept hk)
  replace HTa:=hide (Zj hk (un HTa))
  replace HSb:=hide ((un HSb).kept hk)
  replace HTb:=hide (Zj hk (un HTb))
  clear hk hs hpd hsd HDD
  obtain ⟨p1,p2,p3,p4,p5⟩:=un HA
  obtain ⟨r1,r2,r3,r4,r5⟩:=un HB
  obtain ⟨ba,oa',of1,cf1,rfl,x0,x1,hf1⟩:=stAt_fib (un HSa) (i:=1) (by rw [p2]; omega)
  obtain ⟨bb,ob',of2,cf2,rfl,y0,y1,hf2⟩:=stAt_fib (un HSb) (i:=1) (by rw [r2]; omega)
  obtain ⟨bb',ob2,of3,cf3,eb,y2,y3,hf3⟩:=stAt_fib (un HSb) (i:=0) (by rw [r2]; omega)
  cases eb
  rw [p4] at x0 hf1
  rw [p3] at x1
  rw [r3] at y1
  rw [r4] at y2 hf3
  obtain ⟨b1,o1,ol1,nl1,cl1,_,_,_,rfl,z2,_,i1,_⟩:=one_fr hf1 (by rw [p4]; omega)
  obtain ⟨b3,o3,_,_,_,os3,ns3,cs3,rfl,_,z3,_,i3⟩:=one_fr hf3 (by rw [r4]; omega)
  rw [p5] at i1
  rw [r5] at i3
  have e1:za=1:=(un HPa).1.trans p1
  have e2:na=2:=(un HPa).2.1.trans p2
  have e3:zb=0:=(un HPb).1.trans r1
  have e4:nb=2:=(un HPb).2.1.trans r2
  subst e1 e2 e3 e4
  have lA:=un HTa
  have lB:=un HTb
  have HI1:=hide i1
  have HI3:=hide i3
  have HX:Hid (∀ y,Kept we y→(y.cell? ⟨Ba,1,none⟩=some (.int .i64 1)∧y.cell? ⟨Ba,0,none⟩=some (.slice (some ⟨ba,oa',none⟩) 2 ca)∧y.cell? ⟨Bb,1,none⟩=some (.int .i64 0)∧y.cell? ⟨Bb,0,none⟩=some (.slice (some ⟨bb,ob',none⟩) 2 cb))∧y.cell? ⟨ba,oa' + 2,none⟩=some (.slice (some ⟨b1,o1,none⟩) 1 cf1)∧y.cell? ⟨ba,oa' + 3,none⟩=some (.int .i64 0)∧y.cell? ⟨bb,ob' + 3,none⟩=some (.int .i64 (-1))∧y.cell? ⟨bb,ob',none⟩=some (.slice (some ⟨b3,o3,none⟩) 1 cf3)∧y.cell? ⟨b1,o1 + 2,none⟩=some (.slice ol1 nl1 cl1)∧y.cell? ⟨b3,o3 + 3,none⟩=some (.slice os3 ns3 cs3)) :=
    hide (fun y h=>⟨⟨h.cell (Zb lA 1),h.cell (Zb lA 0),h.cell (Zb lB 1),h.cell (Zb lB 0)⟩,h.cell (by simpa using x0),h.cell (by simpa using x1),h.cell (by simpa using y1),h.cell (by simpa using y2),h.cell z2,h.cell z3⟩)
  clear lA lB x0 x1 y0 y1 y2 y3 z2 z3 i1 i3 hf1 hf2 hf3 p1 p2 p3 p4 p5 r1 r2 r3 r4 r5 HA HB HPa HPb HSa HSb HTa HTb
  obtain ⟨⟨t1,t2,t3,t4⟩,t5,t6,t7,t8,t9,t10⟩:=(un HX) _ ((Kept.refl we).alloc (.cells #[.slice oe ne ce,.int .i64 ze,.slice qe me de] 26))

  go_wp2_with fail
  have h7:=seven_at (we.alloc (.cells #[.slice oe ne ce,.int .i64 ze,.slice qe me de] 26))
  rw [World.size_alloc] at h7
  refine ((un HSI) _ _ _ ((un HI1).kept (((Kept.refl we).alloc _).alloc _)) h7).mono ?_
  rintro _ wf ⟨rfl,hk⟩
  have hkf:Kept we wf:=(((Kept.refl we).alloc _).alloc _).trans hk
  clear t1 t2 t3 t4 t5 t6 t7 t8 t9 t10 h7 hk
  have HKF:=hide hkf
  obtain ⟨⟨t1,t2,t3,t4⟩,t5,t6,t7,t8,t9,t10⟩:=(un HX) _ hkf
  clear hkf
  go_wp2_with fail
  refine ((un HSI) _ _ _ ((un HI3).kept ((un HKF).alloc _)) (seven_at wf)).mono ?_
  rintro _ wg ⟨rfl,hk⟩
  replace HK:=hide (((un HK).trans ((un HKF).alloc _)).trans hk)
  clear t1 t2 t3 t4 t5 t6 t7 t8 t9 t10 hk
  go_wp2
  go_ret
  exact ⟨rfl,un HK⟩
end Go.Proofs.YtblihfpigjiahaaGreatDoor
set_option maxRecDepth 100000
set_option maxHeartbeats 8000000
namespace Go.Proofs.YtblihfpigjiahaaGreatDoor
open Go.RowKit

theorem right_goes {p:List Fn}:∀ (k:Nat) {s:St},Zy p s=0→runOk p k s
  | 0,_,_=>trivial
  | k + 1,s,h=>by
    by_cases hn:s.now < 0
    · exact .inl hn
    · refine .inr ⟨right_ok h (by omega),step_small h (by omega),fun he=>?_⟩
      rcases right_step h (by omega) with ⟨_,h1⟩ | ⟨_,h1⟩
      · exact right_goes k h1
      · omega
theorem right_end {p:List Fn} {s:St} (h:Zy p s=0) (hn:s.now < 0):s.now=-1:=by
  have:=(Kd (Km h).2.1).2.2.2.2.1
  omega
abbrev sbA:St:=(stpS cntL (runS cntL 4 (Xw cntL)).1).1
abbrev sbB:St:=(stpS cntL (runS cntL 6 (Xw cntL)).1).1
theorem sbA_is:(stpS cntL (runS cntL 4 (Xw cntL)).1).2=0∧sbA.now=1∧sbA.fibers.length=2∧(Za sbA 1).caller=0∧(Za sbA 1).frames.length=1∧((Za sbA 1).frames.getD 0 Fr.zero).locals=[7]:=by decide +kernel
theorem sbB_is:(stpS cntL (runS cntL 6 (Xw cntL)).1).2=0∧sbB.now=0∧sbB.fibers.length=2∧(Za sbB 1).caller=-1∧(Za sbB 0).frames.length=1∧((Za sbB 0).frames.getD 0 Fr.zero).stack=[7]:=by decide +kernel
theorem sbC_is:(stpS cntL (runS cntL 99 (Xw cntL)).1).2=8:=by decide +kernel
def alP:List Fn:=[⟨0,0,[(0,1),(15,0),(12,0)]⟩]
def alS:St:=⟨[⟨[⟨0,1,[],[1]⟩],-1⟩],0,[]⟩
theorem sbD_is:(stpS alP alS).2=7:=by decide +kernel
theorem after_st (k:Nat) (hk:k≤99) (u:World) (vp:Value) (hp:ProgAt u vp cntL):Calls Tryz.prog 23 #[vp,.int .i64 k] u fun e w'=>∃ v,e=.returned v∧StAt w' v (runS cntL k (Xw cntL)).1∧Kept u w':=by
  refine (after_on cntL vp k u hp cnt_right cnt_small (by omega) cnt_begin (right_goes k cnt_begin)).mono ?_
  rintro e w' ⟨V,rfl,ho,hk⟩
  exact ⟨_,rfl,ho.reads (Jz (run_right k cnt_begin)),hk⟩
theorem count_st (u:World):Calls Tryz.prog 22 #[] u fun e w'=>∃ v,e=.returned v∧ProgAt w' v cntL∧Kept u w':=by
  refine (count_any u).mono ?_
  rintro e w' ⟨v,rfl,h,hk⟩
  exact ⟨v,rfl,h.prog,hk⟩
theorem stepBegun_any (w:World) (hk:KindsAt w):Calls Tryz.prog 12 #[] w fun e w'=>e=.returned (.bool true)∧Kept w w':=by
  have gv:∀ (p:List Fn) (s:St) (z:Int),(stpS p s).2=z→∀ u vp v,Kept w u→ProgAt u vp p→StAt u v s→GivesSt 15 #[vp,v] u (stpS p s).1 [.int .i64 z]:=fun p s z e u vp v hu hp hs=>by
    have:=stepDo_gives p s vp v u hp hs (hk.kept hu)
    rwa [e] at this
  exact stepBegun_w w cntL _ _ _ _ _ _ _ (hide count_st) (hide (after_st 4 (by omega))) (hide (after_st 6 (by omega))) (hide (after_st 99 (by omega)))
    (hide (gv _ _ _ sbA_is.1)) (hide (gv _ _ _ sbB_is.1)) (hide (gv _ _ _ sbC_is)) (hide (gv alP alS _ sbD_is)) (hide (sameInts_is [7])) sbA_is.2 sbB_is.2
theorem from_own {base:Nat} {w:World} {V:Key→Value} {s:St} (h:Own base w V s) (hs:Small s):∃ oa n cap c oo m co,(.agg #[V .fibers,.int .i64 s.now,V .out]:Value)=.agg #[.slice oa n cap,.int .i64 c,.slice oo m co]∧StFrom base w (.agg #[.slice oa n cap,.int .i64 c,.slice oo m co]) s:=by
  obtain ⟨oa,n,cap,c,oo,m,co,e,_⟩:=own_st h hs
  refine ⟨oa,n,cap,c,oo,m,co,e,fun u hu=>?_⟩
  rw [← e]
  exact (h.same (fun k g hk hg=>hu g ((h.piece k hk).block g hg).1)).reads hs
theorem stepped_right (p:List Fn) (s:St) (vp vs:Value) (w:World) (hp:ProgAt w vp p) (hs:StAt w vs s) (hz:Zy p s=0) :
    Calls Tryz.prog 36 #[vp,vs] w fun e w'=>∃ oa n cap c oo m co,e=.returned (.tuple #[.agg #[.slice oa n cap,.int .i64 c,.slice oo m co],.int .i64 (oneS p s).2])∧StFrom w.heap.size w' (.agg #[.slice oa n cap,.int .i64 c,.slice oo m co]) (oneS p s).1∧Kept w w':=by
  have hsm:Small (oneS p s).1:=by have:=stpS_small (p:=p) (s:=s); unfold stpS at this; rwa [if_pos hz] at this
  by_cases hn:s.now < 0
  · have e:oneS p s=(St.zero,8):=if_pos hn
    rw [e]
    obtain ⟨oa,n,cap,c,oo,m,co,rfl⟩:=stAt_shape hs
    refine (stepped_over vp w oa oo n m cap co c (by rw [(stAt_parts hs).1]; exact hn)).mono ?_
    rintro e w' ⟨rfl,hk⟩
    exact ⟨_,_,_,_,_,_,_,rfl,fun u _=>StAt.zero u,hk⟩
  · have e:oneS p s=Zr p s:=if_neg hn
    rw [e] at hsm ⊢
    refine (stepped_on p s vp vs w hp hs (Jz hz) (right_ok hz (by omega))).mono ?_
    rintro e w' ⟨V,rfl,ho,hk⟩
    obtain ⟨oa,n,cap,c,oo,m,co,h1,h2⟩:=from_own ho hsm
    exact ⟨oa,n,cap,c,oo,m,co,by rw [h1],h2,hk⟩
theorem stepOf_gives (p:List Fn) (s:St) (vp vs:Value) (w:World) (hp:ProgAt w vp p) (hs:StAt w vs s):GivesSt 17 #[vp,vs] w (stpS p s).1 [.int .i64 (stpS p s).2]:=by
  obtain ⟨oa,n,cap,c,oo,m,co,rfl⟩:=stAt_shape hs
  have h:=stepOf_w vp w (Zy p s) (oneS p s).2 (oneS p s).1 oa oo n m cap co c (hide fun u hu=>stateError_any p vp _ s u (hp.kept hu) (hs.kept hu)) (hide fun h0 u hu=>stepped_right p s _ _ u (hp.kept hu) (hs.kept hu) h0)
  unfold stpS
  by_cases hz:Zy p s=0
  · rw [if_pos hz,if_pos hz] at h
    rw [if_pos hz]; exact h
  · rw [if_neg hz,if_neg hz] at h
    rw [if_neg hz]; exact h
theorem runOf_gives (p:List Fn) (s:St) (vp vs:Value) (fuel:Int) (w:World) (hp:ProgAt w vp p) (hs:StAt w vs s):GivesSt 18 #[vp,vs,.int .i64 fuel] w (rnS p s fuel).1 [.int .i64 (rnS p s fuel).2.1,.int .i64 (rnS p s fuel).2.2]:=by
  obtain ⟨oa,n,cap,c,oo,m,co,rfl⟩:=stAt_shape hs
  have h:=runOf_w vp fuel w (Zy p s) (runS p fuel.toNat s).1 (runS p fuel.toNat s).2.1 (runS p fuel.toNat s).2.2 (inB fuel 0 500) oa oo n m cap co c (hide fun u=>Xc _ _ _ u) (hide fun u hu=>stateError_any p vp _ s u (hp.kept hu) (hs.kept hu)) (hide fun h0 hin u hu=>by
    obtain ⟨h1,h2⟩:=inB_iff.1 hin
    have:=run_any p s vp _ fuel.toNat u (hp.kept hu) (hs.kept hu) (Jz h0) (by omega) (right_goes _ h0)
    rw [Int.toNat_of_nonneg h1] at this
    refine this.mono ?_
    rintro e w' ⟨V,rfl,ho,hk⟩
    obtain ⟨oa,n,cap,c,oo,m,co,h3,h4⟩:=from_own ho (Jz (run_right _ h0))
    exact ⟨oa,n,cap,c,oo,m,co,by rw [h3],h4,hk⟩)
  unfold rnS
  by_cases hin:inB fuel 0 500=true
  · simp only [hin,if_true] at h ⊢
    by_cases hz:Zy p s=0
    · simp only [hz,if_true] at h ⊢; exact h
    · simp only [hz,if_false] at h ⊢; exact h
  · simp only [hin] at h ⊢; exact h
theorem stepDo_caps (p:List Fn) (s:St) (vp vs:Value) (w:World) (hp:ProgAt w vp p) (hs:StAt w vs s) (hkd:KindsAt w):GivesCp 15 #[vp,vs] w (stpS p s).1 [.int .i64 (stpS p s).2]:=by
  refine (stepDo_any p s vp vs w hp hs hkd).mono ?_
  rintro e w' ⟨V,rfl,ho,hk⟩
  obtain ⟨xs,hr,_⟩:=ho.piece .fibers trivial
  obtain ⟨o3,c3,E3,_⟩:=Zo hr
  have hr4:=ho.piece .out trivial
  obtain ⟨o4,c4,E4,_⟩:=Zo hr4
  have hst:=ho.reads stpS_small
  rw [E3] at hr
  have hr4':w'.ownsRow w.heap.size 3 1 (V .out) _ _:=hr4
  rw [E4] at hr4'
  refine ⟨o3,_,c3,(stpS p s).1.now,o4,_,c4,by rw [E3,E4]; rfl,by rw [E3,E4] at hst; exact hst,⟨row_cap hr,row_cap hr4',?_⟩,hk⟩
  intro i j hi hj b o of nf cf bf off os ns cs e1 h1 e2 h2
  obtain ⟨gF,capF,eF,_,k0,_⟩:=ho.fib hi
  obtain ⟨g,cap,eg,_,_,_,_,k3,_⟩:=ho.fr hi hj
  rw [E3,e1] at eF
  simp only [Value.slice.injEq,Option.some.injEq,Addr.mk.injEq,and_true] at eF
  obtain ⟨⟨rfl,rfl⟩,_⟩:=eF
  rw [Nat.zero_add,k0,eg,e2] at h1
  simp only [Option.some.injEq,Value.slice.injEq,Addr.mk.injEq,and_true] at h1
  obtain ⟨⟨rfl,rfl⟩,_⟩:=h1
  rw [Nat.zero_add,k3] at h2
  have hrow:w'.ownsRow w.heap.size 3 1 (V (.stack i j)) _ _:=ho.piece (.stack i j) ⟨hi,hj⟩
  obtain ⟨o5,c5,E5,_⟩:=Zo hrow
  rw [E5] at h2 hrow
  simp only [Option.some.injEq,Value.slice.injEq] at h2
  obtain ⟨_,rfl,rfl⟩:=h2
  exact row_cap hrow
end Go.Proofs.YtblihfpigjiahaaGreatDoor
