/-
  forge.Func, of expr.Check's contract.
-/
import Derived.Test.YtogcfkmekdpmmaaDoorForgeC
set_option maxRecDepth 100000
set_option maxHeartbeats 8000000
namespace Go.Proofs.YtogcfkmekdpmmaaDoor
open Go.RowKit Go.Maps

def FCode (N:Nat) (w:World) (v:Value) (c:List (Int × Int)):Prop :=
  ∃ oa cap,v=.slice oa c.length cap∧c.length≤8796093022208∧∀ i x,c[i]?=some x→∃ b o,oa=some ⟨b,o,none⟩∧N≤b ∧
    w.cell? ⟨b,o + i * 2,none⟩=some (.int .i64 x.1)∧w.cell? ⟨b,o + i * 2 + 1,none⟩=some (.int .i64 x.2)
theorem FCode.code {N:Nat} {w:World} {v:Value} {c:List (Int × Int)} (h:FCode N w v c):CodeAt w v c:=by
  obtain ⟨oa,cap,e,hl,hi⟩:=h
  refine ⟨oa,cap,e,hl,fun i x hx=>?_⟩
  obtain ⟨b,o,e1,_,h1,h2⟩:=hi i x hx
  exact ⟨b,o,e1,h1,h2⟩
theorem FCode.kept {N:Nat} {w w':World} {v:Value} {c:List (Int × Int)} (h:FCode N w v c) (k:Kept w w'):FCode N w' v c:=by
  obtain ⟨oa,cap,e,hl,hi⟩:=h
  refine ⟨oa,cap,e,hl,fun i x hx=>?_⟩
  obtain ⟨b,o,e1,e2,h1,h2⟩:=hi i x hx
  exact ⟨b,o,e1,e2,k.cell h1,k.cell h2⟩
theorem FCode.nil (N:Nat) (w:World):FCode N w (.slice none 0 0) []:=⟨none,0,rfl,by simp,fun i x h=>by simp at h⟩
theorem FCode.from {N M:Nat} {w:World} {v:Value} {c:List (Int × Int)} (h:FCode N w v c) (hm:M≤N):FCode M w v c:=by
  obtain ⟨oa,cap,e,hl,hi⟩:=h
  refine ⟨oa,cap,e,hl,fun i x hx=>?_⟩
  obtain ⟨b,o,e1,e2,h1,h2⟩:=hi i x hx
  exact ⟨b,o,e1,by omega,h1,h2⟩
theorem FCode.set {N:Nat} {w:World} {v:Value} {c:List (Int × Int)} (h:FCode N w v c) {p:Addr} (hp:p.block < N) (u:Value):FCode N (w.setCell p u) v c:=by
  obtain ⟨oa,cap,e,hl,hi⟩:=h
  refine ⟨oa,cap,e,hl,fun i x hx=>?_⟩
  obtain ⟨b,o,e1,e2,h1,h2⟩:=hi i x hx
  have hh:(w.setCell p u).heap[b]?=w.heap[b]?:=Below.heap_setCell _ _ _ _ (by omega)
  refine ⟨b,o,e1,e2,?_,?_⟩
  · rw [← h1]; simp only [World.cell?,hh]
  · rw [← h2]; simp only [World.cell?,hh]
theorem SmAt.code {w0 w:World} {B:Nat} {e c:List (Int × Int)} (h:SmAt w0 w B e c) (hl:c.length≤100):∃ oa cap,w.cell? ⟨B,1,none⟩=some (.slice oa c.length cap)∧FCode w0.heap.size w (.slice oa c.length cap) c:=by
  obtain ⟨lv,cv,hB,hlow,hnd,hrow,hoff,hk⟩:=h
  rcases hrow.2 with ⟨h1,h0⟩ | ⟨g,cap,cur,rfl,hb,hg,hnc,hcm,hcs,ht⟩
  · have:c=[]:=List.length_eq_zero_iff.1 h0
    subst this
    rw [h1] at hB
    exact ⟨none,0,cell_lays hB 1,FCode.nil _ _⟩
  · refine ⟨some ⟨g,0,none⟩,cap,cell_lays hB 1,_,cap,rfl,by omega,fun i x hx=>⟨g,0,rfl,hb,?_⟩⟩
    have hil:i < c.length:=(List.getElem?_eq_some_iff.1 hx).1
    have h2:=flatOps_at c i _ hx
    rw [← ht,List.getElem?_take_of_lt (by omega),List.getElem?_take_of_lt (by omega)] at h2
    rw [cell_lays hg,cell_lays hg]
    simpa using h2
theorem SmAt.keptw {w0 w:World} {B:Nat} {e c:List (Int × Int)} (h:SmAt w0 w B e c):Kept w0 w:=by
  obtain ⟨lv,cv,hB,hlow,hnd,hrow,hoff,hk⟩:=h
  exact hk
theorem SmAt.new {w0 w:World} {v:Value} {e:List (Int × Int)} (he:NodesAt w0 v e) (hk:Kept w0 w):SmAt w0 (w.alloc (.cells #[v,.slice none 0 0] 65)) w.heap.size e []:=by
  refine ⟨v,.slice none 0 0,lays_new rfl,hk.size,he,⟨by simp [flatOps],.inl ⟨rfl,rfl⟩⟩,?_,hk.alloc _⟩
  intro h
  cases h
def fgS (e:List (Int × Int)) (L:Int):Fn × Int:=if exErrS e L=0 then (fnS e L,0) else (Fn.zero,exErrS e L)
def FgPost (g:Fn) (er:Int) (w:World) (e:Ending) (w':World):Prop :=
  ∃ cv,e=.returned (.tuple #[.agg #[.int .i64 g.args,.int .i64 g.locals,cv],.int .i64 er])∧FCode w.heap.size w' cv g.code∧Kept w w'
theorem forgeFunc_bad (e:List (Int × Int)) (v:Value) (L:Int) (w:World) (HCK:Hid (∀ u,Kept w u→Calls Tryd.prog 32 #[v,.int .i64 L] u fun x u'=>x=.returned (.int .i64 (exErrS e L))∧Kept u u')) (hz:exErrS e L≠0) :
    Calls Tryd.prog 12 #[v,.int .i64 L] w (FgPost Fn.zero (exErrS e L) w):=by
  have hz':(exErrS e L != 0)=true:=by rw [bne_iff_ne]; exact hz
  have HC:=hide ((un HCK) _ ((Kept.refl w).alloc (.cells #[.int .i64 0,.int .i64 0,.slice none 0 0] 33)))
  generalize exErrS e L=r at *
  clear hz HCK
  go_enter Tryd.func12,Tryd.ntmps12
  go_wp2_with fail
  refine (un HC).mono ?_
  rintro _ w1 ⟨rfl,hk1⟩
  have l1:=lays_kept hk1 (lays_new (b:=w.heap.size) (o:=.cells #[.int .i64 0,.int .i64 0,.slice none 0 0] 33) rfl)
  have e0:=cell_lays l1 0
  have e1:=cell_lays l1 1
  have e2:=cell_lays l1 2
  have z0:=frozen_lays l1 0
  have z1:=frozen_lays l1 1
  have z2:=frozen_lays l1 2
  simp only [List.getElem?_toArray,List.getElem?_cons_zero,List.getElem?_cons_succ] at e0 e1 e2
  have H1:=hide (((Kept.refl w).alloc _).trans hk1)
  have L1:=hide l1
  clear hk1 HC l1
  go_wp2
  have hl3:=lays_set (lays_set (lays_set (un L1) 0 (.int .i64 0)) 1 (.int .i64 0)) 2 (.slice none 0 0)
  have k0:=cell_lays hl3 0
  have k1:=cell_lays hl3 1
  have k2:=cell_lays hl3 2
  simp only [Array.setIfInBounds,List.size_toArray,List.length_cons,List.length_nil] at k0 k1 k2
  refine bodyPost_ret (v:=.tuple #[.agg #[.int .i64 0,.int .i64 0,.slice none 0 0],.int .i64 r]) (by simp [results,Tryd.results12,go_sem,k0,k1,k2]) rfl ?_
  exact ⟨.slice none 0 0,rfl,FCode.nil _ _,(((un H1).setCell (p:=⟨w.heap.size,0,none⟩) (Nat.le_refl _) _).setCell (p:=⟨w.heap.size,1,none⟩) (Nat.le_refl _) _).setCell (p:=⟨w.heap.size,2,none⟩) (Nat.le_refl _) _⟩
theorem forgeFunc_go (e:List (Int × Int)) (v:Value) (L:Int) (w:World) (he:NodesAt w v e) (hf:FKinds w) (HCK:Hid (∀ u,Kept w u→Calls Tryd.prog 32 #[v,.int .i64 L] u fun x u'=>x=.returned (.int .i64 (exErrS e L))∧Kept u u')) (hz:exErrS e L=0) :
    Calls Tryd.prog 12 #[v,.int .i64 L] w (FgPost (fnS e L) 0 w):=by
  obtain ⟨L0,L4,l9,hkd,hnm,hone⟩:=exErr_ok hz
  obtain ⟨oa0,cap0,rfl,_,_⟩:=id he
  have hz0:∀ x∈e,2≤x.1→x.2=0:=fun x hx h2=>by
    have:=hnm x hx
    unfold numOk mostS at this
    rw [if_neg (by omega),if_neg (by omega)] at this
    omega
  have m0:=lay_len 9 e 1 0 l9 (by omega) hone hkd
  have hrest:(valS [] 9 e).2=[]:=by
    obtain ⟨_,_,_,_,o⟩:=val_rest [] 9 e 1 l9 (by omega) hone hkd
    exact one_nil o
  have HC:=hide ((un HCK) _ ((Kept.refl w).alloc (.cells #[.int .i64 0,.int .i64 0,.slice none 0 0] 33)))
  rw [hz] at HC
  have HPT:Hid (∀ w1,Kept (w.alloc (.cells #[.int .i64 0,.int .i64 0,.slice none 0 0] 33)) w1→Calls Tryd.prog 33 #[.pointer (some ⟨w1.heap.size,0,none⟩)] (w1.alloc (.cells #[.slice oa0 e.length cap0,.slice none 0 0] 65)) fun en w'=>en=.returned (.tuple #[])∧SmAt w1 w' w1.heap.size [] (layS 9 e 0).1):=hide (fun w1 hk1=>by
    have hk01:=((Kept.refl w).alloc (.cells #[.int .i64 0,.int .i64 0,.slice none 0 0] 33)).trans hk1
    have:=smPart_any w1 w1.heap.size (hide (fun k v' h=>hk01.cell (hf k v' h))) 9 1 e [] _ l9 (by omega) hone hkd hz0 (by simp; omega) (SmAt.new (he.kept hk01) (Kept.refl _))
    refine this.mono fun en w' h=>⟨h.1,?_⟩
    have h2:=h.2.1
    rw [hrest] at h2
    simpa using h2)
  have hcl:(layS 9 e 0).1.length≤20:=by omega
  have hfn:fnS e L=⟨L,L,(layS 9 e 0).1++[(12,0)]⟩:=rfl
  rw [hfn]
  generalize (layS 9 e 0).1=C at *
  clear HCK hz hz0 hkd hnm hone m0 hrest hf hfn he
  go_enter Tryd.func12,Tryd.ntmps12
  go_wp2_with fail
  refine (un HC).mono ?_
  rintro _ w1 ⟨rfl,hk1⟩
  have H2:=hide ((un HPT) w1 hk1)
  have l1:=lays_kept hk1 (lays_new (b:=w.heap.size) (o:=.cells #[.int .i64 0,.int .i64 0,.slice none 0 0] 33) rfl)
  have H1:=hide (((Kept.refl w).alloc _).trans hk1)
  have L1:=hide l1
  clear hk1 HC l1 HPT
  go_wp2_with fail
  refine (un H2).mono ?_
  rintro _ u1 ⟨rfl,s1⟩
  have H3:=hide (smPut_any w1 u1 _ _ _ 12 0 s1 (by omega))
  clear s1 H2
  go_wp2_with fail
  refine (un H3).mono ?_
  rintro _ u2 ⟨rfl,s2,-⟩
  obtain ⟨oa,cap,c1,hcode⟩:=s2.code (by simp; omega)
  have hk2:=s2.keptw
  have l2:=lays_kept hk2 (un L1)
  have e0:=cell_lays l2 0
  have e1:=cell_lays l2 1
  have e2:=cell_lays l2 2
  have z0:=frozen_lays l2 0
  have z1:=frozen_lays l2 1
  have z2:=frozen_lays l2 2
  simp only [List.getElem?_toArray,List.getElem?_cons_zero,List.getElem?_cons_succ] at e0 e1 e2
  have HK2:=hide ((un H1).trans hk2)
  have L2:=hide l2
  have hsz:w.heap.size < w1.heap.size:=(Array.getElem?_eq_some_iff.1 (un L1)).1
  have HCO:=hide hcode
  generalize hM:(C++[((12:Int),(0:Int))]).length=M at c1 HCO
  clear s2 hcode hk2 l2 H3 hM
  go_wp2_with fail
  have hl3:=lays_set (lays_set (lays_set (un L2) 0 (.int .i64 L)) 1 (.int .i64 L)) 2 (.slice oa M cap)
  have k0:=cell_lays hl3 0
  have k1:=cell_lays hl3 1
  have k2:=cell_lays hl3 2
  simp only [Array.setIfInBounds,List.size_toArray,List.length_cons,List.length_nil] at k0 k1 k2
  refine bodyPost_ret (v:=.tuple #[.agg #[.int .i64 L,.int .i64 L,.slice oa M cap],.int .i64 0]) (by simp [results,Tryd.results12,go_sem,k0,k1,k2]) rfl ?_
  refine ⟨_,rfl,?_,(((un HK2).setCell (p:=⟨w.heap.size,0,none⟩) (Nat.le_refl _) _).setCell (p:=⟨w.heap.size,1,none⟩) (Nat.le_refl _) _).setCell (p:=⟨w.heap.size,2,none⟩) (Nat.le_refl _) _⟩
  exact (((((un HCO).set (p:=⟨w.heap.size,0,none⟩) hsz _).set (p:=⟨w.heap.size,1,none⟩) hsz _).set (p:=⟨w.heap.size,2,none⟩) hsz _)).from (Nat.le_of_lt hsz)
theorem forgeFunc_any (e:List (Int × Int)) (v:Value) (L:Int) (w:World) (he:NodesAt w v e) (hf:FKinds w) (HCK:Hid (∀ u,Kept w u→Calls Tryd.prog 32 #[v,.int .i64 L] u fun x u'=>x=.returned (.int .i64 (exErrS e L))∧Kept u u')) :
    Calls Tryd.prog 12 #[v,.int .i64 L] w (FgPost (fgS e L).1 (fgS e L).2 w):=by
  unfold fgS
  split
  · rename_i h
    exact forgeFunc_go e v L w he hf HCK h
  · rename_i h
    exact forgeFunc_bad e v L w HCK h
end Go.Proofs.YtogcfkmekdpmmaaDoor
