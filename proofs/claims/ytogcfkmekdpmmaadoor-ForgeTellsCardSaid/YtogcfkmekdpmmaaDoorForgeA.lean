/-
  The program's smith: put. What it has is its own.
-/
import Derived.Test.YtogcfkmekdpmmaaDoorStX
import Derived.Test.YtogcfkmekdpmmaaDoorFB01
import Derived.Test.YtogcfkmekdpmmaaDoorExprG
import Derived.Test.YtogcfkmekdpmmaaDoorForgeS
import Derived.Laws.AppendOwn
import Derived.Maps.AppendAt
set_option maxRecDepth 100000
set_option maxHeartbeats 8000000
namespace Go.Proofs.YtogcfkmekdpmmaaDoor
open Go.RowKit Go.Maps

theorem fInfoOp:∃ i0,Tryd.prog.info? 61=some i0∧i0.zero=some (.agg #[.int .i64 0,.int .i64 0])∧i0.size=2∧i0.bytes=16:=by
  have h:(Tryd.prog.info? 61).map (fun i=>(i.zero,i.size,i.bytes))=some (some (.agg #[.int .i64 0,.int .i64 0]),2,16):=by kernel_rfl
  cases hi:Tryd.prog.info? 61 with
  | none=>rw [hi] at h; cases h
  | some i =>
    rw [hi] at h
    simp only [Option.map_some,Option.some.injEq,Prod.mk.injEq] at h
    exact ⟨i,rfl,h.1,h.2.1,h.2.2⟩
theorem fTwo_new (w:World) (a b:Int) (t:TypeId):∀ j u,[Value.int .i64 a,Value.int .i64 b][j]?=some u→(w.alloc (.cells #[.int .i64 a,.int .i64 b] t)).cell? ((⟨w.heap.size,0,none⟩:Addr).add j)=some u:=by
  intro j u hj
  match j,hj with
  | 0,hj=>simp at hj; subst hj; exact cell_lays (lays_new rfl) 0
  | 1,hj=>simp at hj; subst hj; exact cell_lays (lays_new rfl) 1
  | j + 2,hj=>simp at hj
theorem fTwo_int (a b:Int):∀ u,u∈[Value.int .i64 a,Value.int .i64 b]→u.oneCell'=true:=by
  intro u hu
  simp only [List.mem_cons,List.not_mem_nil,or_false] at hu
  rcases hu with rfl | rfl <;> rfl
theorem fFlat_snoc (c:List (Int × Int)) (x:Int × Int):flatOps (c++[x])=flatOps c++[.int .i64 x.1,.int .i64 x.2]:=by simp [flatOps]
theorem fRow_slice {w:World} {base:Nat} {e:TypeId} {size:Nat} {v:Value} {n:Nat} {xs:List Value} (h:w.ownsRow base e size v n xs):(∃ oa cap,v=.slice oa n cap)∧∀ r,v.ownBlock=some r→base≤r:=by
  obtain ⟨hl,h0 | ⟨g,cap,cur,hv,hb,_⟩⟩:=h
  · refine ⟨⟨none,0,?_⟩,fun r hr=>?_⟩
    · rw [h0.1,h0.2]
    · rw [h0.1] at hr; cases hr
  · exact ⟨⟨some ⟨g,0,none⟩,cap,hv⟩,fun r hr=>by rw [hv] at hr; cases hr; exact hb⟩
def SmAt (w0 w:World) (B:Nat) (e c:List (Int × Int)):Prop :=
  ∃ lv cv,w.heap[B]?=some (.cells #[lv,cv] 65)∧w0.heap.size≤B∧NodesAt w0 lv e∧w.ownsRow w0.heap.size 61 2 cv c.length (flatOps c)∧cv.ownBlock≠some B∧Kept w0 w
def SmK (B:Nat) (w w':World):Prop:=w.heap.size≤w'.heap.size∧∀ b cv,b < w.heap.size→b≠B→w.cell? ⟨B,1,none⟩=some cv→cv.ownBlock≠some b→w'.heap[b]?=w.heap[b]?∧∃ cv',w'.cell? ⟨B,1,none⟩=some cv'∧cv'.ownBlock≠some b
theorem SmK.trans {B:Nat} {w w1 w2:World} (h:SmK B w w1) (k:SmK B w1 w2):SmK B w w2:=by
  refine ⟨Nat.le_trans h.1 k.1,fun b cv hb hn hc ho=>?_⟩
  obtain ⟨e1,cv1,c1,o1⟩:=h.2 b cv hb hn hc ho
  obtain ⟨e2,r⟩:=k.2 b cv1 (Nat.lt_of_lt_of_le hb h.1) hn c1 o1
  exact ⟨e2.trans e1,r⟩
theorem SmK.drew {B:Nat} {w w1:World} (h:SmK B w w1):SmK B w w1.drew:=h
theorem smPut_any (w0 w:World) (B:Nat) (e c:List (Int × Int)) (kd a:Int) (h:SmAt w0 w B e c) (hc:c.length≤100) :
    Calls Tryd.prog 34 #[.pointer (some ⟨B,0,none⟩),.int .i64 kd,.int .i64 a] w fun en w'=>en=.returned (.int .i64 c.length)∧SmAt w0 w' B e (c++[(kd,a)])∧SmK B w w':=by
  obtain ⟨i0,hi0,hz0,hz1,hz2⟩:=fInfoOp
  obtain ⟨lv,cv,hB,hlow,hnd,hrow,hoff,hk⟩:=h
  have hBs:B < w.heap.size:=by
    have:=(Array.getElem?_eq_some_iff.1 hB).1
    exact this
  obtain ⟨⟨oa,cap,rfl⟩,hblk⟩:=fRow_slice hrow
  generalize hn:c.length=n at *
  have b1:=cell_new hB 1
  have b0:w.cell? ⟨B,1,none⟩=some (.slice oa n cap):=cell_lays hB 1
  have HB:=hide hB
  have HROW:=hide hrow
  have HND:=hide hnd
  have HK:=hide hk
  have HOFF:=hide hoff
  have HBLK:=hide hblk
  clear hB hrow hnd hk hoff hblk
  have hsz:w0.heap.size≤w.heap.size:=(un HK).size
  go_enter Tryd.func34,Tryd.ntmps34
  go_wp2_with (at_builtin; refine un ?_)
  refine hide ?_
  refine wpList_append_own_at _ rfl _ _ 31 rfl w0.heap.size 61 i0 (.agg #[.int .i64 0,.int .i64 0]) 2 16 Tryd.underlying31 hi0 hz0 hz1 hz2 rfl (by decide) _ _ _ rfl ((un HROW).alloc _) ⟨w.heap.size,0,none⟩ 1 1 [.int .i64 kd,.int .i64 a] rfl rfl (fTwo_new _ _ _ _) (fTwo_int _ _) (by unfold maxLen; omega) (by omega) (by simp; omega) ?_
  intro v' w2 hown' hgrow _ hat
  have hsa:(w.alloc (.cells #[.int .i64 kd,.int .i64 a] 61)).heap.size=w.heap.size + 1:=by simp
  have hB2:w2.heap[B]?=some (.cells #[lv,.slice oa n cap] 65):=(hgrow.block B (by omega) (fun e=>un HOFF e.symm)).trans (lays_alloc (un HB) _)
  have hk2:Kept w0 w2:=Below.grown ((un HK).alloc _) hgrow (by omega) (un HBLK)
  have hne:v'.ownBlock≠some B:=by
    rcases hat with e | e
    · rw [e]; exact un HOFF
    · rw [e,hsa]
      intro e'
      have:=Option.some.inj e'
      omega
  obtain ⟨⟨o2,c2,rfl⟩,_⟩:=fRow_slice hown'
  have hrow3:=ownsRow_setCell_other hown' (a:=⟨B,1,none⟩) hne (.slice o2 (n + 1) c2)
  have hB3:=lays_set hB2 1 (.slice o2 (n + 1) c2)
  have hk3:=hk2.setCell (p:=⟨B,1,none⟩) hlow (.slice o2 (n + 1) c2)
  have hsm:SmK B w (w2.setCell ⟨B,1,none⟩ (.slice o2 (n + 1) c2)):=by
    refine ⟨?_,fun b cv hb hn hc ho=>?_⟩
    · have h1:w.heap.size < w2.heap.size:=Nat.lt_of_lt_of_le (by omega) hgrow.size
      simp [World.setCell]
      omega
    · rw [b0] at hc
      cases hc
      refine ⟨?_,.slice o2 (n + 1) c2,cell_lays hB3 1,?_⟩
      · rw [Below.heap_setCell _ _ _ _ hn,hgrow.block b (by omega) (fun e=>ho e.symm),Below.heap_alloc _ _ _ hb]
      · rcases hat with e | e
        · rw [e]; exact ho
        · rw [e,hsa]
          intro e'
          have:=Option.some.inj e'
          omega
  have HSM:=hide hsm
  clear hsm
  have m1:w2.cell? ⟨B,1,none⟩=some (.slice oa n cap):=cell_lays hB2 1
  have f1:=frozen_lays hB2 1
  have HR3:=hide hrow3
  have HB3:=hide hB3
  have HK3:=hide hk3
  have HNE:=hide hne
  clear hown' hgrow hat hB2 hk2 hrow3 hB3 hk3 hne b0 b1 hsa
  have hwn:IntKind.i64.wrap (((n + 1:Nat):Int) - 1)=(n:Int):=by rw [IntKind.wrap_i64]; omega
  have hwn2:IntKind.i64.wrap ((n:Int) + 1 - 1)=(n:Int):=by rw [IntKind.wrap_i64]; omega
  have hwn3:IntKind.i64.wrap (n:Int)=(n:Int):=by rw [IntKind.wrap_i64]; omega
  go_wp2_with fail
  go_ret
  refine ⟨by simp,⟨lv,_,un HB3,hlow,un HND,?_,un HNE,un HK3⟩,un HSM⟩
  rw [fFlat_snoc,List.length_append,hn]
  exact un HR3
end Go.Proofs.YtogcfkmekdpmmaaDoor
