/- OpenE, ForgeL, ForgeG -/
import Derived.Test.YtogcfkmekdpmmaaDoorFB43
import Derived.Test.YtogcfkmekdpmmaaDoorExprM
import Derived.Test.YtogcfkmekdpmmaaDoorForgeC
import Derived.Test.YtogcfkmekdpmmaaDoorForgeF
import Derived.Test.YtogcfkmekdpmmaaDoorForgeR
import Derived.Test.YtogcfkmekdpmmaaDoorEXJ
import Derived.Test.YtogcfkmekdpmmaaDoorFB30
import Derived.Test.YtogcfkmekdpmmaaDoorFB08
set_option maxRecDepth 100000
set_option maxHeartbeats 8000000
namespace Go.Proofs.YtogcfkmekdpmmaaDoor
open Go.RowKit Go.ChangeShapes Go.WideShapes Go.ChangeAt

theorem cellsNode:Tryd.prog.cellsOf 88=2:=by kernel_rfl
theorem bytesNode:Tryd.prog.bytesOf 88=16:=by kernel_rfl
theorem bytesIntE:Tryd.prog.bytesOf 3=8:=by kernel_rfl
theorem typeNode:∃ f0 f1:Field,Tryd.prog.underlying 88=some (.struct #[f0,f1])∧f0.type=3∧f0.offset=0∧f1.type=3∧f1.offset=1:=⟨_,_,Tryd.underlying88,rfl,rfl,rfl,rfl⟩

section
variable {H:Type} {enc:TypeId × Value→H} {w:World} {base:Nat} {spare:Nat→Bool} {held:Bool}

theorem trod_node {fuel:Nat} {cs:List Value} {x:DataW H × List MemPlace} (h:DataW.trod enc Tryd.prog w base spare held fuel 88 cs=some x) :
    ∃ k a:Int,cs=[.int .i64 k,.int .i64 a]∧(Lit.int .i64 k).wf=true:=by
  obtain ⟨f0,f1,hu,t0,o0,t1,o1⟩:=typeNode
  obtain ⟨y0,y1,n,hx,hl,h0,h1⟩:=trod_struct2 hu h
  rw [t0,o0,cellsInt] at h0
  rw [t1,o1,cellsInt] at h1
  obtain ⟨k,e0,r0,w0⟩:=DataW.trod_int Tryd.underlying3 h0
  obtain ⟨a,e1,r1,w1⟩:=DataW.trod_int Tryd.underlying3 h1
  rw [cellsNode] at hl
  match cs,hl with
  | [c0,c1],_ =>
    simp at e0 e1
    subst e0 e1
    exact ⟨k,a,rfl,w0⟩

theorem open_nodes {fuel:Nat} {v:Value} {x:DataW H × List MemPlace} (h:DataW.trod enc Tryd.prog w base spare held fuel 30 [v]=some x) (hw:∀ n,n∈x.1.weights Tryd.prog 30→n≤reachBytes) :
    ∃ c,NodesAt w v c∧∀ x∈c,(Lit.int .i64 x.1).wf=true:=by
  rcases Deep.open_slice Tryd.underlying30 h with ⟨e,_⟩ | ⟨a,len,cap,m,n,D,Pl,e,_,hlc,_,hm,hx,hi⟩
  · simp at e
    subst e
    exact ⟨[],NodesAt.nil _,by simp⟩
  · simp at e
    subst e
    have hlm:len≤m:=by rw [hm]; split <;> omega
    have hlen:len * 16≤140737488351232:=by
      have:=hw ((((List.range len).map D).length + ((List.range (m - len)).map fun j=>D (len + j)).length) * Tryd.prog.bytesOf 88) (by rw [hx]; simp [DataW.weights,Tryd.underlying30])
      rw [bytesNode,reach_eq] at this
      simp at this
      omega
    have hall:∀ i,i < len→∃ y:Int × Int,(w.cell? (a.add (i * 2))=some (.int .i64 y.1)∧w.cell? (a.add (i * 2 + 1))=some (.int .i64 y.2))∧(Lit.int .i64 y.1).wf=true:=by
      intro i hil
      obtain ⟨cs',hc,ht⟩:=hi i (by omega)
      rw [cellsNode] at hc
      obtain ⟨_,_,hcell⟩:=World.cells?_some hc
      obtain ⟨k,av,rfl,hwk⟩:=trod_node ht
      refine ⟨(k,av),⟨?_,?_⟩,hwk⟩
      · have:=hcell 0 (by omega); rw [Deep.add_add] at this; simpa using this
      · have:=hcell 1 (by omega); rw [Deep.add_add] at this; simpa using this
    obtain ⟨g,hg⟩:=Deep.choose_lt hall
    refine ⟨(List.range len).map g,⟨some a,cap,by simp,⟨by simp; omega,by simpa using hlc⟩,fun i y hy=>?_⟩,fun y hy=>?_⟩
    · rw [List.getElem?_map,Option.map_eq_some_iff] at hy
      obtain ⟨j,hj,rfl⟩:=hy
      have hjl:i < len:=by simpa using (List.getElem?_eq_some_iff.1 hj).1
      obtain rfl:i=j:=by simpa [hjl] using hj
      have hs:a.spot=none:=by
        have:=(hg 0 (by omega)).1.1
        simp only [Nat.zero_mul] at this
        exact spot_none (by simpa [Addr.add] using this)
      refine ⟨a.block,a.off,by cases a; simp_all,?_,?_⟩
      · have:=(hg i hjl).1.1; rwa [add_of_spot hs] at this
      · have:=(hg i hjl).1.2; rwa [add_of_spot hs,← Nat.add_assoc] at this
    · obtain ⟨i,hi',rfl⟩:=List.mem_map.1 hy
      exact (hg i (by simpa using hi')).2

theorem open_vals {fuel:Nat} {v:Value} {x:DataW H × List MemPlace} (h:DataW.trod enc Tryd.prog w base spare held fuel 23 [v]=some x) (hw:∀ n,n∈x.1.weights Tryd.prog 23→n≤reachBytes):∃ l,IntsW w v l:=by
  rcases Deep.open_slice Tryd.underlying23 h with ⟨e,_⟩ | ⟨a,len,cap,m,n,D,Pl,e,_,hlc,_,hm,hx,hi⟩
  · simp at e
    subst e
    exact ⟨[],IntsW.nil _⟩
  · simp at e
    subst e
    have hlm:len≤m:=by rw [hm]; split <;> omega
    have hlen:len * 8≤140737488351232:=by
      have:=hw ((((List.range len).map D).length + ((List.range (m - len)).map fun j=>D (len + j)).length) * Tryd.prog.bytesOf 3) (by rw [hx]; simp [DataW.weights,Tryd.underlying23])
      rw [bytesIntE,reach_eq] at this
      simp at this
      omega
    have hall:∀ i,i < len→∃ y:Int,w.cell? (a.add (i * 1))=some (.int .i64 y):=by
      intro i hil
      obtain ⟨cs',hc,ht⟩:=hi i (by omega)
      rw [cellsInt] at hc
      obtain ⟨_,hcl,hcell⟩:=World.cells?_some hc
      obtain ⟨k,e0,_,_⟩:=DataW.trod_int Tryd.underlying3 ht
      subst e0
      refine ⟨k,?_⟩
      have:=hcell 0 (by omega); rw [Deep.add_add] at this; simpa using this
    obtain ⟨g,hg⟩:=Deep.choose_lt hall
    refine ⟨(List.range len).map g,some a,cap,by simp,by simp; omega,fun i y hy=>?_⟩
    rw [List.getElem?_map,Option.map_eq_some_iff] at hy
    obtain ⟨j,hj,rfl⟩:=hy
    have hjl:i < len:=by simpa using (List.getElem?_eq_some_iff.1 hj).1
    obtain rfl:i=j:=by simpa [hjl] using hj
    have hs:a.spot=none:=by
      have:=hg 0 (by omega)
      exact spot_none (by simpa [Addr.add] using this)
    refine ⟨a.block,a.off,by cases a; simp_all,?_⟩
    have:=hg i hjl; rwa [add_of_spot hs,Nat.mul_one] at this
end
end Go.Proofs.YtogcfkmekdpmmaaDoor
set_option maxRecDepth 100000
set_option maxHeartbeats 8000000
namespace Go.Proofs.YtogcfkmekdpmmaaDoor
open Go.RowKit Go.ChangeShapes Go.WideShapes Go.ChangeAt

theorem gForge : Tryd.prog.globalNamed "glebe/forge.kinds" = some 0 := by kernel_rfl
theorem gForgeType:(Tryd.prog.globals[0]?).map (·.type)=some 94:=by kernel_rfl
theorem forge_laid {W : World} (h : laidMetH Tryd.prog [("glebe/forge.kinds", Rows.laid_glebe_forge_kinds), ("glebe/op.kinds", Rows.laid_glebe_op_kinds)] W) : FKinds W ∧ KindsAt W := by
  obtain ⟨ps, ⟨g', t', cs, fuel, p, q, hg', ht', hvar, hd, hrest, hps⟩, hnd, hcl⟩ := (h : laidMet Tryd.prog [("glebe/forge.kinds", Rows.laid_glebe_forge_kinds), ("glebe/op.kinds", Rows.laid_glebe_op_kinds)] W)
  subst hps
  have h2 : KindsAt W := kinds_of_laid (show laidMet Tryd.prog [("glebe/op.kinds", Rows.laid_glebe_op_kinds)] W from ⟨q, hrest, (List.nodup_append.1 hnd).2.1, fun b off hb => hcl b off (List.mem_append_right _ hb)⟩)
  refine ⟨?_,h2⟩
  clear h2 hrest hnd hcl
  obtain rfl:=Option.some.inj (gForge.symm.trans hg')
  obtain rfl:=Option.some.inj (gForgeType.symm.trans ht')
  obtain ⟨xs,m,_,hx,_,hxl,hi⟩:=DataW.trod_array Tryd.underlying94 hd
  have hagg:(Rows.laid_glebe_forge_kinds:DataW Unit)=.agg (xs.map (·.1)):=congrArg Prod.fst hx
  unfold Rows.laid_glebe_forge_kinds at hagg
  have hag:=DataW.agg.inj hagg
  intro k v hv
  have hk:k < 7:=(List.getElem?_eq_some_iff.1 hv).1
  rw [World.var?_cell gForge hvar k]
  have hl:(xs[k]?).map (·.1)=some (.lit (.int .i64 v)):=by
    rw [← List.getElem?_map,← hag]
    have:k=0∨k=1∨k=2∨k=3∨k=4∨k=5∨k=6:=by omega
    rcases this with rfl | rfl | rfl | rfl | rfl | rfl | rfl <;> (simp at hv; subst hv; rfl)
  have h1:=hi k hk
  obtain ⟨x,hxi,hx1⟩:=Option.map_eq_some_iff.1 hl
  rw [hxi,cellsInt] at h1
  obtain ⟨z0,e0,r0,_⟩:=DataW.trod_int Tryd.underlying3 h1
  rw [r0] at hx1
  simp at hx1
  subst hx1
  have:=congrArg (·[0]?) e0
  simpa [List.getElem?_take,List.getElem?_drop] using this
end Go.Proofs.YtogcfkmekdpmmaaDoor
set_option maxRecDepth 100000
set_option maxHeartbeats 8000000
namespace Go.Proofs.YtogcfkmekdpmmaaDoor
open Go.RowKit Go.Maps

theorem FKinds.kept {w u:World} (h:FKinds w) (k:Kept w u):FKinds u:=fun i v hv=>k.cell (h i v hv)
theorem forgeFunc_is (e:List (Int × Int)) (v:Value) (L:Int) (w:World) (he:NodesAt w v e) (hw:∀ x∈e,(Lit.int .i64 x.1).wf=true) (hf:FKinds w) :
    Calls Tryd.prog 12 #[v,.int .i64 L] w (FgPost (fgS e L).1 (fgS e L).2 w) :=
  forgeFunc_any e v L w he hf (hide fun u hu=>exCheck_any e v L u (he.kept hu) hw)
theorem forgeProg_is (e:List (Int × Int)) (vals:List Int) (v vv:Value) (w:World) (he:NodesAt w v e) (hw:∀ x∈e,(Lit.int .i64 x.1).wf=true) (hv:IntsW w vv vals) (hf:FKinds w) :
    Calls Tryd.prog 13 #[v,vv] w (PgPost (pgS e vals).1 (pgS e vals).2 w) :=
  forgeProg_any e vals v vv w he hv (hide fun u hu=>forgeFunc_is e v _ u (he.kept hu) hw (hf.kept hu))
theorem pg_ok {e:List (Int × Int)} {vals:List Int} (h:(pgS e vals).2=0):ExG e vals.length∧valsOk vals∧exErrS e vals.length=0∧(pgS e vals).1=forgeP e vals:=by
  unfold pgS at h ⊢
  by_cases hz:exErrS e vals.length=0
  · rw [if_pos hz] at h ⊢
    by_cases ha:vals.all (fun v=>decide (0≤v∧v≤999))=true
    · rw [if_pos ha]
      exact ⟨ExG.of hz,by simpa [valsOk] using ha,hz,rfl⟩
    · rw [if_neg ha] at h; cases h
  · rw [if_neg hz] at h; exact absurd h hz
theorem forge_all {e:List (Int × Int)} {vals:List Int} (h:ExG e vals.length) (hv:valsOk vals):∃ k,k≤30∧allS (forgeP e vals) 500=([(valS vals 9 e).1],k,0):=by
  obtain ⟨k,hk,hr⟩:=forge_run h
  have h0:=(forge_right h hv).1
  refine ⟨k,hk,?_⟩
  unfold allS rnS
  rw [if_pos (show inB 500 0 500=true by decide),if_pos h0,if_pos (begin_right h0),if_pos (show inB 500 0 500=true by decide),show (500:Int).toNat=500 from rfl,hr]
theorem nodes_all:allS (forgeP nodesL [3]) 99=([9],12,0):=by decide +kernel
theorem forgeBegun_any (w:World) (hf:FKinds w) (hk:KindsAt w):Calls Tryd.prog 16 #[] w fun e w'=>e=.returned (.bool true)∧Kept w w':=by
  have hx:exErrS nodesL 1=0:=by decide +kernel
  have p3:pgS nodesL [3]=(forgeP nodesL [3],0):=by
    unfold pgS
    rw [if_pos (show exErrS nodesL ([(3:Int)].length:Nat)=0 from hx),if_pos (by decide)]
  have p1:pgS nodesL [-1]=([],3):=by
    unfold pgS
    rw [if_pos (show exErrS nodesL ([(-1:Int)].length:Nat)=0 from hx),if_neg (by decide)]
  have hfg:fgS nodesL 1=(fnS nodesL 1,0):=by unfold fgS; rw [if_pos hx]
  refine forgeBegun_w w (hide fun u=>nodes_any u) (hide fun u b hu hb=>?_) (hide fun u b d hu hb hd=>?_) (hide fun u v hu hv=>?_) (hide fun u b d hu hb hd=>?_) (hide fun u=>o_any 10 8 u) (hide fun u v1 d h1 hd=>?_)
  · have:=forgeFunc_is nodesL _ 1 u (NodesAt.of_nodes hb) nodesL_wf (hf.kept hu)
    rw [hfg] at this
    refine this.mono ?_
    rintro _ w' ⟨cv,rfl,⟨oa,cap,rfl,_,hi⟩,hk'⟩
    obtain ⟨bc,oc,rfl,_,h1,h2⟩:=hi 3 (10,8) (by decide +kernel)
    exact ⟨bc,oc,cap,rfl,h1,h2,hk'⟩
  · have:=forgeProg_is nodesL [3] _ _ u (NodesAt.of_nodes hb) nodesL_wf (intsW_block hd [3] rfl (by simp) 1 1 rfl) (hf.kept hu)
    rw [p3] at this
    refine this.mono ?_
    rintro _ w' ⟨v',rfl,hp,hk'⟩
    obtain ⟨oa,cap,rfl,_,_⟩:=id hp
    exact ⟨oa,cap,rfl,hp,hk'⟩
  · have:=runAll_gives _ v 99 u hv (hk.kept hu)
    rw [show forgeP [(7,0),(5,0),(1,0),(0,5),(4,0),(1,0),(1,0),(0,7)] [3]=forgeP nodesL [3] from rfl,nodes_all] at this
    exact this
  · have:=forgeProg_is nodesL [-1] _ _ u (NodesAt.of_nodes hb) nodesL_wf (intsW_block hd [-1] rfl (by simp) 1 1 rfl) (hf.kept hu)
    rw [p1] at this
    refine this.mono ?_
    rintro _ w' ⟨v',rfl,hp,hk'⟩
    exact ⟨v',rfl,hk'⟩
  · exact sameInts_is [9] u v1 _ h1 (intsW_block hd [9] rfl (by simp) 1 1 rfl)
end Go.Proofs.YtogcfkmekdpmmaaDoor
