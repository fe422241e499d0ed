/- ForgeHb, ForgeHc, ForgeHs, ForgeTellsW -/
import Derived.Test.YtogcfkmekdpmmaaDoorFHA
import Derived.Test.YtogcfkmekdpmmaaDoorForgeT
import Derived.Test.YtogcfkmekdpmmaaDoorFB18
import Derived.Deep.RegionWith
import Derived.Deep.DeepCutAuto
import Derived.Test.YtogcfkmekdpmmaaDoorForgeF
set_option maxRecDepth 100000
set_option maxHeartbeats 8000000
namespace Go.Proofs.YtogcfkmekdpmmaaDoor
open Go.RowKit Go.Maps

theorem forged_any (e:List (Int × Int)) (v:Value) (L:Int) (w:World) (he:NodesAt w v e) (hl:e.length≤9) (ho:onlyS e 1=true) (hk:∀ x∈e,kindOk x) :
    Calls Tryd.prog 36 #[v,.int .i64 L] w fun x w'=>∃ cv,x=.returned (.agg #[.int .i64 L,.int .i64 L,cv])∧FCode w.heap.size w' cv (fnS e L).code∧Kept w w':=by
  have HC:=hide (laid_any 9 e 1 0 v (w.alloc (.cells #[.int .i64 0,.int .i64 0,.slice none 0 0] 33)) hl (by omega) ho hk (by omega) (he.kept ((Kept.refl w).alloc _)))
  obtain ⟨_,_,_,x4,x5⟩:=lay_next 9 e 1 0 hl (by omega) ho hk
  have hfn:(fnS e L).code=(layS 9 e 0).1++[(12,0)]:=rfl
  rw [hfn]
  unfold LaidPost at HC
  generalize (layS 9 e 0).1=C at *
  generalize (layS 9 e 0).2=R at *
  have hCl:C.length≤20:=by omega
  clear he ho hk hfn x5 hl
  go_enter Tryd.func36,Tryd.ntmps36
  go_wp2_with fail
  refine (un HC).mono ?_
  rintro _ w1 ⟨cv,v',rfl,hc,-,hk1⟩
  obtain ⟨oa',cp,rfl⟩:∃ oa' cp,cv=.slice oa' C.length cp:=(fRow_slice hc).1
  have l1:=lays_kept hk1 (lays_new (b:=w.heap.size) (o:=.cells #[.int .i64 0,.int .i64 0,.slice none 0 0] 33) rfl)
  have hw0:(w.alloc (.cells #[.int .i64 0,.int .i64 0,.slice none 0 0] 33)).heap.size=w.heap.size + 1:=by simp
  have hkw:Kept w (w.alloc (.cells #[.int .i64 0,.int .i64 0,.slice none 0 0] 33)):=(Kept.refl w).alloc _
  generalize w.alloc (.cells #[.int .i64 0,.int .i64 0,.slice none 0 0] 33)=w0 at *
  obtain ⟨o2,c2,y2,hr,hown,hk2,hold⟩:=app_ops (hk1.alloc (.cells #[.int .i64 12,.int .i64 0] 61)) (hc.kept ((Kept.refl w1).alloc (.cells #[.int .i64 12,.int .i64 0] 61))) ⟨w1.heap.size,0,none⟩ 1 1 [(12,0)] rfl (fTwo_new _ _ _ _) (by simp; omega)
  have HR:=hide hr
  have HO:=hide hown
  have HK2:=hide hk2
  have HKW:=hide hkw
  have l2:y2.heap[w.heap.size]?=some (.cells #[.int .i64 0,.int .i64 0,.slice none 0 0] 33):=(hold _ _ (lays_alloc l1 _) (fun e=>by have:=(fRow_slice hc).2 _ e; omega)).1
  have e0:=cell_lays l2 0
  have e1:=cell_lays l2 1
  have e2:=cell_lays l2 2
  have z0:=frozen_lays l2 0
  have z1:=frozen_lays l2 1
  have z2:=frozen_lays l2 2
  simp only [List.getElem?_toArray,List.getElem?_cons_zero,List.getElem?_cons_succ] at e0 e1 e2
  have L2:=hide l2
  clear hr hown hk2 hkw l1 l2 hold HC hc hk1
  generalize hM:(C++[((12:Int),(0:Int))]).length=M at *
  have HM:=hide hM
  have HCL:=hide hCl
  generalize hlc:C.length=lc at HR ⊢
  clear hM x4 hlc
  go_wp2_with (at_builtin; refine un ?_)
  refine hide ?_
  refine wpList_appR _ rfl (.tmp 14) (.tmp 16) 31 rfl rfl rfl (un HR) ?_
  clear HR
  go_wp2_with fail
  have hl3:=lays_set (lays_set (lays_set (un L2) 0 (.int .i64 L)) 1 (.int .i64 L)) 2 (.slice o2 M c2)
  have k0:=cell_lays hl3 0
  have k1:=cell_lays hl3 1
  have k2:=cell_lays hl3 2
  simp only [Array.setIfInBounds,List.size_toArray,List.length_cons,List.length_nil] at k0 k1 k2
  refine bodyPost_ret (v:=.agg #[.int .i64 L,.int .i64 L,.slice o2 M c2]) (by simp [results,Tryd.results36,go_sem,k0,k1,k2]) rfl ?_
  have hsz:w.heap.size < w0.heap.size:=by omega
  have hcd:=(un HO).code (by have:=un HCL; simp; omega)
  exact ⟨_,rfl,(((hcd.set (p:=⟨w.heap.size,0,none⟩) hsz _).set (p:=⟨w.heap.size,1,none⟩) hsz _).set (p:=⟨w.heap.size,2,none⟩) hsz _).from (Nat.le_of_lt hsz),((((un HKW).trans (un HK2)).setCell (p:=⟨w.heap.size,0,none⟩) (Nat.le_refl _) _).setCell (p:=⟨w.heap.size,1,none⟩) (Nat.le_refl _) _).setCell (p:=⟨w.heap.size,2,none⟩) (Nat.le_refl _) _⟩

theorem refForgeFunc_bad (e:List (Int × Int)) (v:Value) (L:Int) (w:World) (HEX:Hid (∀ u,Kept w u→Calls Tryd.prog 35 #[v,.int .i64 L] u fun x u'=>x=.returned (.int .i64 (exErrS e L))∧u=u')) (hz:exErrS e L≠0) :
    Calls Tryd.prog 14 #[v,.int .i64 L] w (FgPost Fn.zero (exErrS e L) w):=by
  have hz':(exErrS e L != 0)=true:=by rw [bne_iff_ne]; exact hz
  have HC:=hide ((un HEX) _ ((Kept.refl w).alloc (.cells #[.int .i64 0,.int .i64 0,.slice none 0 0] 33)))
  generalize exErrS e L=r at *
  clear hz HEX
  go_enter Tryd.func14,Tryd.ntmps14
  go_wp2_with fail
  refine (un HC).mono ?_
  rintro _ _ ⟨rfl,rfl⟩
  have l1:=lays_new (w:=w) (b:=w.heap.size) (o:=.cells #[.int .i64 0,.int .i64 0,.slice none 0 0] 33) rfl
  have L1:=hide l1
  have H1:=hide ((Kept.refl w).alloc (.cells #[.int .i64 0,.int .i64 0,.slice none 0 0] 33))
  generalize w.alloc (.cells #[.int .i64 0,.int .i64 0,.slice none 0 0] 33)=w1 at *
  have e0:=cell_lays l1 0
  have e1:=cell_lays l1 1
  have e2:=cell_lays l1 2
  have z0:=frozen_lays l1 0
  have z1:=frozen_lays l1 1
  have z2:=frozen_lays l1 2
  simp only [List.getElem?_toArray,List.getElem?_cons_zero,List.getElem?_cons_succ] at e0 e1 e2
  clear HC l1
  go_wp2
  have hl3:=lays_set (lays_set (lays_set (un L1) 0 (.int .i64 0)) 1 (.int .i64 0)) 2 (.slice none 0 0)
  have k0:=cell_lays hl3 0
  have k1:=cell_lays hl3 1
  have k2:=cell_lays hl3 2
  simp only [Array.setIfInBounds,List.size_toArray,List.length_cons,List.length_nil] at k0 k1 k2
  refine bodyPost_ret (v:=.tuple #[.agg #[.int .i64 0,.int .i64 0,.slice none 0 0],.int .i64 r]) (by simp [results,Tryd.results14,go_sem,k0,k1,k2]) rfl ?_
  exact ⟨.slice none 0 0,rfl,FCode.nil _ _,(((un H1).setCell (p:=⟨w.heap.size,0,none⟩) (Nat.le_refl _) _).setCell (p:=⟨w.heap.size,1,none⟩) (Nat.le_refl _) _).setCell (p:=⟨w.heap.size,2,none⟩) (Nat.le_refl _) _⟩
theorem refForgeFunc_go (e:List (Int × Int)) (v:Value) (L:Int) (w:World) (he:NodesAt w v e) (HEX:Hid (∀ u,Kept w u→Calls Tryd.prog 35 #[v,.int .i64 L] u fun x u'=>x=.returned (.int .i64 (exErrS e L))∧u=u')) (hz:exErrS e L=0) :
    Calls Tryd.prog 14 #[v,.int .i64 L] w (FgPost (fnS e L) 0 w):=by
  have hg:=ExG.of hz
  have HC:=hide ((un HEX) _ ((Kept.refl w).alloc (.cells #[.int .i64 0,.int .i64 0,.slice none 0 0] 33)))
  have HF:=hide (forged_any e v L (w.alloc (.cells #[.int .i64 0,.int .i64 0,.slice none 0 0] 33)) (he.kept ((Kept.refl w).alloc _)) hg.len hg.one hg.kinds)
  rw [hz] at HC
  have hfn:fnS e L=⟨L,L,(fnS e L).code⟩:=rfl
  rw [hfn]
  generalize (fnS e L).code=C at *
  clear HEX hz hg he hfn
  go_enter Tryd.func14,Tryd.ntmps14
  go_wp2_with fail
  refine (un HC).mono ?_
  rintro _ _ ⟨rfl,rfl⟩
  clear HC
  go_wp2_with fail
  refine (un HF).mono ?_
  rintro _ w1 ⟨cv,rfl,hcv,hk1⟩
  obtain ⟨oa,cap,rfl,_,_⟩:=id hcv
  have l2:=lays_kept hk1 (lays_new (b:=w.heap.size) (o:=.cells #[.int .i64 0,.int .i64 0,.slice none 0 0] 33) rfl)
  have e0:=cell_lays l2 0
  have e1:=cell_lays l2 1
  have e2:=cell_lays l2 2
  have z0:=frozen_lays l2 0
  have z1:=frozen_lays l2 1
  have z2:=frozen_lays l2 2
  simp only [List.getElem?_toArray,List.getElem?_cons_zero,List.getElem?_cons_succ] at e0 e1 e2
  have L2:=hide l2
  have hsz:w.heap.size < (w.alloc (.cells #[.int .i64 0,.int .i64 0,.slice none 0 0] 33)).heap.size:=by simp
  have HK2:=hide (((Kept.refl w).alloc (.cells #[.int .i64 0,.int .i64 0,.slice none 0 0] 33)).trans hk1)
  have HCO:=hide hcv
  generalize w.alloc (.cells #[.int .i64 0,.int .i64 0,.slice none 0 0] 33)=w0 at *
  clear hcv hk1 l2 HF
  generalize hM:C.length=M at *
  clear hM
  go_wp2_with fail
  have hl3:=lays_set (lays_set (lays_set (un L2) 0 (.int .i64 L)) 1 (.int .i64 L)) 2 (.slice oa M cap)
  have k0:=cell_lays hl3 0
  have k1:=cell_lays hl3 1
  have k2:=cell_lays hl3 2
  simp only [Array.setIfInBounds,List.size_toArray,List.length_cons,List.length_nil] at k0 k1 k2
  refine bodyPost_ret (v:=.tuple #[.agg #[.int .i64 L,.int .i64 L,.slice oa M cap],.int .i64 0]) (by simp [results,Tryd.results14,go_sem,k0,k1,k2]) rfl ?_
  refine ⟨_,rfl,?_,(((un HK2).setCell (p:=⟨w.heap.size,0,none⟩) (Nat.le_refl _) _).setCell (p:=⟨w.heap.size,1,none⟩) (Nat.le_refl _) _).setCell (p:=⟨w.heap.size,2,none⟩) (Nat.le_refl _) _⟩
  exact (((((un HCO).set (p:=⟨w.heap.size,0,none⟩) hsz _).set (p:=⟨w.heap.size,1,none⟩) hsz _).set (p:=⟨w.heap.size,2,none⟩) hsz _)).from (Nat.le_of_lt hsz)
theorem refForgeFunc_any (e:List (Int × Int)) (v:Value) (L:Int) (w:World) (he:NodesAt w v e) (HEX:Hid (∀ u,Kept w u→Calls Tryd.prog 35 #[v,.int .i64 L] u fun x u'=>x=.returned (.int .i64 (exErrS e L))∧u=u')) :
    Calls Tryd.prog 14 #[v,.int .i64 L] w (FgPost (fgS e L).1 (fgS e L).2 w):=by
  unfold fgS
  by_cases hz:exErrS e L=0
  · rw [if_pos hz]; exact refForgeFunc_go e v L w he HEX hz
  · rw [if_neg hz]; exact refForgeFunc_bad e v L w HEX hz
end Go.Proofs.YtogcfkmekdpmmaaDoor
set_option maxRecDepth 100000
set_option maxHeartbeats 8000000
namespace Go.Proofs.YtogcfkmekdpmmaaDoor
open Go.RowKit Go.Maps

theorem refForgeProg_bad (e:List (Int × Int)) (oa ob:Option Addr) (m cap l cb:Nat) (w:World) (HEX:Hid (Calls Tryd.prog 35 #[.slice oa m cap,.int .i64 l] w fun x u'=>x=.returned (.int .i64 (exErrS e l))∧w=u')) (hz:exErrS e l≠0) :
    Calls Tryd.prog 15 #[.slice oa m cap,.slice ob l cb] w (PgPost [] (exErrS e l) w):=by
  have hz':(exErrS e l != 0)=true:=by rw [bne_iff_ne]; exact hz
  generalize exErrS e l=r at *
  clear hz
  go_enter Tryd.func15,Tryd.ntmps15
  go_wp2_with fail
  refine (un HEX).mono ?_
  rintro _ _ ⟨rfl,rfl⟩
  clear HEX
  go_wp2
  go_ret2
  exact ⟨_,rfl,⟨none,0,rfl,by simp,fun i f h=>by simp at h⟩,Kept.refl w⟩

def MnAt (w wr:World) (k:Nat) (c:List (Int × Int)):Prop :=
  ∃ oc cc,wr.heap[w.heap.size]?=some (.cells #[.int .i64 0,.int .i64 0,.slice oc k cc] 33)∧c.length=k∧OpsOwn w.heap.size wr (.slice oc k cc) c∧(Value.slice oc k cc).ownBlock≠some w.heap.size∧Kept w wr
theorem MnAt.new (w:World):MnAt w (w.alloc (.cells #[.int .i64 0,.int .i64 0,.slice none 0 0] 33)) 0 [] :=
  ⟨none,0,lays_new rfl,rfl,OpsOwn.start _ _,by simp [Value.ownBlock],(Kept.refl w).alloc _⟩
theorem MnAt.app {w wr:World} {k:Nat} {c:List (Int × Int)} {oc:Option Addr} {cc:Nat} (hB:wr.heap[w.heap.size]?=some (.cells #[.int .i64 0,.int .i64 0,.slice oc k cc] 33)) (hl:c.length=k) (ho:OpsOwn w.heap.size wr (.slice oc k cc) c) (hn:(Value.slice oc k cc).ownBlock≠some w.heap.size) (hk:Kept w wr)
    (cells:Array Value) (m:Nat) (d:List (Int × Int)) (hm:m=d.length) (hc:cells=(flatOps d).toArray) (hl2:k + m≤100) :
    ∃ o' c' y',(Builtin.append_ #[31,31] 31 #[.slice oc k cc,.slice (some ⟨wr.heap.size,0,none⟩) m m]).run Tryd.prog (wr.alloc (.cells cells 61))=.ok (.slice o' (k + m) c') y'∧Kept w y' ∧
      y'.heap[w.heap.size]?=some (.cells #[.int .i64 0,.int .i64 0,.slice oc k cc] 33)∧(∀ p v,wr.cell? p=some v→p.block < w.heap.size→y'.cell? p=some v)∧MnAt w (y'.setCell ⟨w.heap.size,2,none⟩ (.slice o' (k + m) c')) (k + m) (c++d):=by
  subst hl hm hc
  have hcell:∀ j u,(flatOps d)[j]?=some u→(wr.alloc (.cells (flatOps d).toArray 61)).cell? ((⟨wr.heap.size,0,none⟩:Addr).add j)=some u:=fun j u hj=>by
    rw [add_zero,cell_lays (lays_new rfl)]
    simpa using hj
  obtain ⟨o',c',y',hr,hown,hk',hold⟩:=app_ops (hk.alloc (.cells (flatOps d).toArray 61)) (ho.kept ((Kept.refl wr).alloc _)) ⟨wr.heap.size,0,none⟩ d.length d.length d rfl hcell (by omega)
  rw [List.length_append] at hr hown hold
  obtain ⟨hB',hn'⟩:=hold _ _ (lays_alloc hB _) hn
  refine ⟨o',c',y',hr,hk',hB',fun p v hp hlt=>(Below.cell hk' hlt).trans ((Below.cell hk hlt).symm.trans hp),o',c',lays_set hB' 2 _,by simp,?_,hn',hk'.setCell (p:=⟨w.heap.size,2,none⟩) (Nat.le_refl _) _⟩
  have:=ownsRow_setCell_other (a:=⟨w.heap.size,2,none⟩) hown hn' (.slice o' (c.length + d.length) c')
  exact this

theorem refForgeProg_go (e:List (Int × Int)) (vals:List Int) (oa ob:Option Addr) (m cap l cb:Nat) (w:World) (hv:IntsW w (.slice ob l cb) vals) (hvl:l=vals.length) (hl4:l≤4)
    (HEX:Hid (Calls Tryd.prog 35 #[.slice oa m cap,.int .i64 l] w fun x u'=>x=.returned (.int .i64 0)∧w=u'))
    (HFD:Hid (∀ u,Kept w u→Calls Tryd.prog 36 #[.slice oa m cap,.int .i64 l] u fun x u'=>∃ cv,x=.returned (.agg #[.int .i64 l,.int .i64 l,cv])∧FCode u.heap.size u' cv (fnS e l).code∧Kept u u'))
    (rp:List Fn) (rr:Int) (hrr:Hid ((valsOk vals→(rp,rr)=(forgeP e vals,0))∧(¬ valsOk vals→(rp,rr)=([],3)))) :
    Calls Tryd.prog 15 #[.slice oa m cap,.slice ob l cb] w (PgPost rp rr w):=by
  have HV:=hide hv
  have HVL:=hide hvl
  clear hv hvl
  have HWN:Hid (∀ (i:Int) (u:World),Calls Tryd.prog 26 #[.int .i64 i,.int .i64 0,.int .i64 999] u fun e w'=>e=.returned (.bool (decide (0≤i∧i≤999)))∧u=w'):=hide (fun i u=>by
    by_cases h:0≤i∧i≤999
    · rw [decide_eq_true h]; exact within_yes i 0 999 u h.1 h.2
    · rw [decide_eq_false h]; exact within_no i 0 999 u h)
  go_enter Tryd.func15,Tryd.ntmps15
  go_wp2_with fail
  refine (un HEX).mono ?_
  rintro _ _ ⟨rfl,rfl⟩
  clear HEX
  go_wp2_with fail
  have HM0:=hide (MnAt.new w)
  generalize w.alloc (.cells #[.int .i64 0,.int .i64 0,.slice none 0 0] 33)=wf at HM0 ⊢
  generalize hBB:w.heap.size=B
  have HBB:=hide hBB
  clear hBB
  go_loopw [8] (fun s8 wr=>∃ k:Nat,k≤l∧s8=.int .i64 k∧Hid (∀ j,j < k→0≤vals.getD j 0∧vals.getD j 0≤999)∧Hid (MnAt w wr k ((vals.take k).map (fun v=>((0:Int),v))))) (fun s8 _=>l - (intOf s8).toNat)
  case atStart=>exact ⟨0,Nat.zero_le _,rfl,hide (fun j hj=>by omega),HM0⟩
  case round =>
    obtain ⟨k,hkm,rfl,HO,HSr⟩:=hrel
    by_cases hlt:k < l
    · have hx:=getD_of_lt vals k 0 (by rw [← un HVL]; exact hlt)
      obtain ⟨oc,cc,hBk,hlen,hops,hne,hkr⟩:=un HSr
      obtain ⟨bv,ov,c5,ev,cz0⟩:=(un HV).at (i:=k) (by rw [← un HVL]; exact hlt)
      obtain ⟨rfl,rfl⟩:ob=some ⟨bv,ov,none⟩∧cb=c5:=by
        simp only [Value.slice.injEq] at ev
        exact ⟨ev.1,ev.2.2⟩
      have cz:=hkr.cell cz0
      have hbv:=cell_lt cz0
      have hk0:(0:Int)≤(k:Int):=by omega
      have hk1:(k:Int) < (l:Int):=by omega
      have HX:=hide hx
      generalize hz:vals.getD k 0=z at cz0 cz HX
      have HZ:=hide hz
      clear cz0 ev hx hz
      by_cases hin:0≤z∧z≤999
      · have HW:=hide ((un HWN) z wr)
        rw [decide_eq_true hin] at HW
        obtain ⟨o2,c2,y2,hr,hk2,hB2,hc2,hmn⟩:=MnAt.app (wr:=wr.drew) hBk hlen (hops.kept ((Kept.refl wr).drew)) hne hkr.drew #[.int .i64 0,.int .i64 z] 1 [(0,z)] rfl rfl (by omega)
        have HR:=hide hr
        have HMN:=hide hmn
        rw [un HBB] at hBk hB2
        have HH:Hid (∀ u,Kept wr u→u.cell? ⟨B,2,none⟩=some (.slice oc k cc)∧u.cell? ⟨bv,ov + k,none⟩=some (.int .i64 z)):=hide (fun u hu=>⟨cell_lays (lays_kept hu hBk) 2,hu.cell cz⟩)
        have HO2:Hid (∀ j,j < k + 1→0≤vals.getD j 0∧vals.getD j 0≤999):=hide (fun j hj=>by
          by_cases hj':j=k
          · rw [hj',un HZ]; exact hin
          · exact (un HO) j (by omega))
        have m2:=cell_lays hB2 2
        have f2:=frozen_lays hB2 2
        have HCZ:=hide (hc2 ⟨bv,ov + k,none⟩ _ cz hbv)
        clear hr hmn HSr HO hBk hB2 hops hne hkr hlen hin hk2 hc2
        go_wp2_with fail
        refine (un HW).mono ?_
        rintro _ _ ⟨rfl,rfl⟩
        clear HW
        go_wp2_with fail
        refine wp_regionP 10 [0,1,2,3,4,5,6] (fun u=>u.cell? ⟨B,2,none⟩=some (.slice oc k cc)∧u.cell? ⟨bv,ov + k,none⟩=some (.int .i64 z)) (by kernel_rfl) ?_
        have hHeld:=(un HH) _ (Kept.refl wr)
        repeat
          refine takeP (v:=?_) hHeld (fun u hSu=>?_) ?_
          rotate_left
          · ((try dsimp only at hSu); go_simp) <;> with_reducible rfl
          try simp only [PS]
        refine takeP_end ?_
        refine takeT_one (i:=7) rfl (by kernel_rfl) (fun K hK=>?_)
        go_simp
        refine hK.out _ _ (fun _=>(un HH) _ (((Kept.refl wr).drew).alloc _)) ?_
        clear hK K
        try simp only [PS]
        refine takeT_one (i:=8) rfl (by kernel_rfl) (fun K hK=>?_)
        refine step_appR _ rfl (.tmp 29) (.tmp 35) 31 rfl rfl rfl (un HR) ?_
        simp only [PS]
        refine hK.out _ _ (fun _=>⟨m2,un HCZ⟩) ?_
        clear hK K HR
        refine takeT_one (i:=9) rfl (by kernel_rfl) (fun K hK=>?_)
        go_simp
        refine hK.out _ _ (fun _=>⟨m2,un HCZ⟩) ?_
        clear hK K
        try simp only [PS]
        refine takeT_one (i:=10) rfl (by kernel_rfl) (fun K hK=>?_)
        go_simp
        refine hK.out _ _ (fun h=>absurd rfl h) ?_
        clear hK K
        refine takeT_done (by kernel_rfl) ?_ _
        have HMN2:Hid (MnAt w (y2.setCell ⟨B,2,none⟩ (.slice o2 (k + 1) c2)) (k + 1) ((vals.take (k + 1)).map (fun v=>((0:Int),v)))):=hide (by
          have:=un HMN
          rw [un HBB] at this
          rw [List.take_add_one,un HX,List.map_append]
          exact this)
        clear m2 f2 HMN HCZ HH hHeld
        go_wp2_with fail
        go_roundw
        case rel=>exact ⟨k + 1,by omega,by go_num,HO2,HMN2⟩
        case measure=>simp [intOf]; omega
      · obtain ⟨rfl,rfl⟩:rp=[]∧rr=3:=by
          have:=(un hrr).2 (fun h=>hin (h z (List.mem_of_getElem? (un HX))))
          simpa using this
        have HW:=hide ((un HWN) z wr)
        rw [decide_eq_false hin] at HW
        have HK9:=hide hkr
        clear hBk hlen hops hne hkr HSr HO hin
        go_wp2_with fail
        refine (un HW).mono ?_
        rintro _ _ ⟨rfl,rfl⟩
        go_wp2_with fail
        go_ret2
        exact ⟨_,rfl,⟨none,0,rfl,by simp,fun i f h=>by simp at h⟩,un HK9⟩
    · have hke:k=l:=by omega
      have hok:valsOk vals:=fun v hv=>by
        obtain ⟨i,hi⟩:=List.mem_iff_getElem?.1 hv
        have hil:=(List.getElem?_eq_some_iff.1 hi).1
        have:=(un HO) i (by have:=un HVL; omega)
        rwa [List.getD_eq_getElem?_getD,hi] at this
      obtain ⟨rfl,rfl⟩:rp=forgeP e vals∧rr=0:=by simpa using (un hrr).1 hok
      have hall:(vals.take k).map (fun v=>((0:Int),v))=vals.map (fun v=>((0:Int),v)):=by rw [hke,un HVL,List.take_length]
      obtain ⟨oc,cc,hBk,hlen,hops,hne,hkr⟩:=un HSr
      rw [hall] at hlen hops
      obtain ⟨o2,c2,y2,hr,hk2,hB2,-,hmn⟩:=MnAt.app hBk hlen hops hne hkr #[.int .i64 11,.int .i64 1,.int .i64 12,.int .i64 0] 2 [(11,1),(12,0)] rfl rfl (by omega)
      have hG:(mainS vals).code=vals.map (fun v=>((0:Int),v))++[(11,1),(12,0)]:=rfl
      rw [← hG] at hmn
      have HR:=hide hr
      obtain ⟨o3,c3,hB3,hlen3,hops3,-,hk3⟩:=hmn
      have hcd:=hops3.code (by rw [hlen3]; omega)
      rw [un HBB] at hBk hB2 hB3 hops3 hk3 hcd
      have x2:=cell_lays hBk 2
      have m2:=cell_lays hB2 2
      have f2:=frozen_lays hB2 2
      have HB3:=hide hB3
      have HCD:=hide hcd
      have HK3:=hide hk3
      have HQ:=hide hlen3
      have hlt2:B < y2.heap.size:=(Array.getElem?_eq_some_iff.1 hB2).1
      clear hr hok hall HSr HO hBk hlen hops hne hkr hk2 hB2 hG hB3 hcd hk3 hlen3 hops3 hlt
      subst hke
      go_wp2_with (at_builtin; refine un ?_)
      refine hide ?_
      refine wpList_appR _ rfl (.tmp 39) (.tmp 42) 31 rfl rfl rfl (un HR) ?_
      clear HR
      go_wp2_with fail
      generalize y2.setCell ⟨B,2,none⟩ (.slice o2 (k + 2) c2)=wm at HB3 HCD HK3 ⊢
      clear x2 m2 f2 hlt2
      have x0:=cell_lays (un HB3) 0
      have x1:=cell_lays (un HB3) 1
      have x2:=cell_lays (un HB3) 2
      simp only [List.getElem?_toArray,List.getElem?_cons_zero,List.getElem?_cons_succ] at x0 x1 x2
      refine wp_region_held_drew (S:=fun y=>Kept wm y) (by kernel_rfl) ((Kept.refl wm).drew) (fun hHeld=>?_)
      refine planY [0,1,2,3] ?_
      repeat
        refine takeY (v:=?_) hHeld (fun u hSu=>?_) ?_
        rotate_left
        · (have y0:=Kept.cell hSu x0; have y1:=Kept.cell hSu x1; have y2:=Kept.cell hSu x2; (try dsimp only at y0 y1 y2); go_simp) <;> with_reducible rfl
        try simp only [PS]
      refine endY ?_
      refine take_oneF (i:=4) rfl (by kernel_rfl) (fun K hK=>?_)
      go_simp
      refine ((un HFD) _ ((un HK3).drew)).mono ?_
      rintro _ w5 ⟨cv,rfl,hcv,hk5⟩
      obtain ⟨o6,c6,rfl,_,_⟩:=id hcv
      have hk6:Kept wm w5:=((Kept.refl wm).drew).trans hk5
      refine hK.out _ _ hk6 (fun hHeld=>?_)
      have HC5:=hide hcv
      have HK5:=hide hk6
      generalize hF:(fnS e k).code.length=M at *
      have HFL:=hide hF
      clear hcv hk5 hk6 hF hK K x0 x1 x2
      try simp only [PS]
      refine take_oneF (i:=5) rfl (by kernel_rfl) (fun K hK=>?_)
      go_simp
      refine hK.out _ _ (Kept.alloc hHeld _) (fun hHeld=>?_)
      clear hK K
      try simp only [PS]
      refine planY [6,7] ?_
      repeat
        refine takeY (v:=?_) hHeld (fun u hSu=>?_) ?_
        rotate_left
        · go_simp <;> with_reducible rfl
        try simp only [PS]
      refine endY ?_
      refine wpAnyH_done (by kernel_rfl) ?_ _
      clear hHeld
      go_wp2_with fail
      go_ret2
      refine ⟨_,rfl,?_,((un HK3).trans (un HK5)).alloc _⟩
      have hl6:(w5.alloc (.cells #[.int .i64 0,.int .i64 0,.slice o3 (k + 2) c3,.int .i64 k,.int .i64 k,.slice o6 M c6] 33)).heap[w5.heap.size]?=some (.cells #[.int .i64 0,.int .i64 0,.slice o3 (k + 2) c3,.int .i64 k,.int .i64 k,.slice o6 M c6] 33):=lays_new rfl
      have hk7:=(Kept.refl w5).alloc (.cells #[.int .i64 0,.int .i64 0,.slice o3 (k + 2) c3,.int .i64 k,.int .i64 k,.slice o6 M c6] 33)
      refine ⟨some ⟨w5.heap.size,0,none⟩,2,rfl,by simp [forgeP],fun i f h=>?_⟩
      match i,h with
      | 0,h =>
        obtain rfl:mainS vals=f:=by simpa [forgeP] using h
        exact ⟨_,_,.slice o3 (k + 2) c3,rfl,cell_lays hl6 0,cell_lays hl6 1,cell_lays hl6 2,(((un HCD).kept (un HK5)).kept hk7).code⟩
      | 1,h =>
        obtain rfl:fnS e k=f:=by
          have h2:fnS e vals.length=f:=by simpa [forgeP] using h
          rw [← h2,← un HVL]
        exact ⟨_,_,.slice o6 M c6,rfl,cell_lays hl6 3,cell_lays hl6 4,cell_lays hl6 5,((un HC5).kept hk7).code⟩
      | i + 2,h=>simp [forgeP] at h
theorem refForgeProg_any (e:List (Int × Int)) (vals:List Int) (v vv:Value) (w:World) (he:NodesAt w v e) (hv:IntsW w vv vals) :
    Calls Tryd.prog 15 #[v,vv] w (PgPost (pgS e vals).1 (pgS e vals).2 w):=by
  obtain ⟨oa,cap,rfl,_,_⟩:=id he
  obtain ⟨ob,cb,rfl,_,_⟩:=id hv
  have HEX:=hide (exprError_any e _ vals.length w he)
  unfold pgS
  by_cases hz:exErrS e vals.length=0
  · rw [if_pos hz]
    rw [hz] at HEX
    have hg:=ExG.of hz
    have h4:=hg.hi
    have hiff:vals.all (fun v=>decide (0≤v∧v≤999))=true↔valsOk vals:=by simp [valsOk]
    refine refForgeProg_go e vals oa ob _ cap _ cb w hv rfl (by omega) HEX (hide fun u hu=>forged_any e _ _ u (he.kept hu) hg.len hg.one hg.kinds) _ _ (hide ⟨fun h=>?_,fun h=>?_⟩)
    · rw [if_pos (hiff.2 h)]
    · rw [if_neg (fun c=>h (hiff.1 c))]
  · rw [if_neg hz]
    exact refForgeProg_bad e oa ob _ cap _ cb w HEX hz
theorem refForgeFunc_is (e:List (Int × Int)) (v:Value) (L:Int) (w:World) (he:NodesAt w v e) :
    Calls Tryd.prog 14 #[v,.int .i64 L] w (FgPost (fgS e L).1 (fgS e L).2 w):=refForgeFunc_any e v L w he (hide fun u hu=>exprError_any e v L u (he.kept hu))
end Go.Proofs.YtogcfkmekdpmmaaDoor
set_option maxRecDepth 100000
set_option maxHeartbeats 8000000
namespace Go.Proofs.YtogcfkmekdpmmaaDoor
open Go.RowKit

theorem sameFuncsF (ar lo:Int) (c:List (Int × Int)) (cv1 cv2:Value) (w:World) (h1:CodeAt w cv1 c) (h2:CodeAt w cv2 c) :
    Calls Tryd.prog 17 #[.agg #[.int .i64 ar,.int .i64 lo,cv1],.agg #[.int .i64 ar,.int .i64 lo,cv2]] w fun e w'=>e=.returned (.bool true)∧Kept w w':=by
  obtain ⟨oa1,cap1,rfl,hl8,i1⟩:=h1
  obtain ⟨oa2,cap2,rfl,_,i2⟩:=h2
  have hn1:(ar != ar)=false:=by simp
  have hn2:(lo != lo)=false:=by simp
  have hn3:((c.length:Int) != (c.length:Int))=false:=by simp
  generalize hm:c.length=m at *
  have HI1:=hide i1
  have HI2:=hide i2
  have HM:=hide hm
  clear i1 i2 hm
  go_enter Tryd.func17,Tryd.ntmps17
  go_wp2
  have L0:Hid (((w.alloc (.cells #[.int .i64 ar,.int .i64 lo,.slice oa1 m cap1] 33)).alloc (.cells #[.int .i64 ar,.int .i64 lo,.slice oa2 m cap2] 33)).heap[w.heap.size]?=_):=hide (lays_alloc (lays_new rfl) _)
  have L1:Hid (((w.alloc (.cells #[.int .i64 ar,.int .i64 lo,.slice oa1 m cap1] 33)).alloc (.cells #[.int .i64 ar,.int .i64 lo,.slice oa2 m cap2] 33)).heap[w.heap.size + 1]?=_):=hide (lays_new (by simp))
  generalize hW:(w.alloc (.cells #[.int .i64 ar,.int .i64 lo,.slice oa1 m cap1] 33)).alloc (.cells #[.int .i64 ar,.int .i64 lo,.slice oa2 m cap2] 33)=W at *
  have HKW:Hid (Kept w W):=by rw [← hW]; exact ((Kept.refl w).alloc _).alloc _
  clear hW
  go_loopw [5] (fun s wr=>∃ k:Nat,k≤m∧s=.int .i64 k∧Hid (Kept W wr)) (fun s _=>m - (intOf s).toNat)
  case atStart=>exact ⟨0,Nat.zero_le _,rfl,Kept.refl _⟩
  case round =>
    obtain ⟨k,hkm,rfl,HKr⟩:=hrel
    have b0:=cell_lays (lays_kept (un HKr) (un L0)) 2
    have b1:=cell_lays (lays_kept (un HKr) (un L1)) 2
    simp only [List.getElem?_toArray,List.getElem?_cons_zero,List.getElem?_cons_succ] at b0 b1
    by_cases hlt:k < m
    · obtain ⟨⟨kd,a⟩,hx⟩:∃ x,c[k]?=some x:=⟨_,List.getElem?_eq_getElem (by rw [un HM]; exact hlt)⟩
      obtain ⟨p1,o1,rfl,x0,x1⟩:=(un HI1) k _ hx
      obtain ⟨p2,o2,rfl,y0,y1⟩:=(un HI2) k _ hx
      have hk:=(un HKW).trans (un HKr)
      have x0':=hk.cell x0
      have x1':=hk.cell x1
      have y0':=hk.cell y0
      have y1':=hk.cell y1
      simp only at x0' x1' y0' y1'
      clear hk x0 x1 y0 y1 hx
      go_wp2
      go_quiet (fail)
      go_wp2
      go_roundw
      case rel=>exact ⟨k + 1,by omega,by go_num,(un HKr).drewN _⟩
      case measure=>simp [intOf]; omega
    · go_wp2
      go_ret
      exact ⟨rfl,(un HKW).trans (un HKr)⟩
theorem sameProgsF (p:List Fn) (v1 v2:Value) (w:World) (h1:ProgAt w v1 p) (h2:ProgAt w v2 p) :
    Calls Tryd.prog 18 #[v1,v2] w fun e w'=>e=.returned (.bool true)∧Kept w w':=by
  obtain ⟨oa1,cap1,rfl,hl8,i1⟩:=h1
  obtain ⟨oa2,cap2,rfl,_,i2⟩:=h2
  have hn3:((p.length:Int) != (p.length:Int))=false:=by simp
  generalize hm:p.length=m at *
  have HI1:=hide i1
  have HI2:=hide i2
  have HM:=hide hm
  clear i1 i2 hm
  go_enter Tryd.func18,Tryd.ntmps18
  go_wp2
  go_loopw [5] (fun s wr=>∃ k:Nat,k≤m∧s=.int .i64 k∧Hid (Kept w wr)) (fun s _=>m - (intOf s).toNat)
  case atStart=>exact ⟨0,Nat.zero_le _,rfl,Kept.refl _⟩
  case round =>
    obtain ⟨k,hkm,rfl,HKr⟩:=hrel
    by_cases hlt:k < m
    · obtain ⟨f,hx⟩:∃ f,p[k]?=some f:=⟨_,List.getElem?_eq_getElem (by rw [un HM]; exact hlt)⟩
      obtain ⟨p1,o1,cv1,rfl,x0,x1,x2,hc1⟩:=(un HI1) k _ hx
      obtain ⟨p2,o2,cv2,rfl,y0,y1,y2,hc2⟩:=(un HI2) k _ hx
      have hk:=un HKr
      have x0':=hk.cell x0
      have x1':=hk.cell x1
      have x2':=hk.cell x2
      have y0':=hk.cell y0
      have y1':=hk.cell y1
      have y2':=hk.cell y2
      obtain ⟨oc1,cc1,rfl,_,_⟩:=id hc1
      obtain ⟨oc2,cc2,rfl,_,_⟩:=id hc2
      have HSF:Hid (∀ u,Kept wr u→Calls Tryd.prog 17 #[.agg #[.int .i64 f.args,.int .i64 f.locals,.slice oc1 f.code.length cc1],.agg #[.int .i64 f.args,.int .i64 f.locals,.slice oc2 f.code.length cc2]] u fun e w'=>e=.returned (.bool true)∧Kept u w') :=
        hide (fun u hu=>sameFuncsF f.args f.locals f.code _ _ u (hc1.kept (hk.trans hu)) (hc2.kept (hk.trans hu)))
      clear hk x0 x1 x2 y0 y1 y2 hx hc1 hc2
      go_wp2_with fail
      go_cut [26] from 11 to 26 (fun s26 wx=>s26=.bool false∧Hid (Kept wr wx))
      case first =>
        go_region_with (go_at_call 17; refine ((un HSF) _ ?_).mono ?_; (repeat (first | exact Kept.refl _ | refine Kept.drew ?_ | refine Kept.alloc ?_ _)); rintro e w' ⟨rfl,hkk⟩)
        all_goals go_wp2_with fail
        all_goals go_meet
        all_goals exact ⟨rfl,hide (by first | exact hkk | exact (Kept.refl wr).drew.trans hkk)⟩
      case rest =>
        obtain ⟨rfl,HKx⟩:=hcut
        go_wp2
        go_roundw
        case rel=>exact ⟨k + 1,by omega,by go_num,(un HKr).trans (un HKx)⟩
        case measure=>simp [intOf]; omega
    · go_wp2
      go_ret
      exact ⟨rfl,un HKr⟩
end Go.Proofs.YtogcfkmekdpmmaaDoor
set_option maxRecDepth 100000
set_option maxHeartbeats 8000000
namespace Go.Proofs.YtogcfkmekdpmmaaDoor
open Go.RowKit Go.Maps

theorem forgeTells_w (ve vv:Value) (L:Int) (w:World) (g:Fn) (er pe:Int) (p:List Fn)
    (HF:Hid (∀ u,Kept w u→Calls Tryd.prog 12 #[ve,.int .i64 L] u (FgPost g er u)))
    (HP:Hid (∀ u,Kept w u→Calls Tryd.prog 13 #[ve,vv] u (PgPost p pe u)))
    (HRF:Hid (∀ u,Kept w u→Calls Tryd.prog 14 #[ve,.int .i64 L] u (FgPost g er u)))
    (HRP:Hid (∀ u,Kept w u→Calls Tryd.prog 15 #[ve,vv] u (PgPost p pe u)))
    (HB:Hid (∀ u,Kept w u→Calls Tryd.prog 16 #[] u fun e w'=>e=.returned (.bool true)∧Kept u w'))
    (HSF:Hid (∀ u c1 c2,CodeAt u c1 g.code→CodeAt u c2 g.code→Calls Tryd.prog 17 #[.agg #[.int .i64 g.args,.int .i64 g.locals,c1],.agg #[.int .i64 g.args,.int .i64 g.locals,c2]] u fun e w'=>e=.returned (.bool true)∧Kept u w'))
    (HSP:Hid (∀ u v1 v2,ProgAt u v1 p→ProgAt u v2 p→Calls Tryd.prog 18 #[v1,v2] u fun e w'=>e=.returned (.bool true)∧Kept u w')) :
    Calls Tryd.prog 4 #[ve,.int .i64 L,vv] w fun e w'=>e=.returned (.bool true)∧Kept w w':=by
  have be:(er == er)=true:=by simp
  have bp:(pe == pe)=true:=by simp
  go_enter Tryd.func4,Tryd.ntmps4
  go_wp2_with fail
  refine ((un HF) _ (Kept.refl w)).mono ?_
  rintro _ w1 ⟨cv,rfl,hcv,hk1⟩
  obtain ⟨o1,c1,rfl,_,_⟩:=id hcv
  generalize hG:g.code.length=G at *
  have HG:=hide hG
  clear hG
  have HK:=hide (hk1.alloc (.cells #[.int .i64 g.args,.int .i64 g.locals,.slice o1 G c1] 33))
  have HC1:=hide (hcv.kept ((Kept.refl w1).alloc (.cells #[.int .i64 g.args,.int .i64 g.locals,.slice o1 G c1] 33))).code
  have L1:Hid ((w1.alloc (.cells #[.int .i64 g.args,.int .i64 g.locals,.slice o1 G c1] 33)).heap[w1.heap.size]?=some (.cells #[.int .i64 g.args,.int .i64 g.locals,.slice o1 G c1] 33)):=hide (lays_new rfl)
  clear hcv hk1
  go_wp2_with fail
  generalize w1.alloc (.cells #[.int .i64 g.args,.int .i64 g.locals,.slice o1 G c1] 33)=w2 at HK HC1 L1 ⊢
  generalize w1.heap.size=X at L1 ⊢
  refine ((un HP) _ (un HK)).mono ?_
  rintro _ w3 ⟨v3,rfl,hp3,hk3⟩
  have HP3:=hide hp3
  replace L1:=hide (lays_kept hk3 (un L1))
  replace HC1:=hide ((un HC1).kept hk3)
  replace HK:=hide ((un HK).trans hk3)
  clear hp3 hk3
  go_wp2_with fail
  refine ((un HRF) _ (un HK)).mono ?_
  rintro _ w4 ⟨cv,rfl,hcv,hk4⟩
  obtain ⟨o2,c2,rfl,_,_⟩:=id hcv
  rw [un HG] at hcv ⊢
  have hk5:=hk4.alloc (.cells #[.int .i64 g.args,.int .i64 g.locals,.slice o2 G c2] 33)
  have HC2:=hide (hcv.kept ((Kept.refl w4).alloc (.cells #[.int .i64 g.args,.int .i64 g.locals,.slice o2 G c2] 33))).code
  have L2:Hid ((w4.alloc (.cells #[.int .i64 g.args,.int .i64 g.locals,.slice o2 G c2] 33)).heap[w4.heap.size]?=some (.cells #[.int .i64 g.args,.int .i64 g.locals,.slice o2 G c2] 33)):=hide (lays_new rfl)
  replace L1:=hide (lays_kept hk5 (un L1))
  replace HC1:=hide ((un HC1).kept hk5)
  replace HP3:=hide ((un HP3).kept hk5)
  replace HK:=hide ((un HK).trans hk5)
  clear hcv hk4 hk5
  go_wp2_with fail
  generalize w4.alloc (.cells #[.int .i64 g.args,.int .i64 g.locals,.slice o2 G c2] 33)=w5 at HK HC1 L1 HP3 HC2 L2 ⊢
  generalize w4.heap.size=Y at L2 ⊢
  refine ((un HRP) _ (un HK)).mono ?_
  rintro _ w6 ⟨v6,rfl,hp6,hk6⟩
  have HP6:=hide hp6
  replace L1:=hide (lays_kept hk6 (un L1))
  replace L2:=hide (lays_kept hk6 (un L2))
  replace HC1:=hide ((un HC1).kept hk6)
  replace HC2:=hide ((un HC2).kept hk6)
  replace HP3:=hide ((un HP3).kept hk6)
  replace HK:=hide ((un HK).trans hk6)
  clear hp6 hk6
  go_wp2_with fail
  refine ((un HB) _ (un HK)).mono ?_
  rintro _ w7 ⟨rfl,hk7⟩
  replace L1:=hide (lays_kept hk7 (un L1))
  replace L2:=hide (lays_kept hk7 (un L2))
  replace HC1:=hide ((un HC1).kept hk7)
  replace HC2:=hide ((un HC2).kept hk7)
  replace HP3:=hide ((un HP3).kept hk7)
  replace HP6:=hide ((un HP6).kept hk7)
  replace HK:=hide ((un HK).trans hk7)
  clear hk7
  have x0:=cell_lays (un L1) 0
  have x1:=cell_lays (un L1) 1
  have x2:=cell_lays (un L1) 2
  have y0:=cell_lays (un L2) 0
  have y1:=cell_lays (un L2) 1
  have y2:=cell_lays (un L2) 2
  simp only [List.getElem?_toArray,List.getElem?_cons_zero,List.getElem?_cons_succ] at x0 x1 x2 y0 y1 y2
  go_wp2_with fail
  refine ((un HSF) _ _ _ (un HC1) (un HC2)).mono ?_
  rintro _ w8 ⟨rfl,hk8⟩
  replace HP3:=hide ((un HP3).kept hk8)
  replace HP6:=hide ((un HP6).kept hk8)
  replace HK:=hide ((un HK).trans hk8)
  clear hk8 x0 x1 x2 y0 y1 y2
  go_wp2_with fail
  refine ((un HSP) _ _ _ (un HP3) (un HP6)).mono ?_
  rintro _ w9 ⟨rfl,hk9⟩
  replace HK:=hide ((un HK).trans hk9)
  clear hk9
  go_wp2_with fail
  go_ret
  exact ⟨rfl,un HK⟩
end Go.Proofs.YtogcfkmekdpmmaaDoor
