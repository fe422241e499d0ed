/-
  forge.Prog, of forge.Func's contract.
-/
import Derived.Test.YtogcfkmekdpmmaaDoorForgeD
import Derived.Test.YtogcfkmekdpmmaaDoorForgeT
set_option maxRecDepth 100000
set_option maxHeartbeats 8000000
namespace Go.Proofs.YtogcfkmekdpmmaaDoor
open Go.RowKit Go.Maps

def valsOk (vals:List Int):Prop:=∀ v∈vals,0≤v∧v≤999
def PgPost (p:List Fn) (er:Int) (w:World) (e:Ending) (w':World):Prop :=
  ∃ v',e=.returned (.tuple #[v',.int .i64 er])∧ProgAt w' v' p∧Kept w w'
theorem forgeProg_bad (e:List (Int × Int)) (oa ob:Option Addr) (m cap l cb:Nat) (w:World) (HFU:Hid (∀ u,Kept w u→Calls Tryd.prog 12 #[.slice oa m cap,.int .i64 l] u (FgPost (fgS e l).1 (fgS e l).2 u))) (hz:exErrS e l≠0) :
    Calls Tryd.prog 13 #[.slice oa m cap,.slice ob l cb] w (PgPost [] (exErrS e l) w):=by
  have hz':(exErrS e l != 0)=true:=by rw [bne_iff_ne]; exact hz
  have hfg:fgS e l=(Fn.zero,exErrS e l):=by unfold fgS; rw [if_neg hz]
  have HC:Hid (∀ u,Kept w u→Calls Tryd.prog 12 #[.slice oa m cap,.int .i64 l] u (FgPost Fn.zero (exErrS e l) u)):=hide (fun u hu=>by have:=(un HFU) u hu; rw [hfg] at this; exact this)
  generalize exErrS e l=r at *
  clear hz HFU hfg
  go_enter Tryd.func13,Tryd.ntmps13
  go_wp2_with fail
  refine ((un HC) w (Kept.refl w)).mono ?_
  rintro _ w1 ⟨cv,rfl,hcv,hk1⟩
  obtain ⟨o6,c6,rfl,_,_⟩:=id hcv
  have HK:=hide (hk1.alloc (.cells #[.int .i64 Fn.zero.args,.int .i64 Fn.zero.locals,.slice o6 Fn.zero.code.length c6] 33))
  clear hcv hk1
  go_wp2_with fail
  go_ret2
  exact ⟨_,rfl,⟨none,0,rfl,by simp,fun i f h=>by simp at h⟩,un HK⟩
theorem forgeProg_go (e:List (Int × Int)) (vals:List Int) (oa ob:Option Addr) (m cap l cb:Nat) (w:World) (hv:IntsW w (.slice ob l cb) vals) (hvl:l=vals.length) (hl4:l≤4) (HFU:Hid (∀ u,Kept w u→Calls Tryd.prog 12 #[.slice oa m cap,.int .i64 l] u (FgPost (fgS e l).1 (fgS e l).2 u))) (hz:exErrS e l=0) (rp:List Fn) (rr:Int) (hrr:Hid ((valsOk vals→(rp,rr)=(forgeP e vals,0))∧(¬ valsOk vals→(rp,rr)=([],3)))) :
    Calls Tryd.prog 13 #[.slice oa m cap,.slice ob l cb] w (PgPost rp rr w):=by
  have hfg:fgS e l=(fnS e l,0):=by unfold fgS; rw [if_pos hz]
  have HC:Hid (∀ u,Kept w u→Calls Tryd.prog 12 #[.slice oa m cap,.int .i64 l] u (FgPost (fnS e l) 0 u)):=hide (fun u hu=>by have:=(un HFU) u hu; rw [hfg] at this; exact this)
  have HV:=hide hv
  have HVL:=hide hvl
  clear hz HFU hfg hv hvl
  go_enter Tryd.func13,Tryd.ntmps13
  go_wp2_with fail
  refine ((un HC) w (Kept.refl w)).mono ?_
  rintro _ w1 ⟨cv,rfl,hcv,hk1⟩
  obtain ⟨o6,c6,rfl,_,_⟩:=id hcv
  have hfl:(fnS e l).code.length≤8796093022208:=by assumption
  generalize hF:fnS e l=F at *
  have hNF:(w1.alloc (.cells #[.int .i64 F.args,.int .i64 F.locals,.slice o6 F.code.length c6] 33)).heap.size=w1.heap.size + 1:=by simp
  have hks:Kept w (w1.alloc (.cells #[.int .i64 F.args,.int .i64 F.locals,.slice o6 F.code.length c6] 33)):=hk1.alloc _
  have hcs:=hcv.kept ((Kept.refl w1).alloc (.cells #[.int .i64 F.args,.int .i64 F.locals,.slice o6 F.code.length c6] 33))
  have hlf:(w1.alloc (.cells #[.int .i64 F.args,.int .i64 F.locals,.slice o6 F.code.length c6] 33)).heap[w1.heap.size]?=some (.cells #[.int .i64 F.args,.int .i64 F.locals,.slice o6 F.code.length c6] 33):=lays_new rfl
  have HF:=hide hF
  clear hcv hk1 hF HC hfl
  generalize hM:F.code.length=M at *
  have HM:=hide hM
  clear hM
  go_wp2_with fail
  generalize w1.alloc (.cells #[.int .i64 F.args,.int .i64 F.locals,.slice o6 M c6] 33)=wf at hNF hks hcs hlf ⊢
  rw [← hNF]
  generalize w1.heap.size=X at hNF hlf ⊢
  have HNF:=hide hNF
  have HKS:=hide hks
  have HCS:=hide hcs
  have HLF:=hide hlf
  have hst:=SmAt.new (NodesAt.nil wf) (Kept.refl wf)
  have HST:=hide hst
  clear hNF hks hcs hlf hst
  generalize wf.alloc (.cells #[.slice none 0 0,.slice none 0 0] 65)=ws at HST ⊢
  generalize hBB:wf.heap.size=B at HST HNF ⊢
  have HBB:=hide hBB
  clear hBB
  go_loopw [23] (fun s23 wr=>∃ k:Nat,k≤l∧s23=.int .i64 k∧Hid (∀ j,j < k→0≤vals.getD j 0∧vals.getD j 0≤999)∧Hid (SmAt wf wr B [] ((vals.take k).map (fun v=>((0:Int),v))))) (fun s23 _=>l - (intOf s23).toNat)
  case atStart=>exact ⟨0,Nat.zero_le _,rfl,hide (fun j hj=>by omega),HST⟩
  case round =>
    obtain ⟨k,hkm,rfl,HO,HSr⟩:=hrel
    by_cases hlt:k < l
    · have hx:=getD_of_lt vals k 0 (by rw [← un HVL]; exact hlt)
      obtain ⟨bv,ov,c5,ev,cz⟩:=((un HV).kept (un HKS)).at (i:=k) (by rw [← un HVL]; exact hlt)
      obtain ⟨rfl,rfl⟩:ob=some ⟨bv,ov,none⟩∧cb=c5:=by
        simp only [Value.slice.injEq] at ev
        exact ⟨ev.1,ev.2.2⟩
      have cz2:=(un HSr).keptw.cell cz
      have hk0:(0:Int)≤(k:Int):=by omega
      have hk1:(k:Int) < (l:Int):=by omega
      have HX:=hide hx
      generalize hz:vals.getD k 0=z at cz cz2 HX
      have HZ:=hide hz
      clear cz ev hx hz
      by_cases hz0:z < 0
      · obtain ⟨rfl,rfl⟩:rp=[]∧rr=3:=by
          have:=(un hrr).2 (fun h=>by have:=h z (List.mem_of_getElem? (un HX)); omega)
          simpa using this
        have HK9:=hide ((un HKS).trans (un HSr).keptw)
        go_wp2_with fail
        go_ret2
        exact ⟨_,rfl,⟨none,0,rfl,by simp,fun i f h=>by simp at h⟩,un HK9⟩
      · by_cases hz9:999 < z
        · obtain ⟨rfl,rfl⟩:rp=[]∧rr=3:=by
            have:=(un hrr).2 (fun h=>by have:=h z (List.mem_of_getElem? (un HX)); omega)
            simpa using this
          have HK9:=hide ((un HKS).trans (un HSr).keptw)
          go_wp2_with fail
          go_ret2
          exact ⟨_,rfl,⟨none,0,rfl,by simp,fun i f h=>by simp at h⟩,un HK9⟩
        · have HC:=hide (smPut_any wf wr B [] _ 0 z (un HSr) (by simp; omega))
          go_wp2_with fail
          refine (un HC).mono ?_
          rintro _ w2 ⟨rfl,s2,-⟩
          have HS2:Hid (SmAt wf w2 B [] ((vals.take (k + 1)).map (fun v=>((0:Int),v)))):=hide (by
            rw [List.take_add_one,un HX,List.map_append]
            exact s2)
          have HO2:Hid (∀ j,j < k + 1→0≤vals.getD j 0∧vals.getD j 0≤999):=hide (fun j hj=>by
            by_cases hj':j=k
            · rw [hj',un HZ]; omega
            · exact (un HO) j (by omega))
          clear s2 HC HSr HO
          go_wp2_with fail
          go_roundw
          case rel=>exact ⟨k + 1,by omega,by go_num,HO2,HS2⟩
          case measure=>simp [intOf]; omega
    · have hke:k=l:=by omega
      have hok:valsOk vals:=fun v hv=>by
        obtain ⟨i,hi⟩:=List.mem_iff_getElem?.1 hv
        have hil:=(List.getElem?_eq_some_iff.1 hi).1
        have:=(un HO) i (by have:=un HVL; omega)
        rwa [List.getD_eq_getElem?_getD,hi] at this
      obtain ⟨rfl,rfl⟩:rp=forgeP e vals∧rr=0:=by simpa using (un hrr).1 hok
      have hall:(vals.take k).map (fun v=>((0:Int),v))=vals.map (fun v=>((0:Int),v)):=by rw [hke,un HVL,List.take_length]
      have hs:=un HSr
      rw [hall] at hs
      have HC:=hide (smPut_any wf wr B [] _ 11 1 hs (by simp; have:=un HVL; omega))
      clear hs hall hok HSr HO
      subst hke
      go_wp2_with fail
      refine (un HC).mono ?_
      rintro _ w2 ⟨rfl,s2,-⟩
      have HC2:=hide (smPut_any wf w2 B [] _ 12 0 s2 (by simp; have:=un HVL; omega))
      clear s2 HC
      go_wp2_with fail
      refine (un HC2).mono ?_
      rintro _ w3 ⟨rfl,s3,-⟩
      clear HC2
      obtain ⟨oc,cc,c1,hcode⟩:=s3.code (by simp; have:=un HVL; omega)
      have hk3:=s3.keptw
      have l3:=lays_kept hk3 (un HLF)
      have x0:=cell_lays l3 0
      have x1:=cell_lays l3 1
      have x2:=cell_lays l3 2
      simp only [List.getElem?_toArray,List.getElem?_cons_zero,List.getElem?_cons_succ] at x0 x1 x2
      have hG:(mainS vals).code=vals.map (fun v=>((0:Int),v))++[(11,1)]++[(12,0)]:=by simp [mainS]
      rw [← hG] at c1 hcode
      have HCO:=hide hcode
      have HK3:=hide ((un HKS).trans hk3)
      have HC4:=hide ((un HCS).kept hk3)
      generalize hQ:(mainS vals).code.length=Q at c1 HCO
      have HQ:=hide hQ
      clear s3 hcode hk3 l3 hG hQ
      go_wp2_with fail
      go_ret2
      refine ⟨_,rfl,?_,?_⟩
      · have hl6:(w3.alloc (.cells #[.int .i64 0,.int .i64 0,.slice oc Q cc,.int .i64 F.args,.int .i64 F.locals,.slice o6 M c6] 33)).heap[w3.heap.size]?=some (.cells #[.int .i64 0,.int .i64 0,.slice oc Q cc,.int .i64 F.args,.int .i64 F.locals,.slice o6 M c6] 33):=lays_new rfl
        have hk6:=(Kept.refl w3).alloc (.cells #[.int .i64 0,.int .i64 0,.slice oc Q cc,.int .i64 F.args,.int .i64 F.locals,.slice o6 M c6] 33)
        refine ⟨some ⟨w3.heap.size,0,none⟩,2,rfl,by simp [forgeP],fun i f h=>?_⟩
        match i,h with
        | 0,h =>
          obtain rfl:mainS vals=f:=by simpa [forgeP] using h
          exact ⟨_,_,.slice oc Q cc,rfl,cell_lays hl6 0,cell_lays hl6 1,cell_lays hl6 2,((un HCO).kept hk6).code⟩
        | 1,h =>
          obtain rfl:F=f:=by
            have h2:fnS e vals.length=f:=by simpa [forgeP] using h
            rw [← h2,← un HF,← un HVL]
          exact ⟨_,_,.slice o6 M c6,rfl,cell_lays hl6 3,cell_lays hl6 4,cell_lays hl6 5,((un HC4).kept hk6).code⟩
        | i + 2,h=>simp [forgeP] at h
      · exact (un HK3).alloc _
def pgS (e:List (Int × Int)) (vals:List Int):List Fn × Int :=
  if exErrS e vals.length=0 then if vals.all (fun v=>decide (0≤v∧v≤999))=true then (forgeP e vals,0) else ([],3) else ([],exErrS e vals.length)
theorem forgeProg_any (e:List (Int × Int)) (vals:List Int) (v vv:Value) (w:World) (he:NodesAt w v e) (hv:IntsW w vv vals) (HFU:Hid (∀ u,Kept w u→Calls Tryd.prog 12 #[v,.int .i64 vals.length] u (FgPost (fgS e vals.length).1 (fgS e vals.length).2 u))) :
    Calls Tryd.prog 13 #[v,vv] w (PgPost (pgS e vals).1 (pgS e vals).2 w):=by
  obtain ⟨oa,cap,rfl,_,_⟩:=id he
  obtain ⟨ob,cb,rfl,_,_⟩:=id hv
  unfold pgS
  by_cases hz:exErrS e vals.length=0
  · rw [if_pos hz]
    have h4:=(exErr_ok hz).2.1
    have hiff:vals.all (fun v=>decide (0≤v∧v≤999))=true↔valsOk vals:=by simp [valsOk]
    refine forgeProg_go e vals oa ob _ cap _ cb w hv rfl (by omega) HFU hz _ _ (hide ⟨fun h=>?_,fun h=>?_⟩)
    · rw [if_pos (hiff.2 h)]
    · rw [if_neg (fun c=>h (hiff.1 c))]
  · rw [if_neg hz]
    exact forgeProg_bad e oa ob _ cap _ cb w HFU hz
end Go.Proofs.YtogcfkmekdpmmaaDoor
