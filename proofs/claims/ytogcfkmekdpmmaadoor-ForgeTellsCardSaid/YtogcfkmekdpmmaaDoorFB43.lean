/- ProgD0, Choose, RunLc, OpenG, Open -/
import Derived.Test.YtogcfkmekdpmmaaDoorFB25
import Derived.Test.YtogcfkmekdpmmaaDoorFB41
import Derived.Test.YtogcfkmekdpmmaaDoorFB42
import Derived.Test.YtogcfkmekdpmmaaDoorChecked
import Derived.Test.YtogcfkmekdpmmaaDoorFB08
import Derived.Test.YtogcfkmekdpmmaaDoorFB30
import Derived.Test.YtogcfkmekdpmmaaDoorRows
import Derived.Test.YtogcfkmekdpmmaaDoorFB01
import Derived.ProofKit
import Derived.OpenShut
import Derived.Deep.Slices
import Derived.SizedLaws
import Derived.Deep.Strs
import Derived.Lib.LaidTab
set_option maxRecDepth 100000
set_option maxHeartbeats 8000000
namespace Go.Proofs.YtogcfkmekdpmmaaDoor
open Go.RowKit
theorem refHeights_at (p:List Fn) (v:Value) (k:Nat) (w:World) (hp:ProgAt w v p) (hz:chkS p k=0) :
  Calls Tryd.prog 45 #[v,.int .i64 k] w fun e w'=>RefPost p (codeOf p k) w e w':=by
 obtain ⟨i,hi0,hi,hm,hr,hops⟩:=chkS_zero hz
 obtain rfl:k=i:=by omega
 obtain ⟨oa,cap,rfl,hl,hcell⟩:=id hp
 obtain ⟨b,o,cv,rfl,c0,c1,c2,hc⟩:=hcell k _ (getD_of_lt p k Fn.zero hi)
 obtain ⟨oc,cc,rfl,_,_⟩:=id hc
 exact refHeights_any p (p.getD k Fn.zero) k b o cap oc _ cc w hp hi c2 hc rfl hm (fun x hx=>opsS_all hops x hx)
theorem hgtE_some {p:List Fn} {k:Nat}:hgtE p k=if (heightsS p (codeOf p k)).isSome=true then 0 else 1:=by
 unfold hgtE
 cases heightsS p (codeOf p k) <;> rfl
theorem progError_many (oa:Option Addr) (n cap:Nat) (w:World) (h:5 < (n:Int)) :
  Calls Tryd.prog 27 #[.slice oa n cap] w fun e w'=>e=.returned (.int .i64 2)∧Kept w w':=by
 go_enter Tryd.func27,Tryd.ntmps27
 go_wp2
 go_ret
 exact ⟨rfl,Kept.refl _⟩
theorem progError_none (oa:Option Addr) (cap:Nat) (w:World) :
  Calls Tryd.prog 27 #[.slice oa 0 cap] w fun e w'=>e=.returned (.int .i64 5)∧Kept w w':=by
 go_enter Tryd.func27,Tryd.ntmps27
 go_wp2
 go_ret
 exact ⟨rfl,Kept.refl _⟩
theorem progError_args (b o n cap:Nat) (ar:Int) (w:World) (h:¬ 5 < (n:Int)) (h0:((n:Int) == 0)=false) (hn:0 < n) (c0:w.cell? ⟨b,o,none⟩=some (.int .i64 ar)) (ha:(ar != 0)=true) :
  Calls Tryd.prog 27 #[.slice (some ⟨b,o,none⟩) n cap] w fun e w'=>e=.returned (.int .i64 1)∧Kept w w':=by
 go_enter Tryd.func27,Tryd.ntmps27
 go_wp2
 go_ret
 exact ⟨rfl,Kept.refl _⟩
theorem progError_go (p:List Fn) (b o n cap:Nat) (w:World) (hp:ProgAt w (.slice (some ⟨b,o,none⟩) n cap) p) (hl:n=p.length) (h:¬ 5 < (n:Int)) (h0:((n:Int) == 0)=false) (hn:0 < n) (c0:w.cell? ⟨b,o,none⟩=some (.int .i64 0)) (rr:Int) (hrr:(if firstS (fun k=>chkS p k) 0 p.length=0 then firstS (hgtE p) 0 p.length else firstS (fun k=>chkS p k) 0 p.length)=rr) :
  Calls Tryd.prog 27 #[.slice (some ⟨b,o,none⟩) n cap] w fun e w'=>e=.returned (.int .i64 rr)∧Kept w w':=by
 have HRR:=hide hrr
 clear hrr
 have HP:=hide hp
 have HL:=hide hl
 clear hp hl
 go_enter Tryd.func27,Tryd.ntmps27
 go_wp2
 go_loopw [3] (fun s wr=>∃ k:Nat,k≤n∧s=.int .i64 k∧Hid (firstS (fun k=>chkS p k) k (n - k)=firstS (fun k=>chkS p k) 0 p.length)∧Hid (Kept w wr)) (fun s _=>n - (intOf s).toNat)
 case atStart=>exact ⟨0,Nat.zero_le _,rfl,by have:=un HL; subst this; rfl,Kept.refl _⟩
 case round =>
  obtain ⟨k,hkm,rfl,HO,HKr⟩:=hrel
  by_cases hlt:k < n
  ·have hst:=firstS_step (e:=fun k=>chkS p k) hlt
   have HST:=hide hst
   have hck:=funcError_any p (.slice (some ⟨b,o,none⟩) n cap) k wr ((un HP).kept (un HKr))
   have HCK:=hide hck
   clear hst hck
   go_wp2_with fail
   refine (un HCK).mono ?_
   clear HCK
   rintro e w2 ⟨rfl,hk2⟩
   have HK2:=hide ((un HKr).trans hk2)
   clear hk2
   by_cases hz:chkS p k=0
   ·have hst:=un HST
    simp only [hz,if_true] at hst
    have HS2:=hide (hst.symm.trans (un HO))
    rw [hz]
    clear hst hz HST HO
    go_wp2
    go_roundw
    case rel=>exact ⟨k + 1,by omega,by go_num,HS2,HK2⟩
    case measure=>simp [intOf]; omega
   ·have hst:=un HST
    simp only [hz,if_false] at hst
    have hs2:=hst.symm.trans (un HO)
    have hz':(chkS p k != 0)=true:=by rw [bne_iff_ne]; exact hz
    generalize chkS p k=r at *
    have HS2:=hide hs2
    have HZ:=hide hz
    clear hst hz HST HO hs2
    go_wp2
    go_ret
    have hrr:=un HRR
    rw [← un HS2,if_neg (un HZ)] at hrr
    exact ⟨by rw [← hrr]; rfl,un HK2⟩
  ·have hf0:firstS (fun k=>chkS p k) 0 p.length=0:=by
    rw [← un HO,show n - k=0 by omega]
    rfl
   have HF:=hide hf0
   clear hf0 HO
   go_wp2
   go_loopw [5] (fun s wq=>∃ k:Nat,k≤n∧s=.int .i64 k∧Hid (firstS (hgtE p) k (n - k)=firstS (hgtE p) 0 p.length)∧Hid (Kept w wq)) (fun s _=>n - (intOf s).toNat)
   case atStart=>exact ⟨0,Nat.zero_le _,rfl,by have:=un HL; subst this; rfl,HKr⟩
   case round =>
    obtain ⟨k,hkm,rfl,HO,HKq⟩:=hrel
    by_cases hlt:k < n
    ·have hst:=firstS_step (e:=hgtE p) hlt
     have hz0:chkS p k=0:=firstS_zero (un HF) k (by omega) (by have:=un HL; omega)
     have hck:=refHeights_at p (.slice (some ⟨b,o,none⟩) n cap) k _ ((un HP).kept (un HKq)) hz0
     rw [hgtE_some] at hst
     have HST:=hide hst
     have HCK:=hide hck
     clear hst hck hz0
     go_wp2_with fail
     refine (un HCK).mono ?_
     clear HCK
     rintro e w2 ⟨v2,rfl,_,hk2⟩
     have HK2:=hide ((un HKq).trans hk2)
     clear hk2
     cases hz:(heightsS p (codeOf p k)).isSome with
     | true =>
      have hst:=un HST
      rw [hz] at hst
      simp only [if_true] at hst
      have HS2:=hide (hst.symm.trans (un HO))
      clear hst hz HST HO
      go_wp2
      go_roundw
      case rel=>exact ⟨k + 1,by omega,by go_num,HS2,HK2⟩
      case measure=>simp [intOf]; omega
     | false =>
      have hst:=un HST
      rw [hz] at hst
      simp at hst
      have HS2:=hide (hst.symm.trans (un HO))
      clear hst hz HST HO
      go_wp2
      go_ret
      have hrr:=un HRR
      rw [if_pos (un HF),← un HS2] at hrr
      exact ⟨by rw [← hrr]; rfl,un HK2⟩
    ·have hf1:firstS (hgtE p) 0 p.length=0:=by
      rw [← un HO,show n - k=0 by omega]
      rfl
     have HF1:=hide hf1
     clear hf1 HO
     go_wp2
     go_ret
     have hrr:=un HRR
     rw [if_pos (un HF),un HF1] at hrr
     exact ⟨by rw [← hrr]; rfl,un HKq⟩
theorem progError_any (p:List Fn) (v:Value) (w:World) (hp:ProgAt w v p) :
  Calls Tryd.prog 27 #[v] w fun e w'=>e=.returned (.int .i64 (progS p))∧Kept w w':=by
 obtain ⟨oa,cap,rfl,hl,hi⟩:=id hp
 unfold progS
 by_cases h5:5 < p.length
 ·rw [if_pos h5]
  exact progError_many oa p.length cap w (by omega)
 ·rw [if_neg h5]
  by_cases h0:p.length=0
  ·rw [if_pos h0,h0]
   exact progError_none oa cap w
  ·rw [if_neg h0]
   have h0':((p.length:Int) == 0)=false:=by rw [beq_eq_false_iff_ne]; omega
   obtain ⟨b,o,cv,rfl,c0,c1,c2,hc⟩:=hi 0 _ (getD_of_lt p 0 Fn.zero (by omega))
   simp only [Nat.zero_mul,Nat.add_zero] at c0
   by_cases ha:(p.getD 0 Fn.zero).args=0
   ·rw [if_neg (not_not_intro ha)]
    rw [ha] at c0
    exact progError_go p b o p.length cap w hp rfl (by omega) h0' (by omega) c0 _ rfl
   ·rw [if_pos ha]
    exact progError_args b o p.length cap _ w (by omega) h0' (by omega) c0 (by rw [bne_iff_ne]; exact ha)
def chooseS (c:Int) (n:Nat):Nat:=((if c < 0 then -(c + 1) else c) % n).toNat
theorem chooseS_eq (c:Int) {n:Nat} (h:0 < n):((chooseS c n:Nat):Int)=(if c < 0 then -(c + 1) else c) % n:=by
 unfold chooseS
 have h2:=Int.emod_nonneg (if c < 0 then -(c + 1) else c) (show (n:Int)≠0 by omega)
 omega
theorem ret_int {k:IntKind} {a b:Int} (h:a=b):Ending.returned (.int k a)=.returned (.int k b):=by rw [h]
theorem choose_any (c:Int) (n:Nat) (w:World) (hw:(Lit.int .i64 c).wf=true) (hn:0 < n) (hm:n≤8796093022208) :
  Calls Tryd.prog 22 #[.int .i64 c,.int .i64 n] w fun e w'=>e=.returned (.int .i64 (chooseS c n))∧w=w':=by
 have hb:-9223372036854775808≤c∧c≤9223372036854775807:=by
  simp only [Lit.wf,Bool.and_eq_true,decide_eq_true_eq] at hw
  exact hw
 rw [chooseS_eq c hn]
 have hz:((n:Int) == 0)=false:=beq_eq_false_iff_ne.2 (by omega)
 obtain ⟨hb1,hb2⟩:=hb
 by_cases h:c < 0
 ·rw [if_pos h]
  go_enter Tryd.func22,Tryd.ntmps22
  go_wp2
  go_ret
  exact ⟨ret_int (by rw [← Int.neg_tmod]; exact Int.tmod_eq_emod_of_nonneg (by omega)),rfl⟩
 ·rw [if_neg h]
  go_enter Tryd.func22,Tryd.ntmps22
  go_wp2
  go_ret
  exact ⟨ret_int (by rfl),rfl⟩
theorem choose_is (c:Int) (n:Nat) (hw:(Lit.int .i64 c).wf=true) (hn:0 < n) (hm:n≤8796093022208) (u:World):Calls Tryd.prog 22 #[.int .i64 c,.int .i64 n] u fun e w'=>e=.returned (.int .i64 (chooseS c n))∧w'=u:=by
 refine (choose_any c n u hw hn hm).mono ?_
 rintro e w' ⟨rfl,h⟩
 exact ⟨rfl,h.symm⟩
end Go.Proofs.YtogcfkmekdpmmaaDoor
namespace Go.Proofs.YtogcfkmekdpmmaaDoor
open Go.RowKit Go.ChangeShapes Go.WideShapes Go.ChangeAt
theorem own:ownKnob Tryd.prog.godebug=none:=by kernel_rfl
theorem laidOut:laidOutB Tryd.prog=true:=by kernel_rfl
theorem cellsInt:Tryd.prog.cellsOf 3=1:=by kernel_rfl
theorem reach_eq:reachBytes=140737488351232:=rfl
section
variable {H:Type} {enc:TypeId × Value→H} {w:World} {base:Nat} {spare:Nat→Bool} {held:Bool}
theorem spot_none {a:Addr} {v:Value} (h:w.cell? a=some v):a.spot=none:=by
 unfold World.cell? at h
 split at h
 ·split at h
  ·cases h
  ·rename_i hs; simpa using hs
 ·cases h
theorem add_of_spot {a:Addr} (h:a.spot=none) (n:Nat):a.add n=⟨a.block,a.off + n,none⟩:=by
 unfold Addr.add
 split
 ·rename_i e; subst e; cases a; simp_all
 ·rfl
theorem weightsAll_mem {P:Program} {e:TypeId}:∀ {l:List (DataW H)} {d:DataW H},d∈l→∀ n∈d.weights P e,n∈DataW.weightsAll P e l
 | d' :: r,d,hd,n,hn=>by
  simp only [DataW.weightsAll,List.mem_append]
  rcases List.mem_cons.1 hd with rfl | h
  ·exact Or.inl hn
  ·exact Or.inr (weightsAll_mem h n hn)
end
theorem trodAll_below {H:Type} {enc:TypeId × Value→H} {W W':World} (hb:Kept W W'):∀ {ts:List TypeId} {vs:List Value} {ds:List (DataW H)} {ps:List MemPlace},(∀ t,t∈ts→Tryd.prog.readableRec t=true∧t < Tryd.prog.types.size) →
  DataW.TrodAll enc Tryd.prog W 0 (fun _=>true) true ts vs ds ps→(∀ x,x∈ps→x.block < W.heap.size)→DataW.TrodAll enc Tryd.prog W' 0 (fun b=>decide (b < W.heap.size)) true ts vs ds ps
 | [],vs,ds,ps,_,h,_=>by
  obtain ⟨rfl,rfl,rfl⟩:=trodAll_nil h
  exact trodAll_mk0
 | t :: ts,vs,ds,ps,hr,h,hl=>by
  obtain ⟨v,vs',d,ds',p,q,rfl,rfl,rfl,h0,h1⟩:=trodAll_cons h
  obtain ⟨r1,r2⟩:=hr t (by simp)
  exact trodAll_cons_mk (Below.trod laidOut r1 r2 h0 hb (fun x hx=>hl x (by simp [hx]))) (trodAll_below hb (fun t ht=>hr t (by simp [ht])) h1 (fun x hx=>hl x (by simp [hx])))
end Go.Proofs.YtogcfkmekdpmmaaDoor
namespace Go.Proofs.YtogcfkmekdpmmaaDoor
open Go.RowKit Go.ChangeShapes Go.WideShapes Go.ChangeAt
theorem cellsOp:Tryd.prog.cellsOf 61=2:=by kernel_rfl
theorem cellsOps:Tryd.prog.cellsOf 31=1:=by kernel_rfl
theorem cellsFunc:Tryd.prog.cellsOf 33=3:=by kernel_rfl
theorem cellsKind:Tryd.prog.cellsOf 119=3:=by kernel_rfl
theorem bytesOp:Tryd.prog.bytesOf 61=16:=by kernel_rfl
theorem bytesFunc:Tryd.prog.bytesOf 33=40:=by kernel_rfl
theorem typeOp:∃ f0 f1:Field,Tryd.prog.underlying 61=some (.struct #[f0,f1])∧f0.type=3∧f0.offset=0∧f1.type=3∧f1.offset=1:=⟨_,_,Tryd.underlying61,rfl,rfl,rfl,rfl⟩
theorem typeFunc:∃ f0 f1 f2:Field,Tryd.prog.underlying 33=some (.struct #[f0,f1,f2])∧f0.type=3∧f0.offset=0∧f1.type=3∧f1.offset=1∧f2.type=31∧f2.offset=2:=⟨_,_,_,Tryd.underlying33,rfl,rfl,rfl,rfl,rfl,rfl⟩
theorem typeKind:∃ f0 f1 f2:Field,Tryd.prog.underlying 119=some (.struct #[f0,f1,f2])∧f0.type=3∧f0.offset=0∧f1.type=3∧f1.offset=1∧f2.type=3∧f2.offset=2:=⟨_,_,_,Tryd.underlying119,rfl,rfl,rfl,rfl,rfl,rfl⟩
section
variable {H:Type} {enc:TypeId × Value→H} {w:World} {base:Nat} {spare:Nat→Bool} {held:Bool}
theorem trod_op {fuel:Nat} {cs:List Value} {x:DataW H × List MemPlace} (h:DataW.trod enc Tryd.prog w base spare held fuel 61 cs=some x) :
  ∃ k a:Int,cs=[.int .i64 k,.int .i64 a]∧x=(.agg [.lit (.int .i64 k),.lit (.int .i64 a)],[])∧(Lit.int .i64 k).wf=true∧(Lit.int .i64 a).wf=true:=by
 obtain ⟨f0,f1,hu,t0,o0,t1,o1⟩:=typeOp
 obtain ⟨y0,y1,n,hx,hl,h0,h1⟩:=trod_struct2 hu h
 rw [t0,o0,cellsInt] at h0
 rw [t1,o1,cellsInt] at h1
 obtain ⟨k,e0,r0,w0⟩:=DataW.trod_int Tryd.underlying3 h0
 obtain ⟨a,e1,r1,w1⟩:=DataW.trod_int Tryd.underlying3 h1
 rw [cellsOp] at hl
 match cs,hl with
 | [c0,c1],_ =>
  simp at e0 e1
  subst e0 e1
  subst r0 r1
  exact ⟨k,a,rfl,by simpa using hx,w0,w1⟩
theorem open_code {fuel:Nat} {v:Value} {x:DataW H × List MemPlace} (h:DataW.trod enc Tryd.prog w base spare held fuel 31 [v]=some x) (hw:∀ n,n∈x.1.weights Tryd.prog 31→n≤reachBytes):∃ c,CodeAt w v c:=by
 rcases Deep.open_slice Tryd.underlying31 h with ⟨e,_⟩ | ⟨a,len,cap,m,n,D,Pl,e,_,hlc,_,hm,hx,hi⟩
 ·simp at e
  subst e
  exact ⟨[],none,0,rfl,by simp,fun i x h=>by simp at h⟩
 ·simp at e
  subst e
  have hlm:len≤m:=by rw [hm]; split <;> omega
  have hlen:len * 16≤140737488351232:=by
   have:=hw ((((List.range len).map D).length + ((List.range (m - len)).map fun j=>D (len + j)).length) * Tryd.prog.bytesOf 61) (by rw [hx]; simp [DataW.weights,Tryd.underlying31])
   rw [bytesOp,reach_eq] at this
   simp at this
   omega
  have hall:∀ i,i < len→∃ y:Int × Int,w.cell? (a.add (i * 2))=some (.int .i64 y.1)∧w.cell? (a.add (i * 2 + 1))=some (.int .i64 y.2):=by
   intro i hil
   obtain ⟨cs',hc,ht⟩:=hi i (by omega)
   rw [cellsOp] at hc
   obtain ⟨_,_,hcell⟩:=World.cells?_some hc
   obtain ⟨k,av,rfl,_⟩:=trod_op ht
   refine ⟨(k,av),?_,?_⟩
   ·have:=hcell 0 (by omega); rw [Deep.add_add] at this; simpa using this
   ·have:=hcell 1 (by omega); rw [Deep.add_add] at this; simpa using this
  obtain ⟨g,hg⟩:=Deep.choose_lt hall
  refine ⟨(List.range len).map g,some a,cap,by simp,by simp; omega,fun i y hy=>?_⟩
  rw [List.getElem?_map,Option.map_eq_some_iff] at hy
  obtain ⟨j,hj,rfl⟩:=hy
  have hjl:i < len:=by simpa using (List.getElem?_eq_some_iff.1 hj).1
  obtain rfl:i=j:=by simpa [hjl] using hj
  have hs:a.spot=none:=by
   have:=(hg 0 (by omega)).1
   simp only [Nat.zero_mul] at this
   exact spot_none (by simpa [Addr.add] using this)
  refine ⟨a.block,a.off,by cases a; simp_all,?_,?_⟩
  ·have:=(hg i hjl).1; rwa [add_of_spot hs] at this
  ·have:=(hg i hjl).2; rwa [add_of_spot hs,← Nat.add_assoc] at this
theorem open_prog {fuel:Nat} {v:Value} {x:DataW H × List MemPlace} (h:DataW.trod enc Tryd.prog w base spare held fuel 22 [v]=some x) (hw:∀ n,n∈x.1.weights Tryd.prog 22→n≤reachBytes):∃ p,ProgAt w v p:=by
 rcases Deep.open_slice Tryd.underlying22 h with ⟨e,_⟩ | ⟨a,len,cap,m,n,D,Pl,e,_,hlc,_,hm,hx,hi⟩
 ·simp at e
  subst e
  exact ⟨[],none,0,rfl,by simp,fun i x h=>by simp at h⟩
 ·simp at e
  subst e
  have hlm:len≤m:=by rw [hm]; split <;> omega
  have hlen:len * 40≤140737488351232:=by
   have:=hw ((((List.range len).map D).length + ((List.range (m - len)).map fun j=>D (len + j)).length) * Tryd.prog.bytesOf 33) (by rw [hx]; simp [DataW.weights,Tryd.underlying22])
   rw [bytesFunc,reach_eq] at this
   simp at this
   omega
  have hall:∀ i,i < len→∃ y:Fn × Value,w.cell? (a.add (i * 3))=some (.int .i64 y.1.args)∧w.cell? (a.add (i * 3 + 1))=some (.int .i64 y.1.locals)∧w.cell? (a.add (i * 3 + 2))=some y.2∧CodeAt w y.2 y.1.code:=by
   intro i hil
   obtain ⟨cs',hc,ht⟩:=hi i (by omega)
   rw [cellsFunc] at hc
   obtain ⟨_,hcl,hcell⟩:=World.cells?_some hc
   obtain ⟨f0,f1,f2,hu,t0,o0,t1,o1,t2,o2⟩:=typeFunc
   obtain ⟨y0,y1,y2,n',hy,_,g0,g1,g2⟩:=Deep.trod_struct3 hu ht
   rw [t0,o0,cellsInt] at g0
   rw [t1,o1,cellsInt] at g1
   rw [t2,o2,cellsOps] at g2
   obtain ⟨ar,e0,r0,_⟩:=DataW.trod_int Tryd.underlying3 g0
   obtain ⟨lo,e1,r1,_⟩:=DataW.trod_int Tryd.underlying3 g1
   match cs',hcl with
   | [c0,c1,c2],_ =>
    simp at e0 e1
    subst e0 e1
    simp only [List.drop,List.take] at g2
    have hD:D i=.agg [y0.1,y1.1,y2.1]:=congrArg Prod.fst hy
    obtain ⟨c,hcode⟩:=open_code g2 (fun q hq=>hw q (by
     rw [hx]
     simp only [DataW.weights,Tryd.underlying22,List.mem_cons,List.mem_append]
     refine Or.inr (Or.inl (weightsAll_mem (d:=D i) (List.mem_map.2 ⟨i,by simpa using hil,rfl⟩) q ?_))
     rw [hD]
     simp only [DataW.weights,hu,DataW.weightsEach,List.map_cons,List.map_nil,t0,t1,t2,List.mem_append]
     exact Or.inr (Or.inr (Or.inl hq))))
    refine ⟨(⟨ar,lo,c⟩,c2),?_,?_,?_,hcode⟩
    ·have:=hcell 0 (by omega); rw [Deep.add_add] at this; simpa using this
    ·have:=hcell 1 (by omega); rw [Deep.add_add] at this; simpa using this
    ·have:=hcell 2 (by omega); rw [Deep.add_add] at this; simpa using this
  have:Inhabited (Fn × Value):=⟨(Fn.zero,.nilIface)⟩
  obtain ⟨g,hg⟩:=Deep.choose_lt hall
  refine ⟨(List.range len).map fun i=>(g i).1,some a,cap,by simp,by simp; omega,fun i y hy=>?_⟩
  rw [List.getElem?_map,Option.map_eq_some_iff] at hy
  obtain ⟨j,hj,rfl⟩:=hy
  have hjl:i < len:=by simpa using (List.getElem?_eq_some_iff.1 hj).1
  obtain rfl:i=j:=by simpa [hjl] using hj
  have hs:a.spot=none:=by
   have:=(hg 0 (by omega)).1
   simp only [Nat.zero_mul] at this
   exact spot_none (by simpa [Addr.add] using this)
  obtain ⟨k0,k1,k2,k3⟩:=hg i hjl
  refine ⟨a.block,a.off,(g i).2,by cases a; simp_all,?_,?_,?_,k3⟩
  ·rwa [add_of_spot hs] at k0
  ·rwa [add_of_spot hs,← Nat.add_assoc] at k1
  ·rwa [add_of_spot hs,← Nat.add_assoc] at k2
end
theorem gKinds : Tryd.prog.globalNamed "glebe/op.kinds" = some 1 := by kernel_rfl
theorem gKindsType:(Tryd.prog.globals[1]?).map (·.type)=some 120:=by kernel_rfl
theorem laid_at {H:Type} (i:Nat) (h:i < 17):([.agg [.lit (.int .i64 0),.lit (.int .i64 1),.lit (.int .i64 1)],.agg [.lit (.int .i64 1),.lit (.int .i64 0),.lit (.int .i64 0)],.agg [.lit (.int .i64 0),.lit (.int .i64 1),.lit (.int .i64 2)],.agg [.lit (.int .i64 1),.lit (.int .i64 0),.lit (.int .i64 2)],.agg [.lit (.int .i64 2),.lit (.int .i64 1),.lit (.int .i64 0)],.agg [.lit (.int .i64 2),.lit (.int .i64 1),.lit (.int .i64 0)],.agg [.lit (.int .i64 2),.lit (.int .i64 1),.lit (.int .i64 0)],.agg [.lit (.int .i64 2),.lit (.int .i64 1),.lit (.int .i64 0)],.agg [.lit (.int .i64 2),.lit (.int .i64 1),.lit (.int .i64 0)],.agg [.lit (.int .i64 0),.lit (.int .i64 0),.lit (.int .i64 3)],.agg [.lit (.int .i64 1),.lit (.int .i64 0),.lit (.int .i64 3)],.agg [.lit (.int .i64 0),.lit (.int .i64 1),.lit (.int .i64 4)],.agg [.lit (.int .i64 1),.lit (.int .i64 0),.lit (.int .i64 0)],.agg [.lit (.int .i64 0),.lit (.int .i64 1),.lit (.int .i64 4)],.agg [.lit (.int .i64 2),.lit (.int .i64 1),.lit (.int .i64 0)],.agg [.lit (.int .i64 1),.lit (.int .i64 1),.lit (.int .i64 0)],.agg [.lit (.int .i64 1),.lit (.int .i64 0),.lit (.int .i64 0)]]:List (DataW H))[i]?=some (.agg [.lit (.int .i64 (tk i)),.lit (.int .i64 (lv i)),.lit (.int .i64 (opd i))]):=by
 have:i=0∨i=1∨i=2∨i=3∨i=4∨i=5∨i=6∨i=7∨i=8∨i=9∨i=10∨i=11∨i=12∨i=13∨i=14∨i=15∨i=16:=by omega
 rcases this with rfl | rfl | rfl | rfl | rfl | rfl | rfl | rfl | rfl | rfl | rfl | rfl | rfl | rfl | rfl | rfl | rfl <;> rfl
theorem kinds_of_laid {W : World} (h : laidMetH Tryd.prog [("glebe/op.kinds", Rows.laid_glebe_op_kinds)] W) : KindsAt W := by
 obtain ⟨ps, ⟨g', t', cs, fuel, p, q, hg', ht', hvar, hd, _, _⟩, _⟩ := (h : laidMet Tryd.prog [("glebe/op.kinds", Rows.laid_glebe_op_kinds)] W)
 obtain rfl:=Option.some.inj (gKinds.symm.trans hg')
 obtain rfl:=Option.some.inj (gKindsType.symm.trans ht')
 obtain ⟨xs,m,_,hx,_,hxl,hi⟩:=DataW.trod_array Tryd.underlying120 hd
 have hagg:(Rows.laid_glebe_op_kinds:DataW Unit)=.agg (xs.map (·.1)):=congrArg Prod.fst hx
 have hl:∀ i,i < 17→(xs[i]?).map (·.1)=some (.agg [.lit (.int .i64 (tk i)),.lit (.int .i64 (lv i)),.lit (.int .i64 (opd i))]):=by
  intro i hi17
  rw [← List.getElem?_map,← laid_at i hi17]
  unfold Rows.laid_glebe_op_kinds at hagg
  rw [← DataW.agg.inj hagg]
 have hc:∀ i,i < 17→cs[i * 3]?=some (.int .i64 (tk i))∧cs[i * 3 + 1]?=some (.int .i64 (lv i))∧cs[i * 3 + 2]?=some (.int .i64 (opd i)):=by
  intro i hi17
  have h1:=hi i hi17
  obtain ⟨x,hxi,hx1⟩:=Option.map_eq_some_iff.1 (hl i hi17)
  rw [hxi,cellsKind] at h1
  obtain ⟨f0,f1,f2,hu,t0,o0,t1,o1,t2,o2⟩:=typeKind
  obtain ⟨y0,y1,y2,n',hy,_,g0,g1,g2⟩:=Deep.trod_struct3 hu h1
  rw [t0,o0,cellsInt] at g0
  rw [t1,o1,cellsInt] at g1
  rw [t2,o2,cellsInt] at g2
  obtain ⟨z0,e0,r0,_⟩:=DataW.trod_int Tryd.underlying3 g0
  obtain ⟨z1,e1,r1,_⟩:=DataW.trod_int Tryd.underlying3 g1
  obtain ⟨z2,e2,r2,_⟩:=DataW.trod_int Tryd.underlying3 g2
  rw [hy,r0,r1,r2] at hx1
  simp at hx1
  obtain ⟨rfl,rfl,rfl⟩:=hx1
  refine ⟨?_,?_,?_⟩
  ·have:=congrArg (·[0]?) e0
   simpa [List.getElem?_take,List.getElem?_drop] using this
  ·have:=congrArg (·[0]?) e1
   simpa [List.getElem?_take,List.getElem?_drop,Nat.add_comm,Nat.add_left_comm] using this
  ·have:=congrArg (·[0]?) e2
   simpa [List.getElem?_take,List.getElem?_drop,Nat.add_comm,Nat.add_left_comm] using this
 intro k hk
 rw [World.var?_cell gKinds hvar k]
 obtain ⟨h0,h1,h2⟩:=hc (k / 3) (by omega)
 have:k=k / 3 * 3∨k=k / 3 * 3 + 1∨k=k / 3 * 3 + 2:=by omega
 rcases this with e | e | e
 ·rw [e,h0]; unfold tk; rw [← e]
 ·rw [e,h1]; unfold lv; rw [← e]
 ·rw [e,h2]; unfold opd; rw [← e]
end Go.Proofs.YtogcfkmekdpmmaaDoor
