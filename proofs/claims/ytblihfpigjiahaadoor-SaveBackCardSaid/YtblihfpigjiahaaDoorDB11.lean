/- FlowF, FlowG, StateT, StateA, StateB, StateBw, StX, Fib, StXr, Same, FlowH0, StepBgW, StepW, OwnA -/
import Derived.Test.YtblihfpigjiahaaDoorDB10
import Derived.Test.YtblihfpigjiahaaDoorDB08
import Derived.Deep.DeepCutAuto
import Derived.Deep.RegionWith
import Derived.JoinedCond
import Derived.Test.YtblihfpigjiahaaDoorDB01
import Derived.Lib.SmallJoins
import Derived.OneCell
import Derived.Laws.OwnMore
import Derived.Maps.AppendAt
set_option maxRecDepth 100000
set_option maxHeartbeats 8000000
namespace Go.Proofs.YtblihfpigjiahaaDoor
open Go.RowKit Go.Shelf
theorem Zks (p:List Fn) (g:Fn) (oa:Option Addr) (lp cp:Nat) (oc:Option Addr) (lc cc B:Nat) (w0:World) (hlc:lc=g.code.length):∀ (n:Nat) (H:List Int) (at_:Nat) (h:Int) (w:World),
  ComeAt w0 w p g (.slice oa lp cp) (.slice oc lc cc) B H→0≤h→h≤8→unv H<n →
  Calls Tryd.prog 63 #[.agg #[.slice oa lp cp,.slice oc lc cc,.slice (some ⟨B,0,none⟩) lc lc],.int .i64 at_,.int .i64 h] w fun e w'=>Zcm p g n H at_ h B w e w'
 | 0,H,at_,h,w,_,_,_,hu=>by omega
 | n+1,H,at_,h,w,hw,h0,h8,hu=>by
  by_cases h1:lc≤at_
  ·exact Zzo n p g oa oc lp cp lc cc B H at_ h w hw.hs hlc (by omega)
  ·by_cases h2:H.getD at_ 0=-1
   ·obtain ⟨x,hx⟩:∃ x,g.code[at_]?=some x:=⟨_,List.getElem?_eq_getElem (by omega)⟩
    obtain ⟨oa',cap',he,_,hcell⟩:=id hw.code
    obtain ⟨b',o',rfl,x0,x1⟩:=hcell at_ x hx
    obtain ⟨rfl,-,-⟩:=(by simpa using he:oc=some ⟨b',o',none⟩∧lc=g.code.length∧cc=cap')
    exact Zoh n p g oa b' o' lp cp lc cc B H at_ h x w0 w hw hlc (by omega) hx x0 x1 h2 h0 h8 hu (fun H' at' h' w' a b c d=>Zks p g oa lp cp _ lc cc B w0 hlc n H' at' h' w' a b c d)
   ·exact Zqm n p g oa oc lp cp lc cc B H at_ h w hw.hs hlc hw.len (by omega) h2
def Qf (w:World) (v:Value) (l:List Int):Prop :=
 ∃ oa cap,v=.slice oa l.length cap∧l.length≤8796093022208∧∀ i z,l[i]?=some z→∃ b o,oa=some ⟨b,o,none⟩∧w.cell? ⟨b,o+i,none⟩=some (.int .i64 z)
theorem Qf.kept {w w':World} (h:Za w w') {v:Value} {l:List Int} (hl:Qf w v l):Qf w' v l:=by
 obtain ⟨oa,cap,e,hn,hi⟩:=hl
 refine ⟨oa,cap,e,hn,fun i z hz=>?_⟩
 obtain ⟨b,o,e1,h1⟩:=hi i z hz
 exact ⟨b,o,e1,h.cell h1⟩
theorem Qf.nil (w:World):Qf w (.slice none 0 0) []:=⟨none,0,rfl,by simp,fun i z h=>by simp at h⟩
def Pd (p:List Fn) (f:Int):List Int × Int :=
 if Xs p f=0 then
  match Qc p (p.getD f.toNat Fn.zero).code with
  | some H=>(H,0)
  | none=>([],1)
 else ([],Xs p f)
def Zef (p:List Fn) (f:Int) (w:World) (e:Ending) (w':World):Prop :=
 ∃ v,e=.returned (.tuple #[v,.int .i64 (Pd p f).2])∧Qf w' v (Pd p f).1∧Za w w'
theorem Zvf (p:List Fn) (v:Value) (f:Int) (w:World) (hp:Zv w v p) (hk:Qw w) (hz:Xs p f≠0) :
  Calls Tryd.prog 40 #[v,.int .i64 f] w fun e w'=>Zef p f w e w':=by
 obtain ⟨oa,cap,rfl,_,_⟩:=id hp
 have hz':(Xs p f != 0)=true:=by rw [bne_iff_ne];exact hz
 have hr:Pd p f=([],Xs p f):=by unfold Pd;rw [if_neg hz]
 have HR:=Zb hr
 have HP:=Zb hp
 have HK:=Zb hk
 clear hp hk hz hr
 go_enter Tryd.func40,Tryd.ntmps40
 go_wp2_with fail
 refine (Zgk p _ f _ (un HP) (un HK)).mono ?_
 rintro e w1 ⟨rfl,hk1⟩
 have H1:=Zb hk1
 clear hk1
 generalize hc:Xs p f=r at *
 have HC:=Zb hc
 clear hc
 go_wp2
 go_ret2
 exact ⟨.slice none 0 0,by rw [un HR];rfl,by rw [un HR];exact Qf.nil _,un H1⟩
theorem Zap:(Tryd.prog.info? 3).map (fun i=>(i.zero,i.size,i.bytes))=some (some (.int .i64 0),1,8):=by kernel_rfl
theorem Xah (m:Nat):madeCells #[.int .i64 0] m=((List.replicate m (0:Int)).map (fun z=>Value.int .i64 z)).toArray:=by
 apply Array.ext
 ·simp [madeCells]
 ·intro i h1 h2
  simp [madeCells,Nat.mod_one]
theorem Zam (m:Nat) (hm:m≤1000000) (u:World):(Instr.makeSlice 24 (.int .i64 m) (.int .i64 m)).run Tryd.prog u =
  .ok (.slice (some ⟨u.heap.size,0,none⟩) m m) (u.alloc (.cells ((List.replicate m (0:Int)).map (fun z=>Value.int .i64 z)).toArray 3)):=by
 obtain ⟨i0,hi,hz0,hz1,hz2⟩:=info_parts Zap
 have h:=run_make (P:=Tryd.prog) u 24 3 i0 (.int .i64 0) Tryd.underlying24 hi hz0 .i64 .i64 (m:Int) (m:Int) (by omega) (Int.le_refl _) (by rw [hz2];omega) (by omega)
 rw [Int.toNat_natCast] at h
 rw [← Xah]
 simpa [hz1,Value.cells] using h
theorem Zlf {k m:Nat} (h:k<m):(List.replicate k (-1:Int)++List.replicate (m - k) 0).set k (-1)=List.replicate (k+1) (-1)++List.replicate (m - (k+1)) 0:=by
 obtain ⟨d,rfl⟩:∃ d,m=k+1+d:=⟨m - (k+1),by omega⟩
 rw [List.set_append_right _ _ (by simp)]
 have e1:k+1+d - k=d+1:=by omega
 have e2:k+1+d - (k+1)=d:=by omega
 rw [e1,e2,List.replicate_succ]
 simp [List.replicate_succ',List.append_assoc]
theorem Zhe {w:World} {B m:Nat} (h:w.heap[B]?=some (.cells (Array.replicate m (.int .i64 0)) 3)):Xy w B (List.replicate m 0):=by
 unfold Xy
 rw [h]
 simp
theorem Xaa (p:List Fn) (g:Fn) (i b o cap:Nat) (oc:Option Addr) (m cc:Nat) (w:World) (hk:Qw w) (hp:Zv w (.slice (some ⟨b,o,none⟩) p.length cap) p) (hi:i<p.length) (hg:p.getD i Fn.zero=g)
  (c2:w.cell? ⟨b,o+i*3+2,none⟩=some (.slice oc m cc)) (hc:Yz w (.slice oc m cc) g.code) (hml:m=g.code.length) (hm:m≤24) (hz:Xs p i=0) (hops:Wi p g g.code=0) :
  Calls Tryd.prog 40 #[.slice (some ⟨b,o,none⟩) p.length cap,.int .i64 i] w fun e w'=>Zef p i w e w':=by
 have HK:=Zb hk
 have HP:=Zb hp
 have HG:=Zb hg
 have HC:=Zb hc
 have HL:=Zb hml
 have HZ:=Zb hz
 have HO:=Zb hops
 have C2:=Zb c2
 clear hk hp hg hc hml hz hops c2
 go_enter Tryd.func40,Tryd.ntmps40
 go_wp2_with fail
 refine (Zog p _ i 0 _ (un HP) (un HK) (un HZ)).mono ?_
 rintro e w1 ⟨rfl,hk1⟩
 have d2:=hk1.cell (un C2)
 have H1:=Zb hk1
 clear hk1
 have d2':∀ o1,(w1.alloc o1).cell? ⟨b,o+i*3+2,none⟩=some (.slice oc m cc):=fun o1=>((Za.refl w1).alloc o1).cell d2
 have d2'':∀ o1 o2,((w1.alloc o1).alloc o2).cell? ⟨b,o+i*3+2,none⟩=some (.slice oc m cc):=fun o1 o2=>(((Za.refl w1).alloc o1).alloc o2).cell d2
 have hmk:=Zam m (by omega)
 go_wp2_with fail
 go_cut [7] (fun s7 wx=>∃ B Bw,s7=.pointer (some ⟨Bw,0,none⟩)∧Hid (wx.heap[Bw]?=some (.cells #[.slice (some ⟨b,o,none⟩) p.length cap,.slice oc m cc,.slice (some ⟨B,0,none⟩) m m] 108))∧Hid (Xy wx B (List.replicate m 0))∧w1.heap.size≤B∧w1.heap.size≤Bw∧B≠Bw∧Hid (Za w1 wx))
 case first =>
  go_region
  all_goals go_wp2_with fail
  all_goals go_meet
  ·exact ⟨w1.heap.size,w1.heap.size+1,rfl,Zb (Xe (Zj (by simp))),Zb (Zhe (Xe (Zr (Zj rfl) _))),Nat.le_refl _,Nat.le_succ _,by omega,Zb ((((Za.refl _).alloc _).alloc _).drew)⟩
  ·exact ⟨w1.heap.size+1,w1.heap.size,rfl,Zb (Xe (Zr (Zj rfl) _)),Zb (Zhe (Xe (Zj (by simp)))),Nat.le_succ _,Nat.le_refl _,by omega,Zb ((((Za.refl _).alloc _).alloc _).drew)⟩
 case rest =>
  obtain ⟨B,Bw,rfl,L0,HH0,hB,hBw,hne,HK1⟩:=hcut
  have e2:=Zd (un L0) 2
  simp only [List.getElem?_toArray,List.getElem?_cons_zero,List.getElem?_cons_succ] at e2
  clear d2 d2' d2'' hmk
  go_wp2
  go_loopw [32] (fun s32 wr=>∃ k:Nat,k≤m∧s32=.int .i64 k∧Hid (wr.heap[Bw]?=some (.cells #[.slice (some ⟨b,o,none⟩) p.length cap,.slice oc m cc,.slice (some ⟨B,0,none⟩) m m] 108))∧Hid (Xy wr B (List.replicate k (-1)++List.replicate (m - k) 0))∧Hid (Za w1 wr)) (fun s32 _=>m - (intOf s32).toNat)
  case atStart=>exact ⟨0,Nat.zero_le _,rfl,L0,by simpa using HH0,HK1⟩
  case round =>
   obtain ⟨k,hkm,rfl,L0r,HHr,HKr⟩:=hrel
   have f0:=Zd (un L0r) 0
   have f1:=Zd (un L0r) 1
   have f2:=Zd (un L0r) 2
   simp only [List.getElem?_toArray,List.getElem?_cons_zero,List.getElem?_cons_succ] at f0 f1 f2
   by_cases hlt:k<m
   ·have q:=(un HHr).cell (k:=k) (by simp;omega)
    have q':=(un HHr).frozen k
    have hset:=(un HHr).set k (-1)
    rw [Zlf hlt] at hset
    have HSET:=Zb hset
    generalize (List.replicate k (-1:Int)++List.replicate (m - k) 0).getD k 0=z at q
    clear hset
    go_wp2
    go_roundw
    case rel=>exact ⟨k+1,by omega,by go_num,Xr (un L0r) (fun e=>hne e.symm) _,un HSET,(un HKr).setCell (p:=⟨B,k,none⟩) hB _⟩
    case measure=>simp [intOf];omega
   ·have hke:k=m:=by omega
    have hst:List.replicate k (-1:Int)++List.replicate (m - k) 0=start g.code:=by
     have:=un HL
     rw [hke,Nat.sub_self]
     simp [start,this]
    have hHs:=un HHr
    rw [hst] at hHs
    have hu:=Zha (start g.code)
    rw [show (start g.code).length=g.code.length by simp [start]] at hu
    have hright:∀ x,x∈g.code→opS p g x=0:=fun x hx=>Zca (un HO) x hx
    have hcm:=Zks p g (some ⟨b,o,none⟩) p.length cap oc m cc B w1 (un HL) (g.code.length+1) (start g.code) 0 0 wr ⟨(un HP).kept (un H1),(un HC).kept (un H1),(un HK).kept (un H1),hright,by have:=un HL;omega,un HKr,hB,hHs,by simp [start]⟩ (by omega) (by omega) (by omega)
    have HCM:=Zb hcm
    have HRT:=Zb hright
    clear hcm hright hu hHs hst hke
    go_wp2_with fail
    refine (un HCM).mono ?_
    clear HCM
    rintro e w2 ⟨bb,H2,hc2,rfl,hH2,hk2⟩
    have hgt:Pd p i=match Qc p g.code with | some H=>(H,0) | none=>([],1):=by
     unfold Pd
     rw [if_pos (un HZ),Int.toNat_natCast,un HG]
    have hkw:Za w w2:=(un H1).trans (Zm.kept (un HKr) hB hk2)
    have g2:=Zd (hk2.lays (fun e=>hne e.symm) (un L0r)) 2
    simp only [List.getElem?_toArray,List.getElem?_cons_zero,List.getElem?_cons_succ] at g2
    have HGT:=Zb hgt
    have HKW:=Zb hkw
    have HC2:=Zb hc2
    have HH2:=Zb hH2
    clear hgt hkw hc2 hH2 hk2 f0 f1 f2
    have hR:Yf p g.code:=⟨g,rfl,un HRT⟩
    cases bb with
    | false =>
     have hn:Qc p g.code=none:=by
      cases hh:Qc p g.code with
      | none=>rfl
      | some H =>
       have:=(Zjd hR).2 H hh
       unfold wayS at this
       rw [un HC2] at this
       cases this
     have HN:=Zb hn
     clear hn hR
     go_wp2
     go_ret2
     have hgt:=un HGT
     rw [un HN] at hgt
     exact ⟨.slice none 0 0,by rw [hgt];rfl,by rw [hgt];exact Qf.nil _,un HKW⟩
    | true =>
     have hs:Qc p g.code=some H2:=(Zjd hR).1 H2 (un HC2)
     have hlen:H2.length=m:=by rw [(Zcu hR hs).1.len];exact (un HL).symm
     have HS:=Zb hs
     have HLN:=Zb hlen
     clear hs hlen hR
     go_wp2
     go_ret2
     have hgt:=un HGT
     rw [un HS] at hgt
     refine ⟨.slice (some ⟨B,0,none⟩) m m,by rw [hgt];rfl,?_,un HKW⟩
     rw [hgt]
     have hlen:=un HLN
     refine ⟨_,m,by rw [hlen],by simp only;omega,fun k z hz=>⟨B,0,rfl,?_⟩⟩
     have hk:=(List.getElem?_eq_some_iff.1 hz).1
     have:=(un HH2).cell (k:=k) hk
     rw [Nat.zero_add,this]
     simp [List.getD,hz]
theorem Zkb (p:List Fn) (v:Value) (f:Int) (w:World) (hp:Zv w v p) (hk:Qw w) :
  Calls Tryd.prog 40 #[v,.int .i64 f] w fun e w'=>Zef p f w e w':=by
 by_cases hz:Xs p f=0
 ·obtain ⟨i,rfl,hi,hm,hr,hops⟩:=Zcz hz
  obtain ⟨oa,cap,rfl,hl,hcell⟩:=id hp
  obtain ⟨b,o,cv,rfl,c0,c1,c2,hc⟩:=hcell i _ (Zp p i Fn.zero hi)
  obtain ⟨oc,cc,rfl,_,_⟩:=id hc
  exact Xaa p _ i b o cap oc _ cc w hk hp hi rfl c2 hc rfl hm hz hops
 ·exact Zvf p v f w hp hk hz
structure Fr where
 fn:Int
 at_:Int
 locals:List Int
 stack:List Int
structure Fb where
 frames:List Fr
 caller:Int
structure St where
 fibers:List Fb
 now:Int
 out:List Int
def Fr.zero:Fr:=⟨0,0,[],[]⟩
def Fb.zero:Fb:=⟨[],0⟩
def St.zero:St:=⟨[],0,[]⟩
open Go.RowKit
theorem Qf.wide {w:World} {v:Value} {l:List Int} (h:Qf w v l):Xm w v l:=by
 obtain ⟨oa,cap,e,hn,hi⟩:=h
 exact ⟨oa,cap,e,by omega,hi⟩
theorem Xm.small {w:World} {v:Value} {l:List Int} (h:Xm w v l) (hl:l.length≤8796093022208):Qf w v l:=by
 obtain ⟨oa,cap,e,hn,hi⟩:=h
 exact ⟨oa,cap,e,hl,hi⟩
def Yo (w:World) (v:Value) (l:List Fr):Prop :=
 ∃ oa cap,v=.slice oa l.length cap∧(l.length≤8796093022208∧l.length≤cap)∧∀ i f,l[i]?=some f→∃ b o vl vs,oa=some ⟨b,o,none⟩ ∧
  w.cell? ⟨b,o+i*4,none⟩=some (.int .i64 f.fn)∧w.cell? ⟨b,o+i*4+1,none⟩=some (.int .i64 f.at_) ∧
  w.cell? ⟨b,o+i*4+2,none⟩=some vl∧w.cell? ⟨b,o+i*4+3,none⟩=some vs∧Xm w vl f.locals∧Xm w vs f.stack
def Wo (w:World) (v:Value) (l:List Fb):Prop :=
 ∃ oa cap,v=.slice oa l.length cap∧l.length≤8796093022208∧∀ i f,l[i]?=some f→∃ b o vf,oa=some ⟨b,o,none⟩ ∧
  w.cell? ⟨b,o+i*2,none⟩=some vf∧w.cell? ⟨b,o+i*2+1,none⟩=some (.int .i64 f.caller)∧Yo w vf f.frames
def Xj (w:World) (v:Value) (s:St):Prop :=
 ∃ vf vo,v=.agg #[vf,.int .i64 s.now,vo]∧Wo w vf s.fibers∧Xm w vo s.out
theorem Yo.kept {w w':World} (h:Za w w') {v:Value} {l:List Fr} (hl:Yo w v l):Yo w' v l:=by
 obtain ⟨oa,cap,e,hn,hi⟩:=hl
 refine ⟨oa,cap,e,hn,fun i f hf=>?_⟩
 obtain ⟨b,o,vl,vs,e1,h1,h2,h3,h4,h5,h6⟩:=hi i f hf
 exact ⟨b,o,vl,vs,e1,h.cell h1,h.cell h2,h.cell h3,h.cell h4,h5.kept h,h6.kept h⟩
theorem Wo.kept {w w':World} (h:Za w w') {v:Value} {l:List Fb} (hl:Wo w v l):Wo w' v l:=by
 obtain ⟨oa,cap,e,hn,hi⟩:=hl
 refine ⟨oa,cap,e,hn,fun i f hf=>?_⟩
 obtain ⟨b,o,vf,e1,h1,h2,h3⟩:=hi i f hf
 exact ⟨b,o,vf,e1,h.cell h1,h.cell h2,h3.kept h⟩
theorem Xj.kept {w w':World} (h:Za w w') {v:Value} {s:St} (hs:Xj w v s):Xj w' v s:=by
 obtain ⟨vf,vo,e,h1,h2⟩:=hs
 exact ⟨vf,vo,e,h1.kept h,h2.kept h⟩
theorem Yo.nil (w:World):Yo w (.slice none 0 0) []:=⟨none,0,rfl,by simp,fun i z h=>by simp at h⟩
theorem Wo.nil (w:World):Wo w (.slice none 0 0) []:=⟨none,0,rfl,by simp,fun i z h=>by simp at h⟩
end Go.Proofs.YtblihfpigjiahaaDoor
namespace Go.Proofs.YtblihfpigjiahaaDoor
open Go.RowKit Go.ChangeShapes Go.WideShapes Go.ChangeAt
theorem Zgs:Tryd.prog.cellsOf 24=1:=by kernel_rfl
theorem Zxb:Tryd.prog.cellsOf 53=4:=by kernel_rfl
theorem Znz:Tryd.prog.cellsOf 44=1:=by kernel_rfl
theorem Zyd:Tryd.prog.cellsOf 46=2:=by kernel_rfl
theorem Zyg:Tryd.prog.cellsOf 23=1:=by kernel_rfl
theorem Zxd:Tryd.prog.cellsOf 26=3:=by kernel_rfl
theorem Zrr:Tryd.prog.bytesOf 3=8:=by kernel_rfl
theorem Zxe:Tryd.prog.bytesOf 53=64:=by kernel_rfl
theorem Znm:Tryd.prog.bytesOf 46=32:=by kernel_rfl
theorem Zyy:∃ f0 f1 f2 f3:Field,Tryd.prog.underlying 53=some (.struct #[f0,f1,f2,f3])∧f0.type=3∧f0.offset=0∧f1.type=3∧f1.offset=1∧f2.type=24∧f2.offset=2∧f3.type=24∧f3.offset=3:=⟨_,_,_,_,Tryd.underlying53,rfl,rfl,rfl,rfl,rfl,rfl,rfl,rfl⟩
theorem Zrf:∃ f0 f1:Field,Tryd.prog.underlying 46=some (.struct #[f0,f1])∧f0.type=44∧f0.offset=0∧f1.type=3∧f1.offset=1:=⟨_,_,Tryd.underlying46,rfl,rfl,rfl,rfl⟩
theorem Zyp:∃ f0 f1 f2:Field,Tryd.prog.underlying 26=some (.struct #[f0,f1,f2])∧f0.type=23∧f0.offset=0∧f1.type=3∧f1.offset=1∧f2.type=24∧f2.offset=2:=⟨_,_,_,Tryd.underlying26,rfl,rfl,rfl,rfl,rfl,rfl⟩
section
variable {H:Type} {enc:TypeId × Value→H} {w:World} {base:Nat} {spare:Nat→Bool} {held:Bool}
end
end Go.Proofs.YtblihfpigjiahaaDoor
namespace Go.Proofs.YtblihfpigjiahaaDoor
open Go.RowKit Go.ChangeShapes Go.WideShapes Go.ChangeAt
def StW (s:St):Prop:=(∀ z∈s.out,(Lit.int .i64 z).wf=true)∧∀ b∈s.fibers,∀ x∈b.frames,(∀ z∈x.locals,(Lit.int .i64 z).wf=true)∧∀ z∈x.stack,(Lit.int .i64 z).wf=true
section
variable {H:Type} {enc:TypeId × Value→H} {w:World} {base:Nat} {spare:Nat→Bool} {held:Bool}
theorem Zgu {fuel:Nat} {v:Value} {x:DataW H × List MemPlace} (h:DataW.trod enc Tryd.prog w base spare held fuel 24 [v]=some x) (hw:∀ n,n∈x.1.weights Tryd.prog 24→n≤reachBytes):∃ l,Xm w v l∧∀ z∈l,(Lit.int .i64 z).wf=true:=by
 rcases Deep.open_slice Tryd.underlying24 h with ⟨e,_⟩ | ⟨a,len,cap,m,n,D,Pl,e,_,hlc,_,hm,hx,hi⟩
 ·simp at e
  subst e
  exact ⟨[],Xm.nil _,by simp⟩
 ·simp at e
  subst e
  have hlm:len≤m:=by rw [hm];split <;> omega
  have hlen:len*8≤140737488351232:=by
   have:=hw ((((List.range len).map D).length+((List.range (m - len)).map fun j=>D (len+j)).length)*Tryd.prog.bytesOf 3) (by rw [hx];simp [DataW.weights,Tryd.underlying24])
   rw [Zrr,Zcn] at this
   simp at this
   omega
  have hall:∀ i,i<len→∃ y:Int,w.cell? (a.add (i*1))=some (.int .i64 y)∧(Lit.int .i64 y).wf=true:=by
   intro i hil
   obtain ⟨cs',hc,ht⟩:=hi i (by omega)
   rw [Ul] at hc
   obtain ⟨_,hcl,hcell⟩:=World.cells?_some hc
   obtain ⟨k,e0,_,hkw⟩:=DataW.trod_int Tryd.underlying3 ht
   subst e0
   refine ⟨k,?_,hkw⟩
   have:=hcell 0 (by omega);rw [Deep.add_add] at this;simpa using this
  obtain ⟨g,hg⟩:=Deep.choose_lt hall
  refine ⟨(List.range len).map g,⟨some a,cap,by simp,by simp;omega,fun i y hy=>?_⟩,fun z hz=>?_⟩
  rotate_left
  ·obtain ⟨j,hj,rfl⟩:=List.mem_map.1 hz
   exact (hg j (by simpa using hj)).2
  rw [List.getElem?_map,Option.map_eq_some_iff] at hy
  obtain ⟨j,hj,rfl⟩:=hy
  have hjl:i<len:=by simpa using (List.getElem?_eq_some_iff.1 hj).1
  obtain rfl:i=j:=by simpa [hjl] using hj
  have hs:a.spot=none:=by
   have:=(hg 0 (by omega)).1
   exact Zcd (by simpa [Addr.add] using this)
  refine ⟨a.block,a.off,by cases a;simp_all,?_⟩
  have:=(hg i hjl).1;rwa [Um hs,Nat.mul_one] at this
theorem Zsx {fuel:Nat} {v:Value} {x:DataW H × List MemPlace} (h:DataW.trod enc Tryd.prog w base spare held fuel 44 [v]=some x) (hw:∀ n,n∈x.1.weights Tryd.prog 44→n≤reachBytes):∃ l,Yo w v l∧∀ x∈l,(∀ z∈x.locals,(Lit.int .i64 z).wf=true)∧∀ z∈x.stack,(Lit.int .i64 z).wf=true:=by
 rcases Deep.open_slice Tryd.underlying44 h with ⟨e,_⟩ | ⟨a,len,cap,m,n,D,Pl,e,_,hlc,_,hm,hx,hi⟩
 ·simp at e
  subst e
  exact ⟨[],Yo.nil _,by simp⟩
 ·simp at e
  subst e
  have hlm:len≤m:=by rw [hm];split <;> omega
  have hlen:len*64≤140737488351232:=by
   have:=hw ((((List.range len).map D).length+((List.range (m - len)).map fun j=>D (len+j)).length)*Tryd.prog.bytesOf 53) (by rw [hx];simp [DataW.weights,Tryd.underlying44])
   rw [Zxe,Zcn] at this
   simp at this
   omega
  have hall:∀ i,i<len→∃ y:Fr × Value × Value,w.cell? (a.add (i*4))=some (.int .i64 y.1.fn)∧w.cell? (a.add (i*4+1))=some (.int .i64 y.1.at_)∧w.cell? (a.add (i*4+2))=some y.2.1∧w.cell? (a.add (i*4+3))=some y.2.2∧Xm w y.2.1 y.1.locals∧Xm w y.2.2 y.1.stack∧(∀ z∈y.1.locals,(Lit.int .i64 z).wf=true)∧∀ z∈y.1.stack,(Lit.int .i64 z).wf=true:=by
   intro i hil
   obtain ⟨cs',hc,ht⟩:=hi i (by omega)
   rw [Zxb] at hc
   obtain ⟨_,hcl,hcell⟩:=World.cells?_some hc
   obtain ⟨f0,f1,f2,f3,hu,t0,o0,t1,o1,t2,o2,t3,o3⟩:=Zyy
   obtain ⟨y0,y1,y2,y3,n',hy,_,g0,g1,g2,g3⟩:=Joins.trod_struct4 hu ht
   rw [t0,o0,Ul] at g0
   rw [t1,o1,Ul] at g1
   rw [t2,o2,Zgs] at g2
   rw [t3,o3,Zgs] at g3
   obtain ⟨fn,e0,r0,_⟩:=DataW.trod_int Tryd.underlying3 g0
   obtain ⟨at_,e1,r1,_⟩:=DataW.trod_int Tryd.underlying3 g1
   match cs',hcl with
   | [c0,c1,c2,c3],_ =>
    simp at e0 e1
    subst e0 e1
    simp only [List.drop,List.take] at g2 g3
    have hD:D i=.agg [y0.1,y1.1,y2.1,y3.1]:=congrArg Prod.fst hy
    have hmem:∀ q,(q∈y2.1.weights Tryd.prog 24∨q∈y3.1.weights Tryd.prog 24)→q≤reachBytes:=fun q hq=>hw q (by
     rw [hx]
     simp only [DataW.weights,Tryd.underlying44,List.mem_cons,List.mem_append]
     refine Or.inr (Or.inl (Zfe (d:=D i) (List.mem_map.2 ⟨i,by simpa using hil,rfl⟩) q ?_))
     rw [hD]
     simp only [DataW.weights,hu,DataW.weightsEach,List.map_cons,List.map_nil,t0,t1,t2,t3,List.mem_append]
     rcases hq with hq | hq
     ·exact Or.inr (Or.inr (Or.inl hq))
     ·exact Or.inr (Or.inr (Or.inr (Or.inl hq))))
    obtain ⟨l2,h2,w2⟩:=Zgu g2 (fun q hq=>hmem q (.inl hq))
    obtain ⟨l3,h3,w3⟩:=Zgu g3 (fun q hq=>hmem q (.inr hq))
    refine ⟨(⟨fn,at_,l2,l3⟩,c2,c3),?_,?_,?_,?_,h2,h3,w2,w3⟩
    ·have:=hcell 0 (by omega);rw [Deep.add_add] at this;simpa using this
    ·have:=hcell 1 (by omega);rw [Deep.add_add] at this;simpa using this
    ·have:=hcell 2 (by omega);rw [Deep.add_add] at this;simpa using this
    ·have:=hcell 3 (by omega);rw [Deep.add_add] at this;simpa using this
  have:Inhabited (Fr × Value × Value):=⟨(Fr.zero,.nilIface,.nilIface)⟩
  obtain ⟨g,hg⟩:=Deep.choose_lt hall
  refine ⟨(List.range len).map fun i=>(g i).1,⟨some a,cap,by simp,⟨by simp;omega,by simpa using hlc⟩,fun i y hy=>?_⟩,fun z hz=>?_⟩
  rotate_left
  ·obtain ⟨j,hj,rfl⟩:=List.mem_map.1 hz
   exact (hg j (by simpa using hj)).2.2.2.2.2.2
  rw [List.getElem?_map,Option.map_eq_some_iff] at hy
  obtain ⟨j,hj,rfl⟩:=hy
  have hjl:i<len:=by simpa using (List.getElem?_eq_some_iff.1 hj).1
  obtain rfl:i=j:=by simpa [hjl] using hj
  have hs:a.spot=none:=by
   have:=(hg 0 (by omega)).1
   simp only [Nat.zero_mul] at this
   exact Zcd (by simpa [Addr.add] using this)
  obtain ⟨k0,k1,k2,k3,k4,k5,_⟩:=hg i hjl
  refine ⟨a.block,a.off,(g i).2.1,(g i).2.2,by cases a;simp_all,?_,?_,?_,?_,k4,k5⟩
  ·rwa [Um hs] at k0
  ·rwa [Um hs,← Nat.add_assoc] at k1
  ·rwa [Um hs,← Nat.add_assoc] at k2
  ·rwa [Um hs,← Nat.add_assoc] at k3
theorem Zsp {fuel:Nat} {v:Value} {x:DataW H × List MemPlace} (h:DataW.trod enc Tryd.prog w base spare held fuel 23 [v]=some x) (hw:∀ n,n∈x.1.weights Tryd.prog 23→n≤reachBytes):∃ l,Wo w v l∧∀ b∈l,∀ x∈b.frames,(∀ z∈x.locals,(Lit.int .i64 z).wf=true)∧∀ z∈x.stack,(Lit.int .i64 z).wf=true:=by
 rcases Deep.open_slice Tryd.underlying23 h with ⟨e,_⟩ | ⟨a,len,cap,m,n,D,Pl,e,_,hlc,_,hm,hx,hi⟩
 ·simp at e
  subst e
  exact ⟨[],Wo.nil _,by simp⟩
 ·simp at e
  subst e
  have hlm:len≤m:=by rw [hm];split <;> omega
  have hlen:len*32≤140737488351232:=by
   have:=hw ((((List.range len).map D).length+((List.range (m - len)).map fun j=>D (len+j)).length)*Tryd.prog.bytesOf 46) (by rw [hx];simp [DataW.weights,Tryd.underlying23])
   rw [Znm,Zcn] at this
   simp at this
   omega
  have hall:∀ i,i<len→∃ y:Fb × Value,w.cell? (a.add (i*2))=some y.2∧w.cell? (a.add (i*2+1))=some (.int .i64 y.1.caller)∧Yo w y.2 y.1.frames∧∀ x∈y.1.frames,(∀ z∈x.locals,(Lit.int .i64 z).wf=true)∧∀ z∈x.stack,(Lit.int .i64 z).wf=true:=by
   intro i hil
   obtain ⟨cs',hc,ht⟩:=hi i (by omega)
   rw [Zyd] at hc
   obtain ⟨_,hcl,hcell⟩:=World.cells?_some hc
   obtain ⟨f0,f1,hu,t0,o0,t1,o1⟩:=Zrf
   obtain ⟨y0,y1,n',hy,_,g0,g1⟩:=trod_struct2 hu ht
   rw [t0,o0,Znz] at g0
   rw [t1,o1,Ul] at g1
   obtain ⟨ca,e1,r1,_⟩:=DataW.trod_int Tryd.underlying3 g1
   match cs',hcl with
   | [c0,c1],_ =>
    simp at e1
    subst e1
    simp only [List.drop,List.take] at g0
    have hD:D i=.agg [y0.1,y1.1]:=congrArg Prod.fst hy
    obtain ⟨l0,h0,w0⟩:=Zsx g0 (fun q hq=>hw q (by
     rw [hx]
     simp only [DataW.weights,Tryd.underlying23,List.mem_cons,List.mem_append]
     refine Or.inr (Or.inl (Zfe (d:=D i) (List.mem_map.2 ⟨i,by simpa using hil,rfl⟩) q ?_))
     rw [hD]
     simp only [DataW.weights,hu,DataW.weightsEach,List.map_cons,List.map_nil,t0,t1,List.mem_append]
     exact Or.inl hq))
    refine ⟨(⟨l0,ca⟩,c0),?_,?_,h0,w0⟩
    ·have:=hcell 0 (by omega);rw [Deep.add_add] at this;simpa using this
    ·have:=hcell 1 (by omega);rw [Deep.add_add] at this;simpa using this
  have:Inhabited (Fb × Value):=⟨(Fb.zero,.nilIface)⟩
  obtain ⟨g,hg⟩:=Deep.choose_lt hall
  refine ⟨(List.range len).map fun i=>(g i).1,⟨some a,cap,by simp,by simp;omega,fun i y hy=>?_⟩,fun z hz=>?_⟩
  rotate_left
  ·obtain ⟨j,hj,rfl⟩:=List.mem_map.1 hz
   exact (hg j (by simpa using hj)).2.2.2
  rw [List.getElem?_map,Option.map_eq_some_iff] at hy
  obtain ⟨j,hj,rfl⟩:=hy
  have hjl:i<len:=by simpa using (List.getElem?_eq_some_iff.1 hj).1
  obtain rfl:i=j:=by simpa [hjl] using hj
  have hs:a.spot=none:=by
   have:=(hg 0 (by omega)).1
   simp only [Nat.zero_mul] at this
   exact Zcd (by simpa [Addr.add] using this)
  obtain ⟨k0,k1,k2,_⟩:=hg i hjl
  refine ⟨a.block,a.off,(g i).2,by cases a;simp_all,?_,?_,k2⟩
  ·rwa [Um hs] at k0
  ·rwa [Um hs,← Nat.add_assoc] at k1
theorem Zuu {fuel:Nat} {cs:List Value} {x:DataW H × List MemPlace} (h:DataW.trod enc Tryd.prog w base spare held fuel 26 cs=some x) (hw:∀ n,n∈x.1.weights Tryd.prog 26→n≤reachBytes):∃ s,Xj w (.agg cs.toArray) s∧StW s:=by
 obtain ⟨f0,f1,f2,hu,t0,o0,t1,o1,t2,o2⟩:=Zyp
 obtain ⟨y0,y1,y2,n',hy,hl,g0,g1,g2⟩:=Deep.trod_struct3 hu h
 rw [t0,o0,Zyg] at g0
 rw [t1,o1,Ul] at g1
 rw [t2,o2,Zgs] at g2
 obtain ⟨nw,e1,r1,_⟩:=DataW.trod_int Tryd.underlying3 g1
 rw [Zxd] at hl
 match cs,hl with
 | [c0,c1,c2],_ =>
  simp at e1
  subst e1
  simp only [List.drop,List.take] at g0 g2
  have hD:x.1=.agg [y0.1,y1.1,y2.1]:=congrArg Prod.fst hy
  have hmem:∀ q,(q∈y0.1.weights Tryd.prog 23∨q∈y2.1.weights Tryd.prog 24)→q≤reachBytes:=fun q hq=>hw q (by
   rw [hD]
   simp only [DataW.weights,hu,DataW.weightsEach,List.map_cons,List.map_nil,t0,t1,t2,List.mem_append]
   rcases hq with hq | hq
   ·exact Or.inl hq
   ·exact Or.inr (Or.inr (Or.inl hq)))
  obtain ⟨lf,h0,w0⟩:=Zsp g0 (fun q hq=>hmem q (.inl hq))
  obtain ⟨lo,h2,w2⟩:=Zgu g2 (fun q hq=>hmem q (.inr hq))
  exact ⟨⟨lf,nw,lo⟩,⟨c0,c2,rfl,h0,h2⟩,w2,w0⟩
end
end Go.Proofs.YtblihfpigjiahaaDoor
namespace Go.Proofs.YtblihfpigjiahaaDoor
open Go.RowKit
theorem Zsu {w:World} {oa oo:Option Addr} {n cap m co:Nat} {c:Int} {s:St} (h:Xj w (.agg #[.slice oa n cap,.int .i64 c,.slice oo m co]) s):c=s.now∧n=s.fibers.length∧m=s.out.length:=by
 obtain ⟨vf,vo,e,⟨oa',cap',e1,_,_⟩,⟨oo',co',e2,_,_⟩⟩:=h
 subst e1 e2
 simp only [Value.agg.injEq,Array.mk.injEq,List.cons.injEq,Value.slice.injEq,Value.int.injEq,and_true,true_and] at e
 obtain ⟨⟨_,e1,_⟩,e2,_,e3,_⟩:=e
 exact ⟨e2,e1,e3⟩
theorem Zhv {w:World} {v:Value} {s:St} (h:Xj w v s):∃ oa n cap c oo m co,v=.agg #[.slice oa n cap,.int .i64 c,.slice oo m co]:=by
 obtain ⟨vf,vo,rfl,⟨oa,cap,rfl,_,_⟩,⟨oo,co,rfl,_,_⟩⟩:=h
 exact ⟨_,_,_,_,_,_,_,rfl⟩
def Jg (f:FuncId) (args:Array Value) (u:World) (s:St) (more:List Value):Prop :=
 Calls Tryd.prog f args u fun e w'=>∃ oa n cap c oo m co,e=.returned (.tuple (#[.agg #[.slice oa n cap,.int .i64 c,.slice oo m co]]++more.toArray))∧Xj w' (.agg #[.slice oa n cap,.int .i64 c,.slice oo m co]) s∧Za u w'
theorem Pc {w u:World} (hk:Za w u) (c:Array Value) (t:TypeId):Za w (u.alloc (.cells c t))∧(u.alloc (.cells c t)).heap[u.heap.size]?=some (.cells c t):=⟨hk.alloc _,Zj rfl⟩
theorem Zbv {w:World} {b:Nat} {c:Array Value} {t:TypeId} {fr:Nat × Nat} (h:w.heap[b]?=some (.cells c t fr)) (i:Nat):∀ o,(w.alloc o).cell? ⟨b,i,none⟩=c[i]?:=fun o=>Zd (Zr h o) i
def Zc (s:St) (i:Nat):Fb:=s.fibers.getD i Fb.zero
def Ze (s:St) (i j:Nat):Fr:=(Zc s i).frames.getD j Fr.zero
theorem Zkj {α:Type} (l:List α) (i:Nat) (x d:α) (h:i<l.length):(l.set i x).getD i d=x:=by simp [List.getD,h]
theorem Zjj {α:Type} (l:List α) (i j:Nat) (x d:α) (h:i≠j):(l.set i x).getD j d=l.getD j d:=by simp [List.getD,h]
def Zg (s:St) (i:Nat) (b:Fb):St:={ s with fibers:=s.fibers.set i b }
theorem Qa {s:St} {i:Nat} (b:Fb) (h:i<s.fibers.length):Zc (Zg s i b) i=b:=Zkj _ _ _ _ h
theorem Qs {s:St} {i j:Nat} (b:Fb) (h:i≠j):Zc (Zg s i b) j=Zc s j:=Zjj _ _ _ _ _ h
theorem Xb (s:St) (i:Nat) (b:Fb):(Zg s i b).fibers.length=s.fibers.length:=by simp [Zg]
def Qo (s:St) (i j:Nat) (f:Fr):St:=Zg s i { Zc s i with frames:=(Zc s i).frames.set j f }
theorem Wz {s:St} {i j:Nat} (f:Fr) (hi:i<s.fibers.length) (hj:j<(Zc s i).frames.length):Ze (Qo s i j f) i j=f:=by
 unfold Ze Qo;rw [Qa _ hi];exact Zkj _ _ _ _ hj
theorem Pa {s:St} {i j i' j':Nat} (f:Fr) (hi:i<s.fibers.length) (h:¬ (i=i'∧j=j')):Ze (Qo s i j f) i' j'=Ze s i' j':=by
 unfold Ze Qo
 by_cases e:i=i'
 ·subst e
  rw [Qa _ hi]
  exact Zjj _ _ _ _ _ (fun e=>h ⟨rfl,e⟩)
 ·rw [Qs _ e]
theorem Ut {s:St} {i j:Nat} (f:Fr) (hi:i<s.fibers.length) (t:Nat):(Zc (Qo s i j f) t).frames.length=(Zc s t).frames.length:=by
 unfold Qo
 by_cases e:i=t
 ·subst e;rw [Qa _ hi];simp
 ·rw [Qs _ e]
theorem Zbf {s:St} {i j:Nat} (f:Fr) (hi:i<s.fibers.length) (t:Nat):(Zc (Qo s i j f) t).caller=(Zc s t).caller:=by
 unfold Qo
 by_cases e:i=t
 ·subst e;rw [Qa _ hi]
 ·rw [Qs _ e]
def Yc (s:St):Prop:=s.fibers.length≤1000∧s.out.length≤1000∧∀ b,b∈s.fibers→b.frames.length≤1000∧∀ f,f∈b.frames→f.locals.length≤1000∧f.stack.length≤1000
theorem Zoy {l1 l2:List Int} (hl:l1.length=l2.length) (h:∀ i,i<l1.length→l1.getD i 0=l2.getD i 0):l1=l2:=by
 apply List.ext_getElem hl
 intro k h1 h2
 have:=h k h1
 simpa [List.getD,h1,h2] using this
theorem Xj.zero (w:World):Xj w (.agg #[.slice none 0 0,.int .i64 0,.slice none 0 0]) St.zero:=⟨_,_,rfl,Wo.nil w,Xm.nil w⟩
def ints (l:List Int):List Value:=l.map fun z=>Value.int .i64 z
theorem Zbo (l:List Int):(ints l).length=l.length:=by simp [ints]
theorem Zev (l r:List Int):ints (l++r)=ints l++ints r:=by simp [ints]
abbrev Key:=Option (Option (Nat ⊕ (Nat × Nat) ⊕ (Nat × Nat)))
abbrev Key.fibers:Key:=none
abbrev Key.out:Key:=some none
abbrev Key.frames (i:Nat):Key:=some (some (.inl i))
abbrev Key.locals (i j:Nat):Key:=some (some (.inr (.inl (i,j))))
abbrev Key.stack (i j:Nat):Key:=some (some (.inr (.inr (i,j))))
theorem Key.by {motive:Key→Prop} (fibers:motive .fibers) (out:motive .out) (frames:∀ i,motive (.frames i)) (locals:∀ i j,motive (.locals i j)) (stack:∀ i j,motive (.stack i j)):∀ k,motive k
 | none=>fibers
 | some none=>out
 | some (some (.inl i))=>frames i
 | some (some (.inr (.inl (i,j))))=>locals i j
 | some (some (.inr (.inr (i,j))))=>stack i j
def live (s:St):Key→Prop
 | none=>True
 | some none=>True
 | some (some (.inl i))=>i<s.fibers.length
 | some (some (.inr (.inl (i,j))))=>i<s.fibers.length∧j<(Zc s i).frames.length
 | some (some (.inr (.inr (i,j))))=>i<s.fibers.length∧j<(Zc s i).frames.length
def upd (V:Key→Value) (k:Key) (v:Value):Key→Value:=fun k'=>if k'=k then v else V k'
theorem Qd (V:Key→Value) (k:Key) (v:Value):upd V k v k=v:=if_pos rfl
theorem Zn (V:Key→Value) {k k':Key} (v:Value) (h:k'≠k):upd V k v k'=V k':=if_neg h
def Xp (base:Nat) (w:World) (V:Key→Value) (s:St):Key→Prop
 | none=>∃ xs,w.ownsRow base 46 2 (V .fibers) s.fibers.length xs∧∀ i,i<s.fibers.length→xs[i*2]?=some (V (.frames i))∧xs[i*2+1]?=some (.int .i64 (Zc s i).caller)
 | some none=>w.ownsRow base 3 1 (V .out) s.out.length (ints s.out)
 | some (some (.inl i))=>∃ xs,w.ownsRow base 53 4 (V (.frames i)) (Zc s i).frames.length xs∧∀ j,j<(Zc s i).frames.length →
   xs[j*4]?=some (.int .i64 (Ze s i j).fn)∧xs[j*4+1]?=some (.int .i64 (Ze s i j).at_)∧xs[j*4+2]?=some (V (.locals i j))∧xs[j*4+3]?=some (V (.stack i j))
 | some (some (.inr (.inl (i,j))))=>w.ownsRow base 3 1 (V (.locals i j)) (Ze s i j).locals.length (ints (Ze s i j).locals)
 | some (some (.inr (.inr (i,j))))=>w.ownsRow base 3 1 (V (.stack i j)) (Ze s i j).stack.length (ints (Ze s i j).stack)
structure Own (base:Nat) (w:World) (V:Key→Value) (s:St):Prop where
 piece:∀ k,live s k→Xp base w V s k
 apart:∀ k k' g,live s k→live s k'→(V k).ownBlock=some g→(V k').ownBlock=some g→k=k'
theorem Jz {w w':World} {base:Nat} {e:TypeId} {size:Nat} {v:Value} {n:Nat} {xs:List Value} (h:w.ownsRow base e size v n xs) (hs:∀ g,v.ownBlock=some g→w'.heap[g]?=w.heap[g]?):w'.ownsRow base e size v n xs:=by
 refine ⟨h.1,?_⟩
 rcases h.2 with hn | ⟨g,cap,cur,rfl,hb,hgg,rest⟩
 ·exact .inl hn
 ·exact .inr ⟨g,cap,cur,rfl,hb,by rw [hs g rfl];exact hgg,rest⟩
theorem Xp.same {base:Nat} {w w':World} {V:Key→Value} {s:St} {k:Key} (h:Xp base w V s k) (hs:∀ g,(V k).ownBlock=some g→w'.heap[g]?=w.heap[g]?):Xp base w' V s k:=by
 cases k using Key.by with
 | fibers=>obtain ⟨xs,h1,h2⟩:=h;exact ⟨xs,Jz h1 hs,h2⟩
 | out=>exact Jz h hs
 | frames i=>obtain ⟨xs,h1,h2⟩:=h;exact ⟨xs,Jz h1 hs,h2⟩
 | locals i j=>exact Jz h hs
 | stack i j=>exact Jz h hs
theorem Xp.block {base:Nat} {w:World} {V:Key→Value} {s:St} {k:Key} (h:Xp base w V s k):∀ g,(V k).ownBlock=some g→base≤g∧g<w.heap.size:=by
 cases k using Key.by with
 | fibers=>obtain ⟨xs,h1,h2⟩:=h;exact h1.lt
 | out=>exact World.ownsRow.lt h
 | frames i=>obtain ⟨xs,h1,h2⟩:=h;exact h1.lt
 | locals i j=>exact World.ownsRow.lt h
 | stack i j=>exact World.ownsRow.lt h
def Own.off (V:Key→Value) (s:St) (g:Nat):Prop:=∀ k,live s k→(V k).ownBlock≠some g
theorem Own.same {base:Nat} {w w':World} {V:Key→Value} {s:St} (h:Own base w V s) (hs:∀ k g,live s k→(V k).ownBlock=some g→w'.heap[g]?=w.heap[g]?):Own base w' V s :=
 ⟨fun k hk=>(h.piece k hk).same (fun g hg=>hs k g hk hg),h.apart⟩
theorem Own.new_off {base:Nat} {w:World} {V:Key→Value} {s:St} (h:Own base w V s) {g:Nat} (hg:w.heap.size≤g∨g<base):Own.off V s g:=fun k hk e=>by
 have:=(h.piece k hk).block g e
 omega
theorem Own.alloc {base:Nat} {w:World} {V:Key→Value} {s:St} (h:Own base w V s) (o:Obj):Own base (w.alloc o) V s :=
 h.same fun k g hk hg=>Below.heap_alloc w o g ((h.piece k hk).block g hg).2
theorem Own.drew {base:Nat} {w:World} {V:Key→Value} {s:St} (h:Own base w V s):Own base w.drew V s:=h.same fun _ _ _ _=>rfl
theorem Own.setOff {base:Nat} {w:World} {V:Key→Value} {s:St} (h:Own base w V s) {a:Addr} (ha:Own.off V s a.block) (u:Value):Own base (w.setCell a u) V s :=
 h.same fun k g hk hg=>Below.heap_setCell w a u g (fun e=>ha k hk (by rw [hg,e]))
theorem Own.now {base:Nat} {w:World} {V:Key→Value} {s:St} (h:Own base w V s) (n:Int):Own base w V { s with now:=n } :=
 ⟨fun k hk=>by
  have:=h.piece k (by cases k using Key.by <;> exact hk)
  cases k using Key.by <;> exact this,fun k k' g hk hk'=>h.apart k k' g (by cases k using Key.by <;> exact hk) (by cases k' using Key.by <;> exact hk')⟩
theorem Own.turned {base:Nat} {w w':World} {V V':Key→Value} {s s':St} (h:Own base w V s)
  (hp:∀ k,live s' k→Xp base w' V' s' k∨(live s k∧V' k=V k∧(Xp base w' V s k→Xp base w' V' s' k)∧∀ g,(V k).ownBlock=some g→w'.heap[g]?=w.heap[g]?))
  (hb:∀ k g,live s' k→(V' k).ownBlock=some g→(live s k∧(V k).ownBlock=some g)∨Own.off V s g)
  (hn:∀ k k' g,live s' k→live s' k'→Own.off V s g→(V' k).ownBlock=some g→(V' k').ownBlock=some g→k=k'):Own base w' V' s':=by
 refine ⟨fun k hk=>?_,fun k k' g hk hk' e e'=>?_⟩
 ·rcases hp k hk with h1 | ⟨h1,h2,h3,h4⟩
  ·exact h1
  ·exact h3 ((h.piece k h1).same h4)
 ·rcases hb k g hk e with ⟨h1,h2⟩ | h1
  ·rcases hb k' g hk' e' with ⟨h3,h4⟩ | h3
   ·exact h.apart k k' g h1 h3 h2 h4
   ·exact absurd h2 (h3 k h1)
  ·exact hn k k' g hk hk' h1 e e'
theorem Own.setCaller {base:Nat} {w:World} {V:Key→Value} {s:St} (h:Own base w V s) {i g cap:Nat} (hi:i<s.fibers.length) (hV:V .fibers=.slice (some ⟨g,0,none⟩) s.fibers.length cap) (c:Int) :
  Own base (w.setCell ⟨g,i*2+1,none⟩ (.int .i64 c)) V (Zg s i { Zc s i with caller:=c }):=by
 have hlen:=Xb s i { Zc s i with caller:=c }
 have hfr:∀ j,(Zc (Zg s i { Zc s i with caller:=c }) j).frames=(Zc s j).frames:=fun j=>by
  by_cases e:i=j
  ·subst e;rw [Qa _ hi]
  ·rw [Qs _ e]
 have hfa:∀ j t,Ze (Zg s i { Zc s i with caller:=c }) j t=Ze s j t:=fun j t=>by unfold Ze;rw [hfr]
 have hlv:∀ k,live (Zg s i { Zc s i with caller:=c }) k↔live s k:=by
  intro k;cases k using Key.by <;> simp only [live,hlen,hfr]
 refine h.turned (fun k hk=>?_) (fun k g' hk e=>.inl ⟨(hlv k).1 hk,e⟩) (fun k k' g' hk _ ho e _=>absurd e (ho k ((hlv k).1 hk)))
 by_cases hkf:k=.fibers
 ·subst hkf
  left
  obtain ⟨xs,h1,h2⟩:=h.piece .fibers trivial
  rw [hV] at h1
  refine ⟨xs.set (i*2+1) (.int .i64 c),?_,fun j hj=>?_⟩
  ·rw [hV,hlen];exact (h1.stored _ _).1
  ·rw [hlen] at hj
   obtain ⟨h3,h4⟩:=h2 j hj
   have hx:i*2+1<xs.length:=by rw [h1.1];omega
   refine ⟨by rw [List.getElem?_set,if_neg (by omega)];exact h3,?_⟩
   by_cases e:i=j
   ·subst e;rw [List.getElem?_set,if_pos rfl,if_pos hx,Qa _ hi]
   ·rw [List.getElem?_set,if_neg (by omega),Qs _ e];exact h4
 ·right
  have hlk:=(hlv k).1 hk
  refine ⟨hlk,rfl,fun hp=>?_,fun g' e=>Below.heap_setCell w _ _ g' ?_⟩
  ·cases k using Key.by with
   | fibers=>exact absurd rfl hkf
   | out=>exact hp
   | frames j =>
    obtain ⟨xs,h1,h2⟩:=hp
    exact ⟨xs,by rw [hfr];exact h1,fun t ht=>by rw [hfr] at ht;rw [hfa];exact h2 t ht⟩
   | locals j t=>simp only [Xp,hfa] at hp ⊢;exact hp
   | stack j t=>simp only [Xp,hfa] at hp ⊢;exact hp
  ·rintro rfl
   exact hkf (h.apart k .fibers _ hlk trivial e (by rw [hV];rfl))
theorem Yu {s:St} {i j:Nat} (f:Fr) (hi:i<s.fibers.length) (k:Key):live (Qo s i j f) k↔live s k:=by
 have hlen:(Qo s i j f).fibers.length=s.fibers.length:=Xb _ _ _
 cases k using Key.by <;> simp only [live,hlen,Ut f hi]
theorem Own.turnFrame {base:Nat} {w w1:World} {V:Key→Value} {s:St} (h:Own base w V s) {i j g cap:Nat} (hi:i<s.fibers.length) (hj:j<(Zc s i).frames.length)
  (hV:V (.frames i)=.slice (some ⟨g,0,none⟩) (Zc s i).frames.length cap) (vs:Value) (f:Fr) (u:Nat) (x:Value)
  (hu:u<4) (hgrow:∀ b,b<w.heap.size→(V (.stack i j)).ownBlock≠some b→w1.heap[b]?=w.heap[b]?) (hown:w1.ownsRow base 3 1 vs f.stack.length (ints f.stack))
  (hat:vs.ownBlock=(V (.stack i j)).ownBlock∨vs.ownBlock=some w.heap.size) (hloc:f.locals=(Ze s i j).locals)
  (h0:(Value.int .i64 f.fn)=if u=0 then x else .int .i64 (Ze s i j).fn) (h1:(Value.int .i64 f.at_)=if u=1 then x else .int .i64 (Ze s i j).at_) (h2:V (.locals i j)=if u=2 then x else V (.locals i j)) (h3:vs=if u=3 then x else V (.stack i j)) :
  Own base (w1.setCell ⟨g,j*4+u,none⟩ x) (upd V (.stack i j) vs) (Qo s i j f):=by
 have hgb:(V (.frames i)).ownBlock=some g:=by rw [hV];rfl
 have hlvF:live s (.frames i):=hi
 have hlvS:live s (.stack i j):=⟨hi,hj⟩
 have hgs:(V (.stack i j)).ownBlock≠some g:=fun e=>by have:=h.apart _ _ _ hlvS hlvF e hgb;cases this
 have hgw:g<w.heap.size:=((h.piece _ hlvF).block g hgb).2
 have hvs:vs.ownBlock≠some g:=by
  rcases hat with e | e
  ·rw [e];exact hgs
  ·rw [e];intro e';cases e';omega
 have hold:∀ k,live s k→k≠.frames i→k≠.stack i j→∀ b,(V k).ownBlock=some b→(w1.setCell ⟨g,j*4+u,none⟩ x).heap[b]?=w.heap[b]?:=by
  intro k hk hn1 hn2 b hb
  have hbw:=((h.piece k hk).block b hb).2
  rw [Below.heap_setCell _ _ _ _ (fun e=>hn1 (h.apart k _ b hk hlvF hb (by rw [hgb];exact congrArg some e.symm)))]
  exact hgrow b hbw (fun e=>hn2 (h.apart k _ b hk hlvS hb e))
 refine h.turned (fun k hk=>?_) (fun k b hk e=>?_) (fun k k' b hk hk' ho e e'=>?_)
 ·have hlk:=(Yu f hi k).1 hk
  by_cases hkS:k=.stack i j
  ·subst hkS
   left
   show World.ownsRow _ _ _ _ _ _ _
   rw [Wz f hi hj,Qd]
   exact ownsRow_setCell_other hown hvs _
  ·by_cases hkF:k=.frames i
   ·subst hkF
    left
    obtain ⟨xs,r1,r2⟩:=h.piece _ hlvF
    rw [hV] at r1
    have r1':w1.ownsRow base 53 4 (.slice (some ⟨g,0,none⟩) (Zc s i).frames.length cap) (Zc s i).frames.length xs:=Jz r1 (fun b e=>by
     cases e
     exact hgrow g hgw hgs)
    have hx:j*4+u<xs.length:=by rw [r1.1];omega
    refine ⟨xs.set (j*4+u) x,?_,fun t ht=>?_⟩
    ·rw [Ut f hi]
     rw [Zn V vs hkS,hV]
     exact (r1'.stored _ _).1
    ·rw [Ut f hi] at ht
     obtain ⟨q0,q1,q2,q3⟩:=r2 t ht
     by_cases e:j=t
     ·subst e
      rw [Wz f hi hj]
      refine ⟨?_,?_,?_,?_⟩
      ·rw [h0,List.getElem?_set]
       by_cases e:u=0
       ·subst e;simp;omega
       ·rw [if_neg (by omega),if_neg e];exact q0
      ·rw [h1,List.getElem?_set]
       by_cases e:u=1
       ·subst e;simp;omega
       ·rw [if_neg (by omega),if_neg e];exact q1
      ·rw [Zn V vs (by simp),h2,List.getElem?_set]
       by_cases e:u=2
       ·subst e;simp;omega
       ·rw [if_neg (by omega),if_neg e];exact q2
      ·rw [Qd,h3,List.getElem?_set]
       by_cases e:u=3
       ·subst e;simp;omega
       ·rw [if_neg (by omega),if_neg e];exact q3
     ·rw [Pa f hi (fun h=>e h.2)]
      rw [Zn V vs (by simp),Zn V vs (by simp;intro h;exact e h.symm)]
      refine ⟨?_,?_,?_,?_⟩ <;> rw [List.getElem?_set,if_neg (by omega)] <;> assumption
   ·right
    refine ⟨hlk,Zn V vs hkS,fun hp=>?_,hold k hlk hkF hkS⟩
    cases k using Key.by with
    | fibers =>
     obtain ⟨xs,r1,r2⟩:=hp
     refine ⟨xs,?_,fun t ht=>?_⟩
     ·rw [show (Qo s i j f).fibers.length=s.fibers.length from Xb _ _ _,Zn V vs (by simp)]
      exact r1
     ·rw [show (Qo s i j f).fibers.length=s.fibers.length from Xb _ _ _] at ht
      rw [Zbf f hi,Zn V vs (by simp)]
      exact r2 t ht
    | out=>simp only [Xp] at hp ⊢;rw [Zn V vs (by simp)];exact hp
    | frames t =>
     have hne:i≠t:=fun e=>hkF (by rw [e])
     obtain ⟨xs,r1,r2⟩:=hp
     refine ⟨xs,by rw [Ut f hi,Zn V vs (by simp)];exact r1,fun q hq=>?_⟩
     rw [Ut f hi] at hq
     rw [Pa f hi (fun h=>hne h.1),Zn V vs (by simp),Zn V vs (by simp;intro h;exact absurd h.symm hne)]
     exact r2 q hq
    | locals t q =>
     simp only [Xp] at hp ⊢
     rw [Zn V vs (by simp)]
     by_cases e:i=t∧j=q
     ·obtain ⟨rfl,rfl⟩:=e
      rw [Wz f hi hj,hloc]
      exact hp
     ·rw [Pa f hi e];exact hp
    | stack t q =>
     simp only [Xp] at hp ⊢
     rw [Zn V vs hkS,Pa f hi (fun h=>hkS (by rw [h.1,h.2]))]
     exact hp
 ·have hlk:=(Yu f hi k).1 hk
  by_cases hkS:k=.stack i j
  ·subst hkS
   rw [Qd] at e
   rcases hat with e' | e'
   ·exact .inl ⟨hlk,by rw [← e',e]⟩
   ·rw [e] at e';cases e'
    exact .inr (h.new_off (.inl (Nat.le_refl _)))
  ·rw [Zn V vs hkS] at e
   exact .inl ⟨hlk,e⟩
 ·have hlk:=(Yu f hi k).1 hk
  have hlk':=(Yu f hi k').1 hk'
  by_cases hkS:k=.stack i j
  ·by_cases hkS':k'=.stack i j
   ·rw [hkS,hkS']
   ·rw [Zn V vs hkS'] at e'
    exact absurd e' (ho k' hlk')
  ·rw [Zn V vs hkS] at e
   exact absurd e (ho k hlk)
end Go.Proofs.YtblihfpigjiahaaDoor
