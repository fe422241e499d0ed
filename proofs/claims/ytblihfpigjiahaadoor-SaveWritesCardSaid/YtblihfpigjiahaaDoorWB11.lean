/- FlowF, FlowG, StateT, StateA, StateB, StateBw, Takes, TakesQ, OpAr, ProgS, ProgT, StateS -/
import Derived.Test.YtblihfpigjiahaaDoorWB10
import Derived.Test.YtblihfpigjiahaaDoorWB08
import Derived.Deep.DeepCutAuto
import Derived.Deep.RegionWith
import Derived.JoinedCond
import Derived.Test.YtblihfpigjiahaaDoorWB01
import Derived.Lib.SmallJoins
import Derived.Test.YtblihfpigjiahaaDoorChecked
import Derived.Deep.RegionHeld3
import Derived.Test.YtblihfpigjiahaaDoorWB09
set_option maxRecDepth 100000
set_option maxHeartbeats 8000000
namespace Go.Proofs.YtblihfpigjiahaaDoor
open Go.RowKit Go.Shelf
theorem Zjq (p:List Fn) (g:Fn) (oa:Option Addr) (lp cp:Nat) (oc:Option Addr) (lc cc B:Nat) (w0:World) (hlc:lc=g.code.length):∀ (n:Nat) (H:List Int) (at_:Nat) (h:Int) (w:World),
  ComeAt w0 w p g (.slice oa lp cp) (.slice oc lc cc) B H→0≤h→h≤8→unv H<n →
  Calls Tryd.prog 63 #[.agg #[.slice oa lp cp,.slice oc lc cc,.slice (some ⟨B,0,none⟩) lc lc],.int .i64 at_,.int .i64 h] w fun e w'=>Zee p g n H at_ h B w e w'
 | 0,H,at_,h,w,_,_,_,hu=>by omega
 | n+1,H,at_,h,w,hw,h0,h8,hu=>by
  by_cases h1:lc≤at_
  ·exact Zyc n p g oa oc lp cp lc cc B H at_ h w hw.hs hlc (by omega)
  ·by_cases h2:H.getD at_ 0=-1
   ·obtain ⟨x,hx⟩:∃ x,g.code[at_]?=some x:=⟨_,List.getElem?_eq_getElem (by omega)⟩
    obtain ⟨oa',cap',he,_,hcell⟩:=id hw.code
    obtain ⟨b',o',rfl,x0,x1⟩:=hcell at_ x hx
    obtain ⟨rfl,-,-⟩:=(by simpa using he:oc=some ⟨b',o',none⟩∧lc=g.code.length∧cc=cap')
    exact Zyh n p g oa b' o' lp cp lc cc B H at_ h x w0 w hw hlc (by omega) hx x0 x1 h2 h0 h8 hu (fun H' at' h' w' a b c d=>Zjq p g oa lp cp _ lc cc B w0 hlc n H' at' h' w' a b c d)
   ·exact Zzn n p g oa oc lp cp lc cc B H at_ h w hw.hs hlc hw.len (by omega) h2
def Qo (w:World) (v:Value) (l:List Int):Prop :=
 ∃ oa cap,v=.slice oa l.length cap∧l.length≤8796093022208∧∀ i z,l[i]?=some z→∃ b o,oa=some ⟨b,o,none⟩∧w.cell? ⟨b,o+i,none⟩=some (.int .i64 z)
theorem Qo.kept {w w':World} (h:Zb w w') {v:Value} {l:List Int} (hl:Qo w v l):Qo w' v l:=by
 obtain ⟨oa,cap,e,hn,hi⟩:=hl
 refine ⟨oa,cap,e,hn,fun i z hz=>?_⟩
 obtain ⟨b,o,e1,h1⟩:=hi i z hz
 exact ⟨b,o,e1,h.cell h1⟩
theorem Qo.nil (w:World):Qo w (.slice none 0 0) []:=⟨none,0,rfl,by simp,fun i z h=>by simp at h⟩
def Pn (p:List Fn) (f:Int):List Int × Int :=
 if Xv p f=0 then
  match Ql p (p.getD f.toNat Fn.zero).code with
  | some H=>(H,0)
  | none=>([],1)
 else ([],Xv p f)
def Zgc (p:List Fn) (f:Int) (w:World) (e:Ending) (w':World):Prop :=
 ∃ v,e=.returned (.tuple #[v,.int .i64 (Pn p f).2])∧Qo w' v (Pn p f).1∧Zb w w'
theorem Zvk (p:List Fn) (v:Value) (f:Int) (w:World) (hp:Zw w v p) (hk:Je w) (hz:Xv p f≠0) :
  Calls Tryd.prog 40 #[v,.int .i64 f] w fun e w'=>Zgc p f w e w':=by
 obtain ⟨oa,cap,rfl,_,_⟩:=id hp
 have hz':(Xv p f != 0)=true:=by rw [bne_iff_ne];exact hz
 have hr:Pn p f=([],Xv p f):=by unfold Pn;rw [if_neg hz]
 have HR:=Za hr
 have HP:=Za hp
 have HK:=Za hk
 clear hp hk hz hr
 go_enter Tryd.func40,Tryd.ntmps40
 go_wp2_with fail
 refine (Zid p _ f _ (un HP) (un HK)).mono ?_
 rintro e w1 ⟨rfl,hk1⟩
 have H1:=Za hk1
 clear hk1
 generalize hc:Xv p f=r at *
 have HC:=Za hc
 clear hc
 go_wp2
 go_ret2
 exact ⟨.slice none 0 0,by rw [un HR];rfl,by rw [un HR];exact Qo.nil _,un H1⟩
theorem Zaw:(Tryd.prog.info? 3).map (fun i=>(i.zero,i.size,i.bytes))=some (some (.int .i64 0),1,8):=by kernel_rfl
theorem Zxj (m:Nat):madeCells #[.int .i64 0] m=((List.replicate m (0:Int)).map (fun z=>Value.int .i64 z)).toArray:=by
 apply Array.ext
 ·simp [madeCells]
 ·intro i h1 h2
  simp [madeCells,Nat.mod_one]
theorem Zbf (m:Nat) (hm:m≤1000000) (u:World):(Instr.makeSlice 24 (.int .i64 m) (.int .i64 m)).run Tryd.prog u =
  .ok (.slice (some ⟨u.heap.size,0,none⟩) m m) (u.alloc (.cells ((List.replicate m (0:Int)).map (fun z=>Value.int .i64 z)).toArray 3)):=by
 obtain ⟨i0,hi,hz0,hz1,hz2⟩:=info_parts Zaw
 have h:=run_make (P:=Tryd.prog) u 24 3 i0 (.int .i64 0) Tryd.underlying24 hi hz0 .i64 .i64 (m:Int) (m:Int) (by omega) (Int.le_refl _) (by rw [hz2];omega) (by omega)
 rw [Int.toNat_natCast] at h
 rw [← Zxj]
 simpa [hz1,Value.cells] using h
theorem Zmv {k m:Nat} (h:k<m):(List.replicate k (-1:Int)++List.replicate (m - k) 0).set k (-1)=List.replicate (k+1) (-1)++List.replicate (m - (k+1)) 0:=by
 obtain ⟨d,rfl⟩:∃ d,m=k+1+d:=⟨m - (k+1),by omega⟩
 rw [List.set_append_right _ _ (by simp)]
 have e1:k+1+d - k=d+1:=by omega
 have e2:k+1+d - (k+1)=d:=by omega
 rw [e1,e2,List.replicate_succ]
 simp [List.replicate_succ',List.append_assoc]
theorem Zja {w:World} {B m:Nat} (h:w.heap[B]?=some (.cells (Array.replicate m (.int .i64 0)) 3)):Qe w B (List.replicate m 0):=by
 unfold Qe
 rw [h]
 simp
theorem Ztg (p:List Fn) (g:Fn) (i b o cap:Nat) (oc:Option Addr) (m cc:Nat) (w:World) (hk:Je w) (hp:Zw w (.slice (some ⟨b,o,none⟩) p.length cap) p) (hi:i<p.length) (hg:p.getD i Fn.zero=g)
  (c2:w.cell? ⟨b,o+i*3+2,none⟩=some (.slice oc m cc)) (hc:Wf w (.slice oc m cc) g.code) (hml:m=g.code.length) (hm:m≤24) (hz:Xv p i=0) (hops:Wn p g g.code=0) :
  Calls Tryd.prog 40 #[.slice (some ⟨b,o,none⟩) p.length cap,.int .i64 i] w fun e w'=>Zgc p i w e w':=by
 have HK:=Za hk
 have HP:=Za hp
 have HG:=Za hg
 have HC:=Za hc
 have HL:=Za hml
 have HZ:=Za hz
 have HO:=Za hops
 have C2:=Za c2
 clear hk hp hg hc hml hz hops c2
 go_enter Tryd.func40,Tryd.ntmps40
 go_wp2_with fail
 refine (Zpt p _ i 0 _ (un HP) (un HK) (un HZ)).mono ?_
 rintro e w1 ⟨rfl,hk1⟩
 have d2:=hk1.cell (un C2)
 have H1:=Za hk1
 clear hk1
 have d2':∀ o1,(w1.alloc o1).cell? ⟨b,o+i*3+2,none⟩=some (.slice oc m cc):=fun o1=>((Zb.refl w1).alloc o1).cell d2
 have d2'':∀ o1 o2,((w1.alloc o1).alloc o2).cell? ⟨b,o+i*3+2,none⟩=some (.slice oc m cc):=fun o1 o2=>(((Zb.refl w1).alloc o1).alloc o2).cell d2
 have hmk:=Zbf m (by omega)
 go_wp2_with fail
 go_cut [7] (fun s7 wx=>∃ B Bw,s7=.pointer (some ⟨Bw,0,none⟩)∧Hid (wx.heap[Bw]?=some (.cells #[.slice (some ⟨b,o,none⟩) p.length cap,.slice oc m cc,.slice (some ⟨B,0,none⟩) m m] 108))∧Hid (Qe wx B (List.replicate m 0))∧w1.heap.size≤B∧w1.heap.size≤Bw∧B≠Bw∧Hid (Zb w1 wx))
 case first =>
  go_region
  all_goals go_wp2_with fail
  all_goals go_meet
  ·exact ⟨w1.heap.size,w1.heap.size+1,rfl,Za (Xi (Zg (by simp))),Za (Zja (Xi (Zr (Zg rfl) _))),Nat.le_refl _,Nat.le_succ _,by omega,Za ((((Zb.refl _).alloc _).alloc _).drew)⟩
  ·exact ⟨w1.heap.size+1,w1.heap.size,rfl,Za (Xi (Zr (Zg rfl) _)),Za (Zja (Xi (Zg (by simp)))),Nat.le_succ _,Nat.le_refl _,by omega,Za ((((Zb.refl _).alloc _).alloc _).drew)⟩
 case rest =>
  obtain ⟨B,Bw,rfl,L0,HH0,hB,hBw,hne,HK1⟩:=hcut
  have e2:=Zd (un L0) 2
  simp only [List.getElem?_toArray,List.getElem?_cons_zero,List.getElem?_cons_succ] at e2
  clear d2 d2' d2'' hmk
  go_wp2
  go_loopw [32] (fun s32 wr=>∃ k:Nat,k≤m∧s32=.int .i64 k∧Hid (wr.heap[Bw]?=some (.cells #[.slice (some ⟨b,o,none⟩) p.length cap,.slice oc m cc,.slice (some ⟨B,0,none⟩) m m] 108))∧Hid (Qe wr B (List.replicate k (-1)++List.replicate (m - k) 0))∧Hid (Zb w1 wr)) (fun s32 _=>m - (intOf s32).toNat)
  case atStart=>exact ⟨0,Nat.zero_le _,rfl,L0,by simpa using HH0,HK1⟩
  case round =>
   obtain ⟨k,hkm,rfl,L0r,HHr,HKr⟩:=hrel
   have f0:=Zd (un L0r) 0
   have f1:=Zd (un L0r) 1
   have f2:=Zd (un L0r) 2
   simp only [List.getElem?_toArray,List.getElem?_cons_zero,List.getElem?_cons_succ] at f0 f1 f2
   by_cases hlt:k<m
   ·have q:=(un HHr).cell (k:=k) (by simp;omega)
    have q':=(un HHr).frozen k
    have hset:=(un HHr).set k (-1)
    rw [Zmv hlt] at hset
    have HSET:=Za hset
    generalize (List.replicate k (-1:Int)++List.replicate (m - k) 0).getD k 0=z at q
    clear hset
    go_wp2
    go_roundw
    case rel=>exact ⟨k+1,by omega,by go_num,Zz (un L0r) (fun e=>hne e.symm) _,un HSET,(un HKr).setCell (p:=⟨B,k,none⟩) hB _⟩
    case measure=>simp [intOf];omega
   ·have hke:k=m:=by omega
    have hst:List.replicate k (-1:Int)++List.replicate (m - k) 0=start g.code:=by
     have:=un HL
     rw [hke,Nat.sub_self]
     simp [start,this]
    have hHs:=un HHr
    rw [hst] at hHs
    have hu:=Zip (start g.code)
    rw [show (start g.code).length=g.code.length by simp [start]] at hu
    have hright:∀ x,x∈g.code→opS p g x=0:=fun x hx=>Zcn (un HO) x hx
    have hcm:=Zjq p g (some ⟨b,o,none⟩) p.length cap oc m cc B w1 (un HL) (g.code.length+1) (start g.code) 0 0 wr ⟨(un HP).kept (un H1),(un HC).kept (un H1),(un HK).kept (un H1),hright,by have:=un HL;omega,un HKr,hB,hHs,by simp [start]⟩ (by omega) (by omega) (by omega)
    have HCM:=Za hcm
    have HRT:=Za hright
    clear hcm hright hu hHs hst hke
    go_wp2_with fail
    refine (un HCM).mono ?_
    clear HCM
    rintro e w2 ⟨bb,H2,hc2,rfl,hH2,hk2⟩
    have hgt:Pn p i=match Ql p g.code with | some H=>(H,0) | none=>([],1):=by
     unfold Pn
     rw [if_pos (un HZ),Int.toNat_natCast,un HG]
    have hkw:Zb w w2:=(un H1).trans (Zn.kept (un HKr) hB hk2)
    have g2:=Zd (hk2.lays (fun e=>hne e.symm) (un L0r)) 2
    simp only [List.getElem?_toArray,List.getElem?_cons_zero,List.getElem?_cons_succ] at g2
    have HGT:=Za hgt
    have HKW:=Za hkw
    have HC2:=Za hc2
    have HH2:=Za hH2
    clear hgt hkw hc2 hH2 hk2 f0 f1 f2
    have hR:Yk p g.code:=⟨g,rfl,un HRT⟩
    cases bb with
    | false =>
     have hn:Ql p g.code=none:=by
      cases hh:Ql p g.code with
      | none=>rfl
      | some H =>
       have:=(Zls hR).2 H hh
       unfold wayS at this
       rw [un HC2] at this
       cases this
     have HN:=Za hn
     clear hn hR
     go_wp2
     go_ret2
     have hgt:=un HGT
     rw [un HN] at hgt
     exact ⟨.slice none 0 0,by rw [hgt];rfl,by rw [hgt];exact Qo.nil _,un HKW⟩
    | true =>
     have hs:Ql p g.code=some H2:=(Zls hR).1 H2 (un HC2)
     have hlen:H2.length=m:=by rw [(Zcy hR hs).1.len];exact (un HL).symm
     have HS:=Za hs
     have HLN:=Za hlen
     clear hs hlen hR
     go_wp2
     go_ret2
     have hgt:=un HGT
     rw [un HS] at hgt
     refine ⟨.slice (some ⟨B,0,none⟩) m m,by rw [hgt];rfl,?_,un HKW⟩
     rw [hgt]
     have hlen:=un HLN
     refine ⟨_,m,by rw [hlen],by simp only;omega,fun k z hz=>⟨B,0,rfl,?_⟩⟩
     have hk:=(List.getElem?_eq_some_iff.1 hz).1
     have:=(un HH2).cell (k:=k) hk
     rw [Nat.zero_add,this]
     simp [List.getD,hz]
theorem Zlj (p:List Fn) (v:Value) (f:Int) (w:World) (hp:Zw w v p) (hk:Je w) :
  Calls Tryd.prog 40 #[v,.int .i64 f] w fun e w'=>Zgc p f w e w':=by
 by_cases hz:Xv p f=0
 ·obtain ⟨i,rfl,hi,hm,hr,hops⟩:=Zcz hz
  obtain ⟨oa,cap,rfl,hl,hcell⟩:=id hp
  obtain ⟨b,o,cv,rfl,c0,c1,c2,hc⟩:=hcell i _ (Zq p i Fn.zero hi)
  obtain ⟨oc,cc,rfl,_,_⟩:=id hc
  exact Ztg p _ i b o cap oc _ cc w hk hp hi rfl c2 hc rfl hm hz hops
 ·exact Zvk p v f w hp hk hz
structure Fr where
 fn:Int
 at_:Int
 locals:List Int
 stack:List Int
structure Fb where
 frames:List Fr
 caller:Int
structure St where
 fibers:List Fb
 now:Int
 out:List Int
def Fr.zero:Fr:=⟨0,0,[],[]⟩
def Fb.zero:Fb:=⟨[],0⟩
def St.zero:St:=⟨[],0,[]⟩
open Go.RowKit
theorem Qo.wide {w:World} {v:Value} {l:List Int} (h:Qo w v l):Xn w v l:=by
 obtain ⟨oa,cap,e,hn,hi⟩:=h
 exact ⟨oa,cap,e,by omega,hi⟩
theorem Xn.small {w:World} {v:Value} {l:List Int} (h:Xn w v l) (hl:l.length≤8796093022208):Qo w v l:=by
 obtain ⟨oa,cap,e,hn,hi⟩:=h
 exact ⟨oa,cap,e,hl,hi⟩
def Ys (w:World) (v:Value) (l:List Fr):Prop :=
 ∃ oa cap,v=.slice oa l.length cap∧(l.length≤8796093022208∧l.length≤cap)∧∀ i f,l[i]?=some f→∃ b o vl vs,oa=some ⟨b,o,none⟩ ∧
  w.cell? ⟨b,o+i*4,none⟩=some (.int .i64 f.fn)∧w.cell? ⟨b,o+i*4+1,none⟩=some (.int .i64 f.at_) ∧
  w.cell? ⟨b,o+i*4+2,none⟩=some vl∧w.cell? ⟨b,o+i*4+3,none⟩=some vs∧Xn w vl f.locals∧Xn w vs f.stack
def Wu (w:World) (v:Value) (l:List Fb):Prop :=
 ∃ oa cap,v=.slice oa l.length cap∧l.length≤8796093022208∧∀ i f,l[i]?=some f→∃ b o vf,oa=some ⟨b,o,none⟩ ∧
  w.cell? ⟨b,o+i*2,none⟩=some vf∧w.cell? ⟨b,o+i*2+1,none⟩=some (.int .i64 f.caller)∧Ys w vf f.frames
def Zy (w:World) (v:Value) (s:St):Prop :=
 ∃ vf vo,v=.agg #[vf,.int .i64 s.now,vo]∧Wu w vf s.fibers∧Xn w vo s.out
theorem Ys.kept {w w':World} (h:Zb w w') {v:Value} {l:List Fr} (hl:Ys w v l):Ys w' v l:=by
 obtain ⟨oa,cap,e,hn,hi⟩:=hl
 refine ⟨oa,cap,e,hn,fun i f hf=>?_⟩
 obtain ⟨b,o,vl,vs,e1,h1,h2,h3,h4,h5,h6⟩:=hi i f hf
 exact ⟨b,o,vl,vs,e1,h.cell h1,h.cell h2,h.cell h3,h.cell h4,h5.kept h,h6.kept h⟩
theorem Wu.kept {w w':World} (h:Zb w w') {v:Value} {l:List Fb} (hl:Wu w v l):Wu w' v l:=by
 obtain ⟨oa,cap,e,hn,hi⟩:=hl
 refine ⟨oa,cap,e,hn,fun i f hf=>?_⟩
 obtain ⟨b,o,vf,e1,h1,h2,h3⟩:=hi i f hf
 exact ⟨b,o,vf,e1,h.cell h1,h.cell h2,h3.kept h⟩
theorem Zy.kept {w w':World} (h:Zb w w') {v:Value} {s:St} (hs:Zy w v s):Zy w' v s:=by
 obtain ⟨vf,vo,e,h1,h2⟩:=hs
 exact ⟨vf,vo,e,h1.kept h,h2.kept h⟩
theorem Ys.nil (w:World):Ys w (.slice none 0 0) []:=⟨none,0,rfl,by simp,fun i z h=>by simp at h⟩
theorem Wu.nil (w:World):Wu w (.slice none 0 0) []:=⟨none,0,rfl,by simp,fun i z h=>by simp at h⟩
end Go.Proofs.YtblihfpigjiahaaDoor
namespace Go.Proofs.YtblihfpigjiahaaDoor
open Go.RowKit Go.ChangeShapes Go.WideShapes Go.ChangeAt
theorem Ziy:Tryd.prog.cellsOf 24=1:=by kernel_rfl
theorem Zuv:Tryd.prog.cellsOf 53=4:=by kernel_rfl
theorem Zqx:Tryd.prog.cellsOf 44=1:=by kernel_rfl
theorem Zvl:Tryd.prog.cellsOf 46=2:=by kernel_rfl
theorem Xaa:Tryd.prog.cellsOf 23=1:=by kernel_rfl
theorem Ztf:Tryd.prog.cellsOf 26=3:=by kernel_rfl
theorem Zwm:Tryd.prog.bytesOf 3=8:=by kernel_rfl
theorem Zxb:Tryd.prog.bytesOf 53=64:=by kernel_rfl
theorem Zyu:Tryd.prog.bytesOf 46=32:=by kernel_rfl
theorem Zzs:∃ f0 f1 f2 f3:Field,Tryd.prog.underlying 53=some (.struct #[f0,f1,f2,f3])∧f0.type=3∧f0.offset=0∧f1.type=3∧f1.offset=1∧f2.type=24∧f2.offset=2∧f3.type=24∧f3.offset=3:=⟨_,_,_,_,Tryd.underlying53,rfl,rfl,rfl,rfl,rfl,rfl,rfl,rfl⟩
theorem Xbc:∃ f0 f1:Field,Tryd.prog.underlying 46=some (.struct #[f0,f1])∧f0.type=44∧f0.offset=0∧f1.type=3∧f1.offset=1:=⟨_,_,Tryd.underlying46,rfl,rfl,rfl,rfl⟩
theorem Zyy:∃ f0 f1 f2:Field,Tryd.prog.underlying 26=some (.struct #[f0,f1,f2])∧f0.type=23∧f0.offset=0∧f1.type=3∧f1.offset=1∧f2.type=24∧f2.offset=2:=⟨_,_,_,Tryd.underlying26,rfl,rfl,rfl,rfl,rfl,rfl⟩
section
variable {H:Type} {enc:TypeId × Value→H} {w:World} {base:Nat} {spare:Nat→Bool} {held:Bool}
end
end Go.Proofs.YtblihfpigjiahaaDoor
namespace Go.Proofs.YtblihfpigjiahaaDoor
open Go.RowKit Go.ChangeShapes Go.WideShapes Go.ChangeAt
def StW (s:St):Prop:=(∀ z∈s.out,(Lit.int .i64 z).wf=true)∧∀ b∈s.fibers,∀ x∈b.frames,(∀ z∈x.locals,(Lit.int .i64 z).wf=true)∧∀ z∈x.stack,(Lit.int .i64 z).wf=true
section
variable {H:Type} {enc:TypeId × Value→H} {w:World} {base:Nat} {spare:Nat→Bool} {held:Bool}
theorem Ziv {fuel:Nat} {v:Value} {x:DataW H × List MemPlace} (h:DataW.trod enc Tryd.prog w base spare held fuel 24 [v]=some x) (hw:∀ n,n∈x.1.weights Tryd.prog 24→n≤reachBytes):∃ l,Xn w v l∧∀ z∈l,(Lit.int .i64 z).wf=true:=by
 rcases Deep.open_slice Tryd.underlying24 h with ⟨e,_⟩ | ⟨a,len,cap,m,n,D,Pl,e,_,hlc,_,hm,hx,hi⟩
 ·simp at e
  subst e
  exact ⟨[],Xn.nil _,by simp⟩
 ·simp at e
  subst e
  have hlm:len≤m:=by rw [hm];split <;> omega
  have hlen:len*8≤140737488351232:=by
   have:=hw ((((List.range len).map D).length+((List.range (m - len)).map fun j=>D (len+j)).length)*Tryd.prog.bytesOf 3) (by rw [hx];simp [DataW.weights,Tryd.underlying24])
   rw [Zwm,Zdj] at this
   simp at this
   omega
  have hall:∀ i,i<len→∃ y:Int,w.cell? (a.add (i*1))=some (.int .i64 y)∧(Lit.int .i64 y).wf=true:=by
   intro i hil
   obtain ⟨cs',hc,ht⟩:=hi i (by omega)
   rw [Uy] at hc
   obtain ⟨_,hcl,hcell⟩:=World.cells?_some hc
   obtain ⟨k,e0,_,hkw⟩:=DataW.trod_int Tryd.underlying3 ht
   subst e0
   refine ⟨k,?_,hkw⟩
   have:=hcell 0 (by omega);rw [Deep.add_add] at this;simpa using this
  obtain ⟨g,hg⟩:=Deep.choose_lt hall
  refine ⟨(List.range len).map g,⟨some a,cap,by simp,by simp;omega,fun i y hy=>?_⟩,fun z hz=>?_⟩
  rotate_left
  ·obtain ⟨j,hj,rfl⟩:=List.mem_map.1 hz
   exact (hg j (by simpa using hj)).2
  rw [List.getElem?_map,Option.map_eq_some_iff] at hy
  obtain ⟨j,hj,rfl⟩:=hy
  have hjl:i<len:=by simpa using (List.getElem?_eq_some_iff.1 hj).1
  obtain rfl:i=j:=by simpa [hjl] using hj
  have hs:a.spot=none:=by
   have:=(hg 0 (by omega)).1
   exact Zdy (by simpa [Addr.add] using this)
  refine ⟨a.block,a.off,by cases a;simp_all,?_⟩
  have:=(hg i hjl).1;rwa [Us hs,Nat.mul_one] at this
theorem Zya {fuel:Nat} {v:Value} {x:DataW H × List MemPlace} (h:DataW.trod enc Tryd.prog w base spare held fuel 44 [v]=some x) (hw:∀ n,n∈x.1.weights Tryd.prog 44→n≤reachBytes):∃ l,Ys w v l∧∀ x∈l,(∀ z∈x.locals,(Lit.int .i64 z).wf=true)∧∀ z∈x.stack,(Lit.int .i64 z).wf=true:=by
 rcases Deep.open_slice Tryd.underlying44 h with ⟨e,_⟩ | ⟨a,len,cap,m,n,D,Pl,e,_,hlc,_,hm,hx,hi⟩
 ·simp at e
  subst e
  exact ⟨[],Ys.nil _,by simp⟩
 ·simp at e
  subst e
  have hlm:len≤m:=by rw [hm];split <;> omega
  have hlen:len*64≤140737488351232:=by
   have:=hw ((((List.range len).map D).length+((List.range (m - len)).map fun j=>D (len+j)).length)*Tryd.prog.bytesOf 53) (by rw [hx];simp [DataW.weights,Tryd.underlying44])
   rw [Zxb,Zdj] at this
   simp at this
   omega
  have hall:∀ i,i<len→∃ y:Fr × Value × Value,w.cell? (a.add (i*4))=some (.int .i64 y.1.fn)∧w.cell? (a.add (i*4+1))=some (.int .i64 y.1.at_)∧w.cell? (a.add (i*4+2))=some y.2.1∧w.cell? (a.add (i*4+3))=some y.2.2∧Xn w y.2.1 y.1.locals∧Xn w y.2.2 y.1.stack∧(∀ z∈y.1.locals,(Lit.int .i64 z).wf=true)∧∀ z∈y.1.stack,(Lit.int .i64 z).wf=true:=by
   intro i hil
   obtain ⟨cs',hc,ht⟩:=hi i (by omega)
   rw [Zuv] at hc
   obtain ⟨_,hcl,hcell⟩:=World.cells?_some hc
   obtain ⟨f0,f1,f2,f3,hu,t0,o0,t1,o1,t2,o2,t3,o3⟩:=Zzs
   obtain ⟨y0,y1,y2,y3,n',hy,_,g0,g1,g2,g3⟩:=Joins.trod_struct4 hu ht
   rw [t0,o0,Uy] at g0
   rw [t1,o1,Uy] at g1
   rw [t2,o2,Ziy] at g2
   rw [t3,o3,Ziy] at g3
   obtain ⟨fn,e0,r0,_⟩:=DataW.trod_int Tryd.underlying3 g0
   obtain ⟨at_,e1,r1,_⟩:=DataW.trod_int Tryd.underlying3 g1
   match cs',hcl with
   | [c0,c1,c2,c3],_ =>
    simp at e0 e1
    subst e0 e1
    simp only [List.drop,List.take] at g2 g3
    have hD:D i=.agg [y0.1,y1.1,y2.1,y3.1]:=congrArg Prod.fst hy
    have hmem:∀ q,(q∈y2.1.weights Tryd.prog 24∨q∈y3.1.weights Tryd.prog 24)→q≤reachBytes:=fun q hq=>hw q (by
     rw [hx]
     simp only [DataW.weights,Tryd.underlying44,List.mem_cons,List.mem_append]
     refine Or.inr (Or.inl (Zen (d:=D i) (List.mem_map.2 ⟨i,by simpa using hil,rfl⟩) q ?_))
     rw [hD]
     simp only [DataW.weights,hu,DataW.weightsEach,List.map_cons,List.map_nil,t0,t1,t2,t3,List.mem_append]
     rcases hq with hq | hq
     ·exact Or.inr (Or.inr (Or.inl hq))
     ·exact Or.inr (Or.inr (Or.inr (Or.inl hq))))
    obtain ⟨l2,h2,w2⟩:=Ziv g2 (fun q hq=>hmem q (.inl hq))
    obtain ⟨l3,h3,w3⟩:=Ziv g3 (fun q hq=>hmem q (.inr hq))
    refine ⟨(⟨fn,at_,l2,l3⟩,c2,c3),?_,?_,?_,?_,h2,h3,w2,w3⟩
    ·have:=hcell 0 (by omega);rw [Deep.add_add] at this;simpa using this
    ·have:=hcell 1 (by omega);rw [Deep.add_add] at this;simpa using this
    ·have:=hcell 2 (by omega);rw [Deep.add_add] at this;simpa using this
    ·have:=hcell 3 (by omega);rw [Deep.add_add] at this;simpa using this
  have:Inhabited (Fr × Value × Value):=⟨(Fr.zero,.nilIface,.nilIface)⟩
  obtain ⟨g,hg⟩:=Deep.choose_lt hall
  refine ⟨(List.range len).map fun i=>(g i).1,⟨some a,cap,by simp,⟨by simp;omega,by simpa using hlc⟩,fun i y hy=>?_⟩,fun z hz=>?_⟩
  rotate_left
  ·obtain ⟨j,hj,rfl⟩:=List.mem_map.1 hz
   exact (hg j (by simpa using hj)).2.2.2.2.2.2
  rw [List.getElem?_map,Option.map_eq_some_iff] at hy
  obtain ⟨j,hj,rfl⟩:=hy
  have hjl:i<len:=by simpa using (List.getElem?_eq_some_iff.1 hj).1
  obtain rfl:i=j:=by simpa [hjl] using hj
  have hs:a.spot=none:=by
   have:=(hg 0 (by omega)).1
   simp only [Nat.zero_mul] at this
   exact Zdy (by simpa [Addr.add] using this)
  obtain ⟨k0,k1,k2,k3,k4,k5,_⟩:=hg i hjl
  refine ⟨a.block,a.off,(g i).2.1,(g i).2.2,by cases a;simp_all,?_,?_,?_,?_,k4,k5⟩
  ·rwa [Us hs] at k0
  ·rwa [Us hs,← Nat.add_assoc] at k1
  ·rwa [Us hs,← Nat.add_assoc] at k2
  ·rwa [Us hs,← Nat.add_assoc] at k3
theorem Zsl {fuel:Nat} {v:Value} {x:DataW H × List MemPlace} (h:DataW.trod enc Tryd.prog w base spare held fuel 23 [v]=some x) (hw:∀ n,n∈x.1.weights Tryd.prog 23→n≤reachBytes):∃ l,Wu w v l∧∀ b∈l,∀ x∈b.frames,(∀ z∈x.locals,(Lit.int .i64 z).wf=true)∧∀ z∈x.stack,(Lit.int .i64 z).wf=true:=by
 rcases Deep.open_slice Tryd.underlying23 h with ⟨e,_⟩ | ⟨a,len,cap,m,n,D,Pl,e,_,hlc,_,hm,hx,hi⟩
 ·simp at e
  subst e
  exact ⟨[],Wu.nil _,by simp⟩
 ·simp at e
  subst e
  have hlm:len≤m:=by rw [hm];split <;> omega
  have hlen:len*32≤140737488351232:=by
   have:=hw ((((List.range len).map D).length+((List.range (m - len)).map fun j=>D (len+j)).length)*Tryd.prog.bytesOf 46) (by rw [hx];simp [DataW.weights,Tryd.underlying23])
   rw [Zyu,Zdj] at this
   simp at this
   omega
  have hall:∀ i,i<len→∃ y:Fb × Value,w.cell? (a.add (i*2))=some y.2∧w.cell? (a.add (i*2+1))=some (.int .i64 y.1.caller)∧Ys w y.2 y.1.frames∧∀ x∈y.1.frames,(∀ z∈x.locals,(Lit.int .i64 z).wf=true)∧∀ z∈x.stack,(Lit.int .i64 z).wf=true:=by
   intro i hil
   obtain ⟨cs',hc,ht⟩:=hi i (by omega)
   rw [Zvl] at hc
   obtain ⟨_,hcl,hcell⟩:=World.cells?_some hc
   obtain ⟨f0,f1,hu,t0,o0,t1,o1⟩:=Xbc
   obtain ⟨y0,y1,n',hy,_,g0,g1⟩:=trod_struct2 hu ht
   rw [t0,o0,Zqx] at g0
   rw [t1,o1,Uy] at g1
   obtain ⟨ca,e1,r1,_⟩:=DataW.trod_int Tryd.underlying3 g1
   match cs',hcl with
   | [c0,c1],_ =>
    simp at e1
    subst e1
    simp only [List.drop,List.take] at g0
    have hD:D i=.agg [y0.1,y1.1]:=congrArg Prod.fst hy
    obtain ⟨l0,h0,w0⟩:=Zya g0 (fun q hq=>hw q (by
     rw [hx]
     simp only [DataW.weights,Tryd.underlying23,List.mem_cons,List.mem_append]
     refine Or.inr (Or.inl (Zen (d:=D i) (List.mem_map.2 ⟨i,by simpa using hil,rfl⟩) q ?_))
     rw [hD]
     simp only [DataW.weights,hu,DataW.weightsEach,List.map_cons,List.map_nil,t0,t1,List.mem_append]
     exact Or.inl hq))
    refine ⟨(⟨l0,ca⟩,c0),?_,?_,h0,w0⟩
    ·have:=hcell 0 (by omega);rw [Deep.add_add] at this;simpa using this
    ·have:=hcell 1 (by omega);rw [Deep.add_add] at this;simpa using this
  have:Inhabited (Fb × Value):=⟨(Fb.zero,.nilIface)⟩
  obtain ⟨g,hg⟩:=Deep.choose_lt hall
  refine ⟨(List.range len).map fun i=>(g i).1,⟨some a,cap,by simp,by simp;omega,fun i y hy=>?_⟩,fun z hz=>?_⟩
  rotate_left
  ·obtain ⟨j,hj,rfl⟩:=List.mem_map.1 hz
   exact (hg j (by simpa using hj)).2.2.2
  rw [List.getElem?_map,Option.map_eq_some_iff] at hy
  obtain ⟨j,hj,rfl⟩:=hy
  have hjl:i<len:=by simpa using (List.getElem?_eq_some_iff.1 hj).1
  obtain rfl:i=j:=by simpa [hjl] using hj
  have hs:a.spot=none:=by
   have:=(hg 0 (by omega)).1
   simp only [Nat.zero_mul] at this
   exact Zdy (by simpa [Addr.add] using this)
  obtain ⟨k0,k1,k2,_⟩:=hg i hjl
  refine ⟨a.block,a.off,(g i).2,by cases a;simp_all,?_,?_,k2⟩
  ·rwa [Us hs] at k0
  ·rwa [Us hs,← Nat.add_assoc] at k1
theorem Zxd {fuel:Nat} {cs:List Value} {x:DataW H × List MemPlace} (h:DataW.trod enc Tryd.prog w base spare held fuel 26 cs=some x) (hw:∀ n,n∈x.1.weights Tryd.prog 26→n≤reachBytes):∃ s,Zy w (.agg cs.toArray) s∧StW s:=by
 obtain ⟨f0,f1,f2,hu,t0,o0,t1,o1,t2,o2⟩:=Zyy
 obtain ⟨y0,y1,y2,n',hy,hl,g0,g1,g2⟩:=Deep.trod_struct3 hu h
 rw [t0,o0,Xaa] at g0
 rw [t1,o1,Uy] at g1
 rw [t2,o2,Ziy] at g2
 obtain ⟨nw,e1,r1,_⟩:=DataW.trod_int Tryd.underlying3 g1
 rw [Ztf] at hl
 match cs,hl with
 | [c0,c1,c2],_ =>
  simp at e1
  subst e1
  simp only [List.drop,List.take] at g0 g2
  have hD:x.1=.agg [y0.1,y1.1,y2.1]:=congrArg Prod.fst hy
  have hmem:∀ q,(q∈y0.1.weights Tryd.prog 23∨q∈y2.1.weights Tryd.prog 24)→q≤reachBytes:=fun q hq=>hw q (by
   rw [hD]
   simp only [DataW.weights,hu,DataW.weightsEach,List.map_cons,List.map_nil,t0,t1,t2,List.mem_append]
   rcases hq with hq | hq
   ·exact Or.inl hq
   ·exact Or.inr (Or.inr (Or.inl hq)))
  obtain ⟨lf,h0,w0⟩:=Zsl g0 (fun q hq=>hmem q (.inl hq))
  obtain ⟨lo,h2,w2⟩:=Ziv g2 (fun q hq=>hmem q (.inr hq))
  exact ⟨⟨lf,nw,lo⟩,⟨c0,c2,rfl,h0,h2⟩,w2,w0⟩
end
end Go.Proofs.YtblihfpigjiahaaDoor
namespace Go.Proofs.YtblihfpigjiahaaDoor
open Go.RowKit
theorem PS:(∀ (a:Act) (t:Tmp) (v:Value),a.put (some t) v={ a with tmps:=a.tmps.setIfInBounds t v })∧(∀ (a:Act) (v:Value),a.put none v=a) ∧
  (∀ (l:List Value) (i:Nat) (a:Value),l.toArray.setIfInBounds i a=(l.set i a).toArray)∧(∀ (l:List Bool) (i:Nat) (a:Bool),l.toArray.setIfInBounds i a=(l.set i a).toArray) ∧
  (∀ (l:List Value) (a b:Value),(b :: l).set 0 a=a :: l)∧(∀ (l:List Bool) (a b:Bool),(b :: l).set 0 a=a :: l) ∧
  (∀ (l:List Value) (i:Nat) (a b:Value),(b :: l).set (i+1) a=b :: l.set i a)∧(∀ (l:List Bool) (i:Nat) (a b:Bool),(b :: l).set (i+1) a=b :: l.set i a) :=
 ⟨fun _ _ _=>rfl,fun _ _=>rfl,fun _ _ _=>by simp,fun _ _ _=>by simp,fun _ _ _=>rfl,fun _ _ _=>rfl,fun _ _ _ _=>rfl,fun _ _ _ _=>rfl⟩
theorem Pb {L tl:List Oper} {i:Nat} {oi:Oper} (hd:L.drop i=oi :: tl):L.toArray[i]?=some oi:=by
 have h:(L.drop i)[0]?=some oi:=by rw [hd];rfl
 rw [List.getElem?_drop] at h
 simpa using h
theorem Zut {P:Program} {md:Region.Mode} {Q:Exit→Act→World→Prop} {S:World→Prop} {L tl:List Oper} {i:Nat} {oi:Oper} {v:Value} {fuel:Nat} {listed:Array Bool} {a:Act} {w:World} (hd:L.drop i=oi :: tl)
  (hs:Region.noSelect L.toArray=true) (hf:Region.free md L.toArray listed i=true) (hr:(Region.ready md L.toArray listed).contains i=true)
  (hQ:∀ c a w,Q (.panic c) (a.put oi.dst v) w→Q (.panic c) a w) (hw:Region.wanted oi (yielded L.toArray a.tmps)=true) (hy:∀ u,S u→(execOp a.eval oi).run P u=.ok (.value v) u) (hS:S w)
  (h:wpAnyH P md L.toArray Q S fuel (listed.setIfInBounds i true) (a.put oi.dst v) w):wpAnyH P md L.toArray Q S (fuel+1) listed a w :=
 wpAnyH_take (Pb hd) hs hf hr hQ (.inl ⟨hw,hy⟩) hS h
theorem Zqs {P:Program} {md:Region.Mode} {Q:Exit→Act→World→Prop} {S:World→Prop} {L tl:List Oper} {i:Nat} {oi:Oper} {fuel:Nat} {listed:Array Bool} {a:Act} {w:World} (hd:L.drop i=oi :: tl)
  (hs:Region.noSelect L.toArray=true) (hf:Region.free md L.toArray listed i=true) (hr:(Region.ready md L.toArray listed).contains i=true)
  (hQ:∀ c a w,Q (.panic c) (a.put oi.dst undef) w→Q (.panic c) a w) (hw:Region.wanted oi (yielded L.toArray a.tmps)=false) (hS:S w)
  (h:wpAnyH P md L.toArray Q S fuel (listed.setIfInBounds i true) (a.put oi.dst undef) w):wpAnyH P md L.toArray Q S (fuel+1) listed a w :=
 wpAnyH_take (Pb hd) hs hf hr hQ (.inr ⟨hw,rfl⟩) hS h
theorem Xw {P:Program} {md:Region.Mode} {Q:Exit→Act→World→Prop} {S:World→Prop} {L tl:List Oper} {i:Nat} {oi:Oper} {fuel:Nat} {listed:Array Bool} {a:Act} {w:World} (hd:L.drop i=oi :: tl)
  (hr:Region.ready md L.toArray listed=[i])
  (h:∀ K':Act→World→Prop,Shut (∀ a w,S w→(S w→wpAnyH P md L.toArray Q S fuel (listed.setIfInBounds i true) a w)→K' a w)→if Region.wanted oi (yielded L.toArray a.tmps)=true then Oper.wp P oi a w K' Q else K' (a.put oi.dst undef) w) :
  wpAnyH P md L.toArray Q S (fuel+1) listed a w :=
 wpAnyH_ready hr (by simp) (AllReadyH.cons (Pb hd) h AllReadyH.nil)
end Go.Proofs.YtblihfpigjiahaaDoor
namespace Go.Proofs.YtblihfpigjiahaaDoor
open Go.RowKit
variable {P:Program} {md:Region.Mode} {Q:Exit→Act→World→Prop} {S:World→Prop}
structure AnyY (plan:List Nat) (P:Program) (md:Region.Mode) (ops:Array Oper) (Q:Exit→Act→World→Prop) (S:World→Prop) (n:Nat) (listed:Array Bool) (a:Act) (w:World):Prop where
 out:wpAnyH P md ops Q S n listed a w
theorem Xd {ops:Array Oper} {n:Nat} {listed:Array Bool} {a:Act} {w:World} (plan:List Nat) (h:AnyY plan P md ops Q S n listed a w):wpAnyH P md ops Q S n listed a w:=h.out
theorem Xc {ops:Array Oper} {n:Nat} {listed:Array Bool} {a:Act} {w:World} (h:wpAnyH P md ops Q S n listed a w):AnyY [] P md ops Q S n listed a w:=⟨h⟩
theorem Xe {L tl:List Oper} {i:Nat} {plan:List Nat} {oi:Oper} {v:Value} {fuel:Nat} {listed:Array Bool} {a:Act} {w:World} (hS:S w) (hy:∀ u,S u→(execOp a.eval oi).run P u=.ok (.value v) u)
  (h:AnyY plan P md L.toArray Q S fuel (listed.setIfInBounds i true) (a.put oi.dst v) w) (hd:L.drop i=oi :: tl:=by rfl) (hs:Region.noSelect L.toArray=true:=by kernel_rfl) (hf:Region.free md L.toArray listed i=true:=by kernel_rfl)
  (hr:(Region.ready md L.toArray listed).contains i=true:=by kernel_rfl) (hQ:∀ c a w,Q (.panic c) (a.put oi.dst v) w→Q (.panic c) a w:=by exact fun _ _ _ h=>h)
  (hw:Region.wanted oi (yielded L.toArray a.tmps)=true:=by rfl):AnyY (i :: plan) P md L.toArray Q S (fuel+1) listed a w:=⟨Zut hd hs hf hr hQ hw hy hS h.out⟩
structure AnyN (plan:List Nat) (P:Program) (md:Region.Mode) (ops:Array Oper) (Q:Exit→Act→World→Prop) (S:World→Prop) (n:Nat) (listed:Array Bool) (a:Act) (w:World):Prop where
 out:wpAnyH P md ops Q S n listed a w
theorem Up {ops:Array Oper} {n:Nat} {listed:Array Bool} {a:Act} {w:World} (plan:List Nat) (h:AnyN plan P md ops Q S n listed a w):wpAnyH P md ops Q S n listed a w:=h.out
theorem Uv {ops:Array Oper} {n:Nat} {listed:Array Bool} {a:Act} {w:World} (h:wpAnyH P md ops Q S n listed a w):AnyN [] P md ops Q S n listed a w:=⟨h⟩
theorem Uz {L tl:List Oper} {i:Nat} {plan:List Nat} {oi:Oper} {fuel:Nat} {listed:Array Bool} {a:Act} {w:World} (hS:S w)
  (h:AnyN plan P md L.toArray Q S fuel (listed.setIfInBounds i true) (a.put oi.dst undef) w) (hd:L.drop i=oi :: tl:=by rfl) (hs:Region.noSelect L.toArray=true:=by kernel_rfl) (hf:Region.free md L.toArray listed i=true:=by kernel_rfl)
  (hr:(Region.ready md L.toArray listed).contains i=true:=by kernel_rfl) (hQ:∀ c a w,Q (.panic c) (a.put oi.dst undef) w→Q (.panic c) a w:=by exact fun _ _ _ h=>h)
  (hw:Region.wanted oi (yielded L.toArray a.tmps)=false:=by rfl):AnyN (i :: plan) P md L.toArray Q S (fuel+1) listed a w:=⟨Zqs hd hs hf hr hQ hw hS h.out⟩
end Go.Proofs.YtblihfpigjiahaaDoor
namespace Go.Proofs.YtblihfpigjiahaaDoor
open Go.RowKit
theorem Xm (i l n:Int) (w:World) :
  Calls Tryd.prog 15 #[.int .i64 i,.int .i64 l,.int .i64 n] w fun e w'=>e=.returned (.bool (inB i l n))∧w=w':=by
 by_cases h1:l≤i
 ·by_cases h2:i≤n
  ·rw [Wl h1 h2]
   go_enter Tryd.func15,Tryd.ntmps15
   go_wp2
   go_ret
   exact ⟨rfl,rfl⟩
  ·rw [Pr (by omega)]
   go_enter Tryd.func15,Tryd.ntmps15
   go_wp2
   go_ret
   exact ⟨rfl,rfl⟩
 ·rw [Pr (by omega)]
  go_enter Tryd.func15,Tryd.ntmps15
  go_wp2
  go_ret
  exact ⟨rfl,rfl⟩
def namesB (x:Int × Int):Bool:=decide (x.1=11) || decide (x.1=13)
def targets (c:List (Int × Int)):List Nat:=(c.filter namesB).map fun x=>x.2.toNat
def Zx (p:List Fn) (g:Nat):List (Int × Int):=(p.getD g Fn.zero).code
def Zbv (p:List Fn) (f k:Nat):Prop:=∀ S:Nat→Prop,S f→(∀ k j,k<p.length→S k→j∈targets (Zx p k)→S j)→S k
theorem Zbv.step {p:List Fn} {f k j:Nat} (h:Zbv p f k) (hk:k<p.length) (hj:j∈targets (Zx p k)):Zbv p f j :=
 fun S h0 hs=>hs k j hk (h S h0 hs) hj
theorem Zbv.trans {p:List Fn} {f g k:Nat} (h:Zbv p f g) (h':Zbv p g k):Zbv p f k :=
 fun S h0 hs=>h' S (h S h0 hs) hs
def Zab (B B':List Bool):Prop:=B'.length=B.length∧∀ k,B.getD k false=true→B'.getD k false=true
theorem Zab.refl (B:List Bool):Zab B B:=⟨rfl,fun _ h=>h⟩
theorem Zab.trans {A B C:List Bool} (h:Zab A B) (k:Zab B C):Zab A C:=⟨k.1.trans h.1,fun i hi=>k.2 i (h.2 i hi)⟩
theorem Zsf (B:List Bool) (k i:Nat):(B.set k true).getD i false=true↔(i=k∧k<B.length)∨B.getD i false=true:=by
 simp only [List.getD,List.getElem?_set]
 by_cases h:k=i
 ·subst h
  by_cases hk:k<B.length
  ·simp [hk]
  ·simp [hk]
 ·simp [h,Ne.symm h]
theorem Zab.set (B:List Bool) (k:Nat):Zab B (B.set k true):=⟨by simp,fun i hi=>(Zsf B k i).2 (.inr hi)⟩
def Ut (B:List Bool):Nat:=(B.filter fun b=>!b).length
theorem Zlw:∀ (B:List Bool) (k:Nat),k<B.length→B.getD k false=false→Ut (B.set k true)+1=Ut B
 | [],k,h,_=>by simp at h
 | b :: B,0,_,h=>by
  simp at h
  subst h
  simp [Ut]
 | b :: B,k+1,hk,h=>by
  have ih:=Zlw B k (by simpa using hk) (by simpa using h)
  simp only [Ut,List.set_cons_succ,List.filter_cons] at ih ⊢
  cases b
  ·simp only [Bool.not_false,if_true,List.length_cons];omega
  ·simpa using ih
def Zcp (p:List Fn) (B B':List Bool):Prop :=
 Zab B B'∧∀ k j,B'.getD k false=true→B.getD k false=false→j∈targets (Zx p k)→B'.getD j false=true
theorem Zcp.refl (p:List Fn) (B:List Bool):Zcp p B B:=⟨.refl B,fun k j h h'=>by rw [h] at h';cases h'⟩
theorem Zcp.trans {p:List Fn} {A B C:List Bool} (h:Zcp p A B) (h':Zcp p B C):Zcp p A C :=
 ⟨h.1.trans h'.1,fun k j hC hA hj=>by
  cases hB:B.getD k false with
  | true=>exact h'.1.2 j (h.2 k j hB hA hj)
  | false=>exact h'.2 k j hC hB hj⟩
def Ji (e:Nat→Int):Nat→Nat→Int
 | _,0=>0
 | k,n+1=>if e k=0 then Ji e (k+1) n else e k
theorem Zdg {e:Nat→Int}:∀ {n k:Nat},Ji e k n=0→∀ i,k≤i→i<k+n→e i=0
 | 0,_,_,i,h1,h2=>by omega
 | n+1,k,h,i,h1,h2=>by
  unfold Ji at h
  split at h
  ·rename_i h0
   rcases Nat.lt_or_eq_of_le h1 with h3 | rfl
   ·exact Zdg h i h3 (by omega)
   ·exact h0
  ·rename_i h0;exact absurd h h0
theorem Zfv {e:Nat→Int} {k m:Nat} (h:k<m):Ji e k (m - k)=if e k=0 then Ji e (k+1) (m - (k+1)) else e k:=by
 obtain ⟨n,hn⟩:∃ n,m - k=n+1:=⟨m - k - 1,by omega⟩
 rw [hn,show m - (k+1)=n by omega]
 rfl
def Yl (p:List Fn) (k:Nat):Int:=match Ql p (Zx p k) with | some _=>0 | none=>1
def Xh (p:List Fn):Int :=
 if 5<p.length then 2 else if p.length=0 then 5 else if (p.getD 0 Fn.zero).args≠0 then 1
 else if Ji (fun k=>Xv p k) 0 p.length=0 then Ji (Yl p) 0 p.length else Ji (fun k=>Xv p k) 0 p.length
theorem Zaa {p:List Fn} (h:Xh p=0):p.length≤5∧0<p.length∧∀ k,k<p.length→Xv p k=0:=by
 unfold Xh at h
 split at h
 ·cases h
 ·split at h
  ·cases h
  ·split at h
   ·cases h
   ·split at h
    ·rename_i h0
     exact ⟨by omega,by omega,fun k hk=>Zdg h0 k (by omega) (by omega)⟩
    ·rename_i h0;exact absurd h h0
theorem Zjj {p:List Fn} {k:Nat} (h:Xv p k=0):k<p.length∧(Zx p k).length≤24∧Wn p (p.getD k Fn.zero) (Zx p k)=0:=by
 unfold Xv at h
 split at h
 ·rename_i hk
  simp only [Int.toNat_natCast] at h
  split at h
  ·cases h
  ·split at h
   ·exact ⟨by omega,by unfold Zx;omega,h⟩
   ·cases h
 ·cases h
def hgt (p:List Fn) (k:Nat):List Int:=(Ql p (Zx p k)).getD []
def hAt (p:List Fn) (x:Fr):Int:=(hgt p x.fn.toNat).getD x.at_.toNat 0
def Pu (p:List Fn) (x:Fr):Int × Int:=(Zx p x.fn.toNat).getD (x.at_.toNat - 1) (0,0)
def Xb (p:List Fn) (x:Fr):Bool :=
 ixB x.fn p.length && (decide ((x.locals.length:Int)=(p.getD x.fn.toNat Fn.zero).locals) && (ixB x.at_ (Zx p x.fn.toNat).length && decide (0≤hAt p x)))
def Jk (p:List Fn) (x:Fr) (kd ofn:Int):Bool :=
 (!decide (x.at_=0) && decide ((x.stack.length:Int)=hAt p x - 1)) && (decide ((Pu p x).1=kd) && (!decide (kd=11) || decide ((Pu p x).2=ofn)))
def Ww (l:List Int):Bool:=l.all fun z=>decide (z=0)
def Jy (p:List Fn) (b:Fb):Bool :=
 match b.frames with
 | [x]=>(decide (x.at_=0) && (decide ((p.getD x.fn.toNat Fn.zero).args=1) && decide (x.stack.length=0))) && Ww x.locals
 | _=>false
def Ua (p:List Fn):List Fr→Bool
 | []=>true
 | [x]=>Xb p x
 | x :: y :: r=>Xb p x && (ixB y.fn p.length && Jk p x 11 y.fn) && Ua p (y :: r)
def Jd (p:List Fn) (b:Fb) (on runs:Bool):Bool :=
 match b.frames.getLast? with
 | none=>!on && decide (b.caller=-1)
 | some t=>Ua p b.frames &&
   (if runs=true then decide ((t.stack.length:Int)=hAt p t)
    else if on=true then Jk p t 14 0
    else decide (b.caller=-1) && (Jy p b || Jk p t 15 0))
def Xt (fs:List Fb) (n:Int):Int:=(fs.getD n.toNat Fb.zero).caller
def Xz (fs:List Fb):Nat→Int→List Int→Option (List Int)
 | 0,_,_=>none
 | k+1,n,acc=>if n<0 then some acc else if n∈acc then none else Xz fs k (Xt fs n) (acc++[n])
def Qj (s:St):Option (List Int) :=
 match Xz s.fibers (s.fibers.length+1) s.now [] with
 | none=>none
 | some l=>if l=[]∨l.getLast?=some 0 then some l else none
def Qt (s:St):Int :=
 if s.fibers.length≤5∧s.out.length≤30 then
  if (s.fibers.all fun b=>decide (b.frames.length≤6))=true then
   if 0<s.fibers.length then
    if inB s.now (-1) (s.fibers.length - 1)=true then
     if (s.fibers.all fun b=>inB b.caller (-1) (s.fibers.length - 1))=true then 0 else 3
    else 3
   else 5
  else 2
 else 2
def Yo (p:List Fn) (s:St):Bool :=
 match Qj s with
 | none=>false
 | some l=>!(decide (s.now=-1) && !(s.fibers.getD 0 Fb.zero).frames.isEmpty) &&
   (List.range s.fibers.length).all fun k=>Jd p (s.fibers.getD k Fb.zero) (decide ((k:Int)∈l)) (decide ((k:Int)=s.now)) && !(decide (k=0) && (!decide ((0:Int)∈l) && !(s.fibers.getD 0 Fb.zero).frames.isEmpty))
def Xa (p:List Fn) (s:St):Int :=
 if Xh p=0 then (if Qt s=0 then (if Yo p s=true then 0 else 1) else Qt s) else Xh p
def Qp (p:List Fn) (x:Fr) (op:Int × Int):Bool :=
 (decide (0<x.at_) && decide ((x.stack.length:Int)=hAt p x - 1)) && decide (Pu p x=op)
def Qz (p:List Fn):List Fr→Bool
 | x :: y :: r=>Qp p x (11,y.fn) && Qz p (y :: r)
 | _=>true
def Yh (fs:List Fb):Nat→Int→List Bool→Option (List Bool)
 | 0,_,_=>none
 | k+1,n,B=>if n=-1 then some B else if B.getD n.toNat false=true∨(decide (Xt fs n=-1))≠(decide (n=0)) then none else Yh fs k (Xt fs n) (B.set n.toNat true)
def Ug (s:St):Option (List Bool) :=
 match Yh s.fibers (s.fibers.length+1) s.now (List.replicate s.fibers.length false) with
 | none=>none
 | some B=>if ((List.range s.fibers.length).all fun k=>B.getD k false || decide ((s.fibers.getD k Fb.zero).caller=-1))=true then some B else none
def Wk (p:List Fn) (s:St) (n:Nat) (on:Bool):Bool :=
 match (s.fibers.getD n Fb.zero).frames.getLast? with
 | none=>!on
 | some t=>(on || !decide (n=0)) && ((!on && Jy p (s.fibers.getD n Fb.zero)) || (Qz p (s.fibers.getD n Fb.zero).frames &&
   (if (n:Int)=s.now then decide ((t.stack.length:Int)=hAt p t) else if on=true then Qp p t (14,0) else Qp p t (15,0))))
def Pt (p:List Fn) (s:St):Bool :=
 (s.fibers.all fun b=>b.frames.all (Xb p)) &&
 match Ug s with
 | none=>false
 | some B=>(List.range s.fibers.length).all fun n=>Wk p s n (B.getD n false)
def Uq (p:List Fn) (s:St):Int:=if Qt s=0 then (if Pt p s=true then 0 else 1) else Qt s
end Go.Proofs.YtblihfpigjiahaaDoor
