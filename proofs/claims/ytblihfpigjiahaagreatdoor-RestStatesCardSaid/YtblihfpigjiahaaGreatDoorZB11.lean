/- FlowF, FlowG, StateT, StateA, Fib, OwnA -/
import Derived.Test.YtblihfpigjiahaaGreatDoorZB10
import Derived.Test.YtblihfpigjiahaaGreatDoorZB08
import Derived.Deep.DeepCutAuto
import Derived.Deep.RegionWith
import Derived.JoinedCond
import Derived.Test.YtblihfpigjiahaaGreatDoorZB01
import Derived.OneCell
import Derived.Laws.OwnMore
import Derived.Maps.AppendAt
set_option maxRecDepth 100000
set_option maxHeartbeats 8000000
namespace Go.Proofs.YtblihfpigjiahaaGreatDoor
open Go.RowKit Go.Shelf
theorem come_any (p:List Fn) (g:Fn) (oa:Option Addr) (lp cp:Nat) (oc:Option Addr) (lc cc B:Nat) (w0:World) (hlc:lc=g.code.length):∀ (n:Nat) (H:List Int) (at_:Nat) (h:Int) (w:World),
  ComeAt w0 w p g (.slice oa lp cp) (.slice oc lc cc) B H→0≤h→h≤8→unv H < n →
  Calls Tryz.prog 74 #[.agg #[.slice oa lp cp,.slice oc lc cc,.slice (some ⟨B,0,none⟩) lc lc],.int .i64 at_,.int .i64 h] w fun e w'=>ComePost p g n H at_ h B w e w'
 | 0,H,at_,h,w,_,_,_,hu=>by omega
 | n + 1,H,at_,h,w,hw,h0,h8,hu=>by
  by_cases h1:lc≤at_
  ·exact come_beyond n p g oa oc lp cp lc cc B H at_ h w hw.hs hlc (by omega)
  ·by_cases h2:H.getD at_ 0=-1
   ·obtain ⟨x,hx⟩:∃ x,g.code[at_]?=some x:=⟨_,List.getElem?_eq_getElem (by omega)⟩
    obtain ⟨oa',cap',he,_,hcell⟩:=id hw.code
    obtain ⟨b',o',rfl,x0,x1⟩:=hcell at_ x hx
    obtain ⟨rfl,-,-⟩:=(by simpa using he:oc=some ⟨b',o',none⟩∧lc=g.code.length∧cc=cap')
    exact come_new n p g oa b' o' lp cp lc cc B H at_ h x w0 w hw hlc (by omega) hx x0 x1 h2 h0 h8 hu (fun H' at' h' w' a b c d=>come_any p g oa lp cp _ lc cc B w0 hlc n H' at' h' w' a b c d)
   ·exact come_seen n p g oa oc lp cp lc cc B H at_ h w hw.hs hlc hw.len (by omega) h2
def IntsAt (w:World) (v:Value) (l:List Int):Prop :=
 ∃ oa cap,v=.slice oa l.length cap∧l.length≤8796093022208∧∀ i z,l[i]?=some z→∃ b o,oa=some ⟨b,o,none⟩∧w.cell? ⟨b,o + i,none⟩=some (.int .i64 z)
theorem IntsAt.kept {w w':World} (h:Kept w w') {v:Value} {l:List Int} (hl:IntsAt w v l):IntsAt w' v l:=by
 obtain ⟨oa,cap,e,hn,hi⟩:=hl
 refine ⟨oa,cap,e,hn,fun i z hz=>?_⟩
 obtain ⟨b,o,e1,h1⟩:=hi i z hz
 exact ⟨b,o,e1,h.cell h1⟩
theorem IntsAt.nil (w:World):IntsAt w (.slice none 0 0) []:=⟨none,0,rfl,by simp,fun i z h=>by simp at h⟩
def hgtS (p:List Fn) (f:Int):List Int × Int :=
 if chkS p f=0 then
  match Xn p (p.getD f.toNat Fn.zero).code with
  | some H=>(H,0)
  | none=>([],1)
 else ([],chkS p f)
def HgtPost (p:List Fn) (f:Int) (w:World) (e:Ending) (w':World):Prop :=
 ∃ v,e=.returned (.tuple #[v,.int .i64 (hgtS p f).2])∧IntsAt w' v (hgtS p f).1∧Kept w w'
theorem heights_bad (p:List Fn) (v:Value) (f:Int) (w:World) (hp:ProgAt w v p) (hk:KindsAt w) (hz:chkS p f≠0) :
  Calls Tryz.prog 47 #[v,.int .i64 f] w fun e w'=>HgtPost p f w e w':=by
 obtain ⟨oa,cap,rfl,_,_⟩:=id hp
 have hz':(chkS p f != 0)=true:=by rw [bne_iff_ne]; exact hz
 have hr:hgtS p f=([],chkS p f):=by unfold hgtS; rw [if_neg hz]
 have HR:=hide hr
 have HP:=hide hp
 have HK:=hide hk
 clear hp hk hz hr
 go_enter Tryz.func47,Tryz.ntmps47
 go_wp2_with fail
 refine (check_any p _ f _ (un HP) (un HK)).mono ?_
 rintro e w1 ⟨rfl,hk1⟩
 have H1:=hide hk1
 clear hk1
 generalize hc:chkS p f=r at *
 have HC:=hide hc
 clear hc
 go_wp2
 go_ret2
 exact ⟨.slice none 0 0,by rw [un HR]; rfl,by rw [un HR]; exact IntsAt.nil _,un H1⟩
theorem infoInt:(Tryz.prog.info? 3).map (fun i=>(i.zero,i.size,i.bytes))=some (some (.int .i64 0),1,8):=by kernel_rfl
theorem made_ints (m:Nat):madeCells #[.int .i64 0] m=((List.replicate m (0:Int)).map (fun z=>Value.int .i64 z)).toArray:=by
 apply Array.ext
 ·simp [madeCells]
 ·intro i h1 h2
  simp [madeCells,Nat.mod_one]
theorem make_ints (m:Nat) (hm:m≤1000000) (u:World):(Instr.makeSlice 24 (.int .i64 m) (.int .i64 m)).run Tryz.prog u =
  .ok (.slice (some ⟨u.heap.size,0,none⟩) m m) (u.alloc (.cells ((List.replicate m (0:Int)).map (fun z=>Value.int .i64 z)).toArray 3)):=by
 obtain ⟨i0,hi,hz0,hz1,hz2⟩:=info_parts infoInt
 have h:=run_make (P:=Tryz.prog) u 24 3 i0 (.int .i64 0) Tryz.underlying24 hi hz0 .i64 .i64 (m:Int) (m:Int) (by omega) (Int.le_refl _) (by rw [hz2]; omega) (by omega)
 rw [Int.toNat_natCast] at h
 rw [← made_ints]
 simpa [hz1,Value.cells] using h
theorem fill_step {k m:Nat} (h:k < m):(List.replicate k (-1:Int)++List.replicate (m - k) 0).set k (-1)=List.replicate (k + 1) (-1)++List.replicate (m - (k + 1)) 0:=by
 obtain ⟨d,rfl⟩:∃ d,m=k + 1 + d:=⟨m - (k + 1),by omega⟩
 rw [List.set_append_right _ _ (by simp)]
 have e1:k + 1 + d - k=d + 1:=by omega
 have e2:k + 1 + d - (k + 1)=d:=by omega
 rw [e1,e2,List.replicate_succ]
 simp [List.replicate_succ',List.append_assoc]
theorem heights_zero {w:World} {B m:Nat} (h:w.heap[B]?=some (.cells (Array.replicate m (.int .i64 0)) 3)):HeightsAt w B (List.replicate m 0):=by
 unfold HeightsAt
 rw [h]
 simp
theorem heights_try (p:List Fn) (g:Fn) (i b o cap:Nat) (oc:Option Addr) (m cc:Nat) (w:World) (hk:KindsAt w) (hp:ProgAt w (.slice (some ⟨b,o,none⟩) p.length cap) p) (hi:i < p.length) (hg:p.getD i Fn.zero=g)
  (c2:w.cell? ⟨b,o + i * 3 + 2,none⟩=some (.slice oc m cc)) (hc:CodeAt w (.slice oc m cc) g.code) (hml:m=g.code.length) (hm:m≤24) (hz:chkS p i=0) (hops:opsS p g g.code=0) :
  Calls Tryz.prog 47 #[.slice (some ⟨b,o,none⟩) p.length cap,.int .i64 i] w fun e w'=>HgtPost p i w e w':=by
 have HK:=hide hk
 have HP:=hide hp
 have HG:=hide hg
 have HC:=hide hc
 have HL:=hide hml
 have HZ:=hide hz
 have HO:=hide hops
 have C2:=hide c2
 clear hk hp hg hc hml hz hops c2
 go_enter Tryz.func47,Tryz.ntmps47
 go_wp2_with fail
 refine (check_is p _ i 0 _ (un HP) (un HK) (un HZ)).mono ?_
 rintro e w1 ⟨rfl,hk1⟩
 have d2:=hk1.cell (un C2)
 have H1:=hide hk1
 clear hk1
 have d2':∀ o1,(w1.alloc o1).cell? ⟨b,o + i * 3 + 2,none⟩=some (.slice oc m cc):=fun o1=>((Kept.refl w1).alloc o1).cell d2
 have d2'':∀ o1 o2,((w1.alloc o1).alloc o2).cell? ⟨b,o + i * 3 + 2,none⟩=some (.slice oc m cc):=fun o1 o2=>(((Kept.refl w1).alloc o1).alloc o2).cell d2
 have hmk:=make_ints m (by omega)
 go_wp2_with fail
 go_cut [7] (fun s7 wx=>∃ B Bw,s7=.pointer (some ⟨Bw,0,none⟩)∧Hid (wx.heap[Bw]?=some (.cells #[.slice (some ⟨b,o,none⟩) p.length cap,.slice oc m cc,.slice (some ⟨B,0,none⟩) m m] 111))∧Hid (HeightsAt wx B (List.replicate m 0))∧w1.heap.size≤B∧w1.heap.size≤Bw∧B≠Bw∧Hid (Kept w1 wx))
 case first =>
  go_region
  all_goals go_wp2_with fail
  all_goals go_meet
  ·exact ⟨w1.heap.size,w1.heap.size + 1,rfl,hide (Zt (Zd (by simp))),hide (heights_zero (Zt (Zg (Zd rfl) _))),Nat.le_refl _,Nat.le_succ _,by omega,hide ((((Kept.refl _).alloc _).alloc _).drew)⟩
  ·exact ⟨w1.heap.size + 1,w1.heap.size,rfl,hide (Zt (Zg (Zd rfl) _)),hide (heights_zero (Zt (Zd (by simp)))),Nat.le_succ _,Nat.le_refl _,by omega,hide ((((Kept.refl _).alloc _).alloc _).drew)⟩
 case rest =>
  obtain ⟨B,Bw,rfl,L0,HH0,hB,hBw,hne,HK1⟩:=hcut
  have e2:=Zb (un L0) 2
  simp only [List.getElem?_toArray,List.getElem?_cons_zero,List.getElem?_cons_succ] at e2
  clear d2 d2' d2'' hmk
  go_wp2
  go_loopw [32] (fun s32 wr=>∃ k:Nat,k≤m∧s32=.int .i64 k∧Hid (wr.heap[Bw]?=some (.cells #[.slice (some ⟨b,o,none⟩) p.length cap,.slice oc m cc,.slice (some ⟨B,0,none⟩) m m] 111))∧Hid (HeightsAt wr B (List.replicate k (-1)++List.replicate (m - k) 0))∧Hid (Kept w1 wr)) (fun s32 _=>m - (intOf s32).toNat)
  case atStart=>exact ⟨0,Nat.zero_le _,rfl,L0,by simpa using HH0,HK1⟩
  case round =>
   obtain ⟨k,hkm,rfl,L0r,HHr,HKr⟩:=hrel
   have f0:=Zb (un L0r) 0
   have f1:=Zb (un L0r) 1
   have f2:=Zb (un L0r) 2
   simp only [List.getElem?_toArray,List.getElem?_cons_zero,List.getElem?_cons_succ] at f0 f1 f2
   by_cases hlt:k < m
   ·have q:=(un HHr).cell (k:=k) (by simp; omega)
    have q':=(un HHr).frozen k
    have hset:=(un HHr).set k (-1)
    rw [fill_step hlt] at hset
    have HSET:=hide hset
    generalize (List.replicate k (-1:Int)++List.replicate (m - k) 0).getD k 0=z at q
    clear hset
    go_wp2
    go_roundw
    case rel=>exact ⟨k + 1,by omega,by go_num,Xz (un L0r) (fun e=>hne e.symm) _,un HSET,(un HKr).setCell (p:=⟨B,k,none⟩) hB _⟩
    case measure=>simp [intOf]; omega
   ·have hke:k=m:=by omega
    have hst:List.replicate k (-1:Int)++List.replicate (m - k) 0=start g.code:=by
     have:=un HL
     rw [hke,Nat.sub_self]
     simp [start,this]
    have hHs:=un HHr
    rw [hst] at hHs
    have hu:=unv_le (start g.code)
    rw [show (start g.code).length=g.code.length by simp [start]] at hu
    have hright:∀ x,x∈g.code→opS p g x=0:=fun x hx=>opsS_all (un HO) x hx
    have hcm:=come_any p g (some ⟨b,o,none⟩) p.length cap oc m cc B w1 (un HL) (g.code.length + 1) (start g.code) 0 0 wr ⟨(un HP).kept (un H1),(un HC).kept (un H1),(un HK).kept (un H1),hright,by have:=un HL; omega,un HKr,hB,hHs,by simp [start]⟩ (by omega) (by omega) (by omega)
    have HCM:=hide hcm
    have HRT:=hide hright
    clear hcm hright hu hHs hst hke
    go_wp2_with fail
    refine (un HCM).mono ?_
    clear HCM
    rintro e w2 ⟨bb,H2,hc2,rfl,hH2,hk2⟩
    have hgt:hgtS p i=match Xn p g.code with | some H=>(H,0) | none=>([],1):=by
     unfold hgtS
     rw [if_pos (un HZ),Int.toNat_natCast,un HG]
    have hkw:Kept w w2:=(un H1).trans (KeptX.kept (un HKr) hB hk2)
    have g2:=Zb (hk2.lays (fun e=>hne e.symm) (un L0r)) 2
    simp only [List.getElem?_toArray,List.getElem?_cons_zero,List.getElem?_cons_succ] at g2
    have HGT:=hide hgt
    have HKW:=hide hkw
    have HC2:=hide hc2
    have HH2:=hide hH2
    clear hgt hkw hc2 hH2 hk2 f0 f1 f2
    have hR:Right p g.code:=⟨g,rfl,un HRT⟩
    cases bb with
    | false =>
     have hn:Xn p g.code=none:=by
      cases hh:Xn p g.code with
      | none=>rfl
      | some H =>
       have:=(way_heights hR).2 H hh
       unfold wayS at this
       rw [un HC2] at this
       cases this
     have HN:=hide hn
     clear hn hR
     go_wp2
     go_ret2
     have hgt:=un HGT
     rw [un HN] at hgt
     exact ⟨.slice none 0 0,by rw [hgt]; rfl,by rw [hgt]; exact IntsAt.nil _,un HKW⟩
    | true =>
     have hs:Xn p g.code=some H2:=(way_heights hR).1 H2 (un HC2)
     have hlen:H2.length=m:=by rw [(heightsS_ok hR hs).1.len]; exact (un HL).symm
     have HS:=hide hs
     have HLN:=hide hlen
     clear hs hlen hR
     go_wp2
     go_ret2
     have hgt:=un HGT
     rw [un HS] at hgt
     refine ⟨.slice (some ⟨B,0,none⟩) m m,by rw [hgt]; rfl,?_,un HKW⟩
     rw [hgt]
     have hlen:=un HLN
     refine ⟨_,m,by rw [hlen],by simp only; omega,fun k z hz=>⟨B,0,rfl,?_⟩⟩
     have hk:=(List.getElem?_eq_some_iff.1 hz).1
     have:=(un HH2).cell (k:=k) hk
     rw [Nat.zero_add,this]
     simp [List.getD,hz]
theorem heights_any (p:List Fn) (v:Value) (f:Int) (w:World) (hp:ProgAt w v p) (hk:KindsAt w) :
  Calls Tryz.prog 47 #[v,.int .i64 f] w fun e w'=>HgtPost p f w e w':=by
 by_cases hz:chkS p f=0
 ·obtain ⟨i,rfl,hi,hm,hr,hops⟩:=chkS_zero hz
  obtain ⟨oa,cap,rfl,hl,hcell⟩:=id hp
  obtain ⟨b,o,cv,rfl,c0,c1,c2,hc⟩:=hcell i _ (Zm p i Fn.zero hi)
  obtain ⟨oc,cc,rfl,_,_⟩:=id hc
  exact heights_try p _ i b o cap oc _ cc w hk hp hi rfl c2 hc rfl hm hz hops
 ·exact heights_bad p v f w hp hk hz
structure Fr where
 fn:Int
 at_:Int
 locals:List Int
 stack:List Int
structure Fb where
 frames:List Fr
 caller:Int
structure St where
 fibers:List Fb
 now:Int
 out:List Int
def Fr.zero:Fr:=⟨0,0,[],[]⟩
def Fb.zero:Fb:=⟨[],0⟩
def St.zero:St:=⟨[],0,[]⟩
open Go.RowKit
theorem IntsAt.wide {w:World} {v:Value} {l:List Int} (h:IntsAt w v l):IntsW w v l:=by
 obtain ⟨oa,cap,e,hn,hi⟩:=h
 exact ⟨oa,cap,e,by omega,hi⟩
theorem IntsW.small {w:World} {v:Value} {l:List Int} (h:IntsW w v l) (hl:l.length≤8796093022208):IntsAt w v l:=by
 obtain ⟨oa,cap,e,hn,hi⟩:=h
 exact ⟨oa,cap,e,hl,hi⟩
def FramesAt (w:World) (v:Value) (l:List Fr):Prop :=
 ∃ oa cap,v=.slice oa l.length cap∧(l.length≤8796093022208∧l.length≤cap)∧∀ i f,l[i]?=some f→∃ b o vl vs,oa=some ⟨b,o,none⟩ ∧
  w.cell? ⟨b,o + i * 4,none⟩=some (.int .i64 f.fn)∧w.cell? ⟨b,o + i * 4 + 1,none⟩=some (.int .i64 f.at_) ∧
  w.cell? ⟨b,o + i * 4 + 2,none⟩=some vl∧w.cell? ⟨b,o + i * 4 + 3,none⟩=some vs∧IntsW w vl f.locals∧IntsW w vs f.stack
def FibersAt (w:World) (v:Value) (l:List Fb):Prop :=
 ∃ oa cap,v=.slice oa l.length cap∧l.length≤8796093022208∧∀ i f,l[i]?=some f→∃ b o vf,oa=some ⟨b,o,none⟩ ∧
  w.cell? ⟨b,o + i * 2,none⟩=some vf∧w.cell? ⟨b,o + i * 2 + 1,none⟩=some (.int .i64 f.caller)∧FramesAt w vf f.frames
def StAt (w:World) (v:Value) (s:St):Prop :=
 ∃ vf vo,v=.agg #[vf,.int .i64 s.now,vo]∧FibersAt w vf s.fibers∧IntsW w vo s.out
theorem FramesAt.kept {w w':World} (h:Kept w w') {v:Value} {l:List Fr} (hl:FramesAt w v l):FramesAt w' v l:=by
 obtain ⟨oa,cap,e,hn,hi⟩:=hl
 refine ⟨oa,cap,e,hn,fun i f hf=>?_⟩
 obtain ⟨b,o,vl,vs,e1,h1,h2,h3,h4,h5,h6⟩:=hi i f hf
 exact ⟨b,o,vl,vs,e1,h.cell h1,h.cell h2,h.cell h3,h.cell h4,h5.kept h,h6.kept h⟩
theorem FibersAt.kept {w w':World} (h:Kept w w') {v:Value} {l:List Fb} (hl:FibersAt w v l):FibersAt w' v l:=by
 obtain ⟨oa,cap,e,hn,hi⟩:=hl
 refine ⟨oa,cap,e,hn,fun i f hf=>?_⟩
 obtain ⟨b,o,vf,e1,h1,h2,h3⟩:=hi i f hf
 exact ⟨b,o,vf,e1,h.cell h1,h.cell h2,h3.kept h⟩
theorem StAt.kept {w w':World} (h:Kept w w') {v:Value} {s:St} (hs:StAt w v s):StAt w' v s:=by
 obtain ⟨vf,vo,e,h1,h2⟩:=hs
 exact ⟨vf,vo,e,h1.kept h,h2.kept h⟩
theorem FramesAt.nil (w:World):FramesAt w (.slice none 0 0) []:=⟨none,0,rfl,by simp,fun i z h=>by simp at h⟩
theorem FibersAt.nil (w:World):FibersAt w (.slice none 0 0) []:=⟨none,0,rfl,by simp,fun i z h=>by simp at h⟩
def Za (s:St) (i:Nat):Fb:=s.fibers.getD i Fb.zero
def frAt (s:St) (i j:Nat):Fr:=(Za s i).frames.getD j Fr.zero
theorem getD_set_self {α:Type} (l:List α) (i:Nat) (x d:α) (h:i < l.length):(l.set i x).getD i d=x:=by simp [List.getD,h]
theorem getD_set_ne {α:Type} (l:List α) (i j:Nat) (x d:α) (h:i≠j):(l.set i x).getD j d=l.getD j d:=by simp [List.getD,h]
def Zf (s:St) (i:Nat) (b:Fb):St:={ s with fibers:=s.fibers.set i b }
theorem Xi {s:St} {i:Nat} (b:Fb) (h:i < s.fibers.length):Za (Zf s i b) i=b:=getD_set_self _ _ _ _ h
theorem Xr {s:St} {i j:Nat} (b:Fb) (h:i≠j):Za (Zf s i b) j=Za s j:=getD_set_ne _ _ _ _ _ h
theorem Zv (s:St) (i:Nat) (b:Fb):(Zf s i b).fibers.length=s.fibers.length:=by simp [Zf]
def Xl (s:St) (i j:Nat) (f:Fr):St:=Zf s i { Za s i with frames:=(Za s i).frames.set j f }
theorem Jb {s:St} {i j:Nat} (f:Fr) (hi:i < s.fibers.length) (hj:j < (Za s i).frames.length):frAt (Xl s i j f) i j=f:=by
 unfold frAt Xl; rw [Xi _ hi]; exact getD_set_self _ _ _ _ hj
theorem frAt_ne {s:St} {i j i' j':Nat} (f:Fr) (hi:i < s.fibers.length) (h:¬ (i=i'∧j=j')):frAt (Xl s i j f) i' j'=frAt s i' j':=by
 unfold frAt Xl
 by_cases e:i=i'
 ·subst e
  rw [Xi _ hi]
  exact getD_set_ne _ _ _ _ _ (fun e=>h ⟨rfl,e⟩)
 ·rw [Xr _ e]
theorem Jp {s:St} {i j:Nat} (f:Fr) (hi:i < s.fibers.length) (t:Nat):(Za (Xl s i j f) t).frames.length=(Za s t).frames.length:=by
 unfold Xl
 by_cases e:i=t
 ·subst e; rw [Xi _ hi]; simp
 ·rw [Xr _ e]
theorem Kh {s:St} {i j:Nat} (f:Fr) (hi:i < s.fibers.length) (t:Nat):(Za (Xl s i j f) t).caller=(Za s t).caller:=by
 unfold Xl
 by_cases e:i=t
 ·subst e; rw [Xi _ hi]
 ·rw [Xr _ e]
def Small (s:St):Prop:=s.fibers.length≤1000∧s.out.length≤1000∧∀ b,b∈s.fibers→b.frames.length≤1000∧∀ f,f∈b.frames→f.locals.length≤1000∧f.stack.length≤1000
def ints (l:List Int):List Value:=l.map fun z=>Value.int .i64 z
theorem Jw (l:List Int):(ints l).length=l.length:=by simp [ints]
theorem ints_append (l r:List Int):ints (l++r)=ints l++ints r:=by simp [ints]
abbrev Key:=Option (Option (Nat ⊕ (Nat × Nat) ⊕ (Nat × Nat)))
abbrev Key.fibers:Key:=none
abbrev Key.out:Key:=some none
abbrev Key.frames (i:Nat):Key:=some (some (.inl i))
abbrev Key.locals (i j:Nat):Key:=some (some (.inr (.inl (i,j))))
abbrev Key.stack (i j:Nat):Key:=some (some (.inr (.inr (i,j))))
theorem Key.by {motive:Key→Prop} (fibers:motive .fibers) (out:motive .out) (frames:∀ i,motive (.frames i)) (locals:∀ i j,motive (.locals i j)) (stack:∀ i j,motive (.stack i j)):∀ k,motive k
 | none=>fibers
 | some none=>out
 | some (some (.inl i))=>frames i
 | some (some (.inr (.inl (i,j))))=>locals i j
 | some (some (.inr (.inr (i,j))))=>stack i j
def live (s:St):Key→Prop
 | none=>True
 | some none=>True
 | some (some (.inl i))=>i < s.fibers.length
 | some (some (.inr (.inl (i,j))))=>i < s.fibers.length∧j < (Za s i).frames.length
 | some (some (.inr (.inr (i,j))))=>i < s.fibers.length∧j < (Za s i).frames.length
def upd (V:Key→Value) (k:Key) (v:Value):Key→Value:=fun k'=>if k'=k then v else V k'
theorem Xk (V:Key→Value) (k:Key) (v:Value):upd V k v k=v:=if_pos rfl
theorem Zl (V:Key→Value) {k k':Key} (v:Value) (h:k'≠k):upd V k v k'=V k':=if_neg h
def Piece (base:Nat) (w:World) (V:Key→Value) (s:St):Key→Prop
 | none=>∃ xs,w.ownsRow base 46 2 (V .fibers) s.fibers.length xs∧∀ i,i < s.fibers.length→xs[i * 2]?=some (V (.frames i))∧xs[i * 2 + 1]?=some (.int .i64 (Za s i).caller)
 | some none=>w.ownsRow base 3 1 (V .out) s.out.length (ints s.out)
 | some (some (.inl i))=>∃ xs,w.ownsRow base 48 4 (V (.frames i)) (Za s i).frames.length xs∧∀ j,j < (Za s i).frames.length →
   xs[j * 4]?=some (.int .i64 (frAt s i j).fn)∧xs[j * 4 + 1]?=some (.int .i64 (frAt s i j).at_)∧xs[j * 4 + 2]?=some (V (.locals i j))∧xs[j * 4 + 3]?=some (V (.stack i j))
 | some (some (.inr (.inl (i,j))))=>w.ownsRow base 3 1 (V (.locals i j)) (frAt s i j).locals.length (ints (frAt s i j).locals)
 | some (some (.inr (.inr (i,j))))=>w.ownsRow base 3 1 (V (.stack i j)) (frAt s i j).stack.length (ints (frAt s i j).stack)
structure Own (base:Nat) (w:World) (V:Key→Value) (s:St):Prop where
 piece:∀ k,live s k→Piece base w V s k
 apart:∀ k k' g,live s k→live s k'→(V k).ownBlock=some g→(V k').ownBlock=some g→k=k'
theorem Qr {w w':World} {base:Nat} {e:TypeId} {size:Nat} {v:Value} {n:Nat} {xs:List Value} (h:w.ownsRow base e size v n xs) (hs:∀ g,v.ownBlock=some g→w'.heap[g]?=w.heap[g]?):w'.ownsRow base e size v n xs:=by
 refine ⟨h.1,?_⟩
 rcases h.2 with hn | ⟨g,cap,cur,rfl,hb,hgg,rest⟩
 ·exact .inl hn
 ·exact .inr ⟨g,cap,cur,rfl,hb,by rw [hs g rfl]; exact hgg,rest⟩
theorem Piece.same {base:Nat} {w w':World} {V:Key→Value} {s:St} {k:Key} (h:Piece base w V s k) (hs:∀ g,(V k).ownBlock=some g→w'.heap[g]?=w.heap[g]?):Piece base w' V s k:=by
 cases k using Key.by with
 | fibers=>obtain ⟨xs,h1,h2⟩:=h; exact ⟨xs,Qr h1 hs,h2⟩
 | out=>exact Qr h hs
 | frames i=>obtain ⟨xs,h1,h2⟩:=h; exact ⟨xs,Qr h1 hs,h2⟩
 | locals i j=>exact Qr h hs
 | stack i j=>exact Qr h hs
theorem Piece.block {base:Nat} {w:World} {V:Key→Value} {s:St} {k:Key} (h:Piece base w V s k):∀ g,(V k).ownBlock=some g→base≤g∧g < w.heap.size:=by
 cases k using Key.by with
 | fibers=>obtain ⟨xs,h1,h2⟩:=h; exact h1.lt
 | out=>exact World.ownsRow.lt h
 | frames i=>obtain ⟨xs,h1,h2⟩:=h; exact h1.lt
 | locals i j=>exact World.ownsRow.lt h
 | stack i j=>exact World.ownsRow.lt h
def Own.off (V:Key→Value) (s:St) (g:Nat):Prop:=∀ k,live s k→(V k).ownBlock≠some g
theorem Own.same {base:Nat} {w w':World} {V:Key→Value} {s:St} (h:Own base w V s) (hs:∀ k g,live s k→(V k).ownBlock=some g→w'.heap[g]?=w.heap[g]?):Own base w' V s :=
 ⟨fun k hk=>(h.piece k hk).same (fun g hg=>hs k g hk hg),h.apart⟩
theorem Own.new_off {base:Nat} {w:World} {V:Key→Value} {s:St} (h:Own base w V s) {g:Nat} (hg:w.heap.size≤g∨g < base):Own.off V s g:=fun k hk e=>by
 have:=(h.piece k hk).block g e
 omega
theorem Own.alloc {base:Nat} {w:World} {V:Key→Value} {s:St} (h:Own base w V s) (o:Obj):Own base (w.alloc o) V s :=
 h.same fun k g hk hg=>Below.heap_alloc w o g ((h.piece k hk).block g hg).2
theorem Own.drew {base:Nat} {w:World} {V:Key→Value} {s:St} (h:Own base w V s):Own base w.drew V s:=h.same fun _ _ _ _=>rfl
theorem Own.setOff {base:Nat} {w:World} {V:Key→Value} {s:St} (h:Own base w V s) {a:Addr} (ha:Own.off V s a.block) (u:Value):Own base (w.setCell a u) V s :=
 h.same fun k g hk hg=>Below.heap_setCell w a u g (fun e=>ha k hk (by rw [hg,e]))
theorem Own.now {base:Nat} {w:World} {V:Key→Value} {s:St} (h:Own base w V s) (n:Int):Own base w V { s with now:=n } :=
 ⟨fun k hk=>by
  have:=h.piece k (by cases k using Key.by <;> exact hk)
  cases k using Key.by <;> exact this,fun k k' g hk hk'=>h.apart k k' g (by cases k using Key.by <;> exact hk) (by cases k' using Key.by <;> exact hk')⟩
theorem Own.turned {base:Nat} {w w':World} {V V':Key→Value} {s s':St} (h:Own base w V s)
  (hp:∀ k,live s' k→Piece base w' V' s' k∨(live s k∧V' k=V k∧(Piece base w' V s k→Piece base w' V' s' k)∧∀ g,(V k).ownBlock=some g→w'.heap[g]?=w.heap[g]?))
  (hb:∀ k g,live s' k→(V' k).ownBlock=some g→(live s k∧(V k).ownBlock=some g)∨Own.off V s g)
  (hn:∀ k k' g,live s' k→live s' k'→Own.off V s g→(V' k).ownBlock=some g→(V' k').ownBlock=some g→k=k'):Own base w' V' s':=by
 refine ⟨fun k hk=>?_,fun k k' g hk hk' e e'=>?_⟩
 ·rcases hp k hk with h1 | ⟨h1,h2,h3,h4⟩
  ·exact h1
  ·exact h3 ((h.piece k h1).same h4)
 ·rcases hb k g hk e with ⟨h1,h2⟩ | h1
  ·rcases hb k' g hk' e' with ⟨h3,h4⟩ | h3
   ·exact h.apart k k' g h1 h3 h2 h4
   ·exact absurd h2 (h3 k h1)
  ·exact hn k k' g hk hk' h1 e e'
theorem Own.setCaller {base:Nat} {w:World} {V:Key→Value} {s:St} (h:Own base w V s) {i g cap:Nat} (hi:i < s.fibers.length) (hV:V .fibers=.slice (some ⟨g,0,none⟩) s.fibers.length cap) (c:Int) :
  Own base (w.setCell ⟨g,i * 2 + 1,none⟩ (.int .i64 c)) V (Zf s i { Za s i with caller:=c }):=by
 have hlen:=Zv s i { Za s i with caller:=c }
 have hfr:∀ j,(Za (Zf s i { Za s i with caller:=c }) j).frames=(Za s j).frames:=fun j=>by
  by_cases e:i=j
  ·subst e; rw [Xi _ hi]
  ·rw [Xr _ e]
 have hfa:∀ j t,frAt (Zf s i { Za s i with caller:=c }) j t=frAt s j t:=fun j t=>by unfold frAt; rw [hfr]
 have hlv:∀ k,live (Zf s i { Za s i with caller:=c }) k↔live s k:=by
  intro k; cases k using Key.by <;> simp only [live,hlen,hfr]
 refine h.turned (fun k hk=>?_) (fun k g' hk e=>.inl ⟨(hlv k).1 hk,e⟩) (fun k k' g' hk _ ho e _=>absurd e (ho k ((hlv k).1 hk)))
 by_cases hkf:k=.fibers
 ·subst hkf
  left
  obtain ⟨xs,h1,h2⟩:=h.piece .fibers trivial
  rw [hV] at h1
  refine ⟨xs.set (i * 2 + 1) (.int .i64 c),?_,fun j hj=>?_⟩
  ·rw [hV,hlen]; exact (h1.stored _ _).1
  ·rw [hlen] at hj
   obtain ⟨h3,h4⟩:=h2 j hj
   have hx:i * 2 + 1 < xs.length:=by rw [h1.1]; omega
   refine ⟨by rw [List.getElem?_set,if_neg (by omega)]; exact h3,?_⟩
   by_cases e:i=j
   ·subst e; rw [List.getElem?_set,if_pos rfl,if_pos hx,Xi _ hi]
   ·rw [List.getElem?_set,if_neg (by omega),Xr _ e]; exact h4
 ·right
  have hlk:=(hlv k).1 hk
  refine ⟨hlk,rfl,fun hp=>?_,fun g' e=>Below.heap_setCell w _ _ g' ?_⟩
  ·cases k using Key.by with
   | fibers=>exact absurd rfl hkf
   | out=>exact hp
   | frames j =>
    obtain ⟨xs,h1,h2⟩:=hp
    exact ⟨xs,by rw [hfr]; exact h1,fun t ht=>by rw [hfr] at ht; rw [hfa]; exact h2 t ht⟩
   | locals j t=>simp only [Piece,hfa] at hp ⊢; exact hp
   | stack j t=>simp only [Piece,hfa] at hp ⊢; exact hp
  ·rintro rfl
   exact hkf (h.apart k .fibers _ hlk trivial e (by rw [hV]; rfl))
theorem Ja {s:St} {i j:Nat} (f:Fr) (hi:i < s.fibers.length) (k:Key):live (Xl s i j f) k↔live s k:=by
 have hlen:(Xl s i j f).fibers.length=s.fibers.length:=Zv _ _ _
 cases k using Key.by <;> simp only [live,hlen,Jp f hi]
theorem Own.turnFrame {base:Nat} {w w1:World} {V:Key→Value} {s:St} (h:Own base w V s) {i j g cap:Nat} (hi:i < s.fibers.length) (hj:j < (Za s i).frames.length)
  (hV:V (.frames i)=.slice (some ⟨g,0,none⟩) (Za s i).frames.length cap) (vs:Value) (f:Fr) (u:Nat) (x:Value)
  (hu:u < 4) (hgrow:∀ b,b < w.heap.size→(V (.stack i j)).ownBlock≠some b→w1.heap[b]?=w.heap[b]?) (hown:w1.ownsRow base 3 1 vs f.stack.length (ints f.stack))
  (hat:vs.ownBlock=(V (.stack i j)).ownBlock∨vs.ownBlock=some w.heap.size) (hloc:f.locals=(frAt s i j).locals)
  (h0:(Value.int .i64 f.fn)=if u=0 then x else .int .i64 (frAt s i j).fn) (h1:(Value.int .i64 f.at_)=if u=1 then x else .int .i64 (frAt s i j).at_) (h2:V (.locals i j)=if u=2 then x else V (.locals i j)) (h3:vs=if u=3 then x else V (.stack i j)) :
  Own base (w1.setCell ⟨g,j * 4 + u,none⟩ x) (upd V (.stack i j) vs) (Xl s i j f):=by
 have hgb:(V (.frames i)).ownBlock=some g:=by rw [hV]; rfl
 have hlvF:live s (.frames i):=hi
 have hlvS:live s (.stack i j):=⟨hi,hj⟩
 have hgs:(V (.stack i j)).ownBlock≠some g:=fun e=>by have:=h.apart _ _ _ hlvS hlvF e hgb; cases this
 have hgw:g < w.heap.size:=((h.piece _ hlvF).block g hgb).2
 have hvs:vs.ownBlock≠some g:=by
  rcases hat with e | e
  ·rw [e]; exact hgs
  ·rw [e]; intro e'; cases e'; omega
 have hold:∀ k,live s k→k≠.frames i→k≠.stack i j→∀ b,(V k).ownBlock=some b→(w1.setCell ⟨g,j * 4 + u,none⟩ x).heap[b]?=w.heap[b]?:=by
  intro k hk hn1 hn2 b hb
  have hbw:=((h.piece k hk).block b hb).2
  rw [Below.heap_setCell _ _ _ _ (fun e=>hn1 (h.apart k _ b hk hlvF hb (by rw [hgb]; exact congrArg some e.symm)))]
  exact hgrow b hbw (fun e=>hn2 (h.apart k _ b hk hlvS hb e))
 refine h.turned (fun k hk=>?_) (fun k b hk e=>?_) (fun k k' b hk hk' ho e e'=>?_)
 ·have hlk:=(Ja f hi k).1 hk
  by_cases hkS:k=.stack i j
  ·subst hkS
   left
   show World.ownsRow _ _ _ _ _ _ _
   rw [Jb f hi hj,Xk]
   exact ownsRow_setCell_other hown hvs _
  ·by_cases hkF:k=.frames i
   ·subst hkF
    left
    obtain ⟨xs,r1,r2⟩:=h.piece _ hlvF
    rw [hV] at r1
    have r1':w1.ownsRow base 48 4 (.slice (some ⟨g,0,none⟩) (Za s i).frames.length cap) (Za s i).frames.length xs:=Qr r1 (fun b e=>by
     cases e
     exact hgrow g hgw hgs)
    have hx:j * 4 + u < xs.length:=by rw [r1.1]; omega
    refine ⟨xs.set (j * 4 + u) x,?_,fun t ht=>?_⟩
    ·rw [Jp f hi]
     rw [Zl V vs hkS,hV]
     exact (r1'.stored _ _).1
    ·rw [Jp f hi] at ht
     obtain ⟨q0,q1,q2,q3⟩:=r2 t ht
     by_cases e:j=t
     ·subst e
      rw [Jb f hi hj]
      refine ⟨?_,?_,?_,?_⟩
      ·rw [h0,List.getElem?_set]
       by_cases e:u=0
       ·subst e; simp; omega
       ·rw [if_neg (by omega),if_neg e]; exact q0
      ·rw [h1,List.getElem?_set]
       by_cases e:u=1
       ·subst e; simp; omega
       ·rw [if_neg (by omega),if_neg e]; exact q1
      ·rw [Zl V vs (by simp),h2,List.getElem?_set]
       by_cases e:u=2
       ·subst e; simp; omega
       ·rw [if_neg (by omega),if_neg e]; exact q2
      ·rw [Xk,h3,List.getElem?_set]
       by_cases e:u=3
       ·subst e; simp; omega
       ·rw [if_neg (by omega),if_neg e]; exact q3
     ·rw [frAt_ne f hi (fun h=>e h.2)]
      rw [Zl V vs (by simp),Zl V vs (by simp; intro h; exact e h.symm)]
      refine ⟨?_,?_,?_,?_⟩ <;> rw [List.getElem?_set,if_neg (by omega)] <;> assumption
   ·right
    refine ⟨hlk,Zl V vs hkS,fun hp=>?_,hold k hlk hkF hkS⟩
    cases k using Key.by with
    | fibers =>
     obtain ⟨xs,r1,r2⟩:=hp
     refine ⟨xs,?_,fun t ht=>?_⟩
     ·rw [show (Xl s i j f).fibers.length=s.fibers.length from Zv _ _ _,Zl V vs (by simp)]
      exact r1
     ·rw [show (Xl s i j f).fibers.length=s.fibers.length from Zv _ _ _] at ht
      rw [Kh f hi,Zl V vs (by simp)]
      exact r2 t ht
    | out=>simp only [Piece] at hp ⊢; rw [Zl V vs (by simp)]; exact hp
    | frames t =>
     have hne:i≠t:=fun e=>hkF (by rw [e])
     obtain ⟨xs,r1,r2⟩:=hp
     refine ⟨xs,by rw [Jp f hi,Zl V vs (by simp)]; exact r1,fun q hq=>?_⟩
     rw [Jp f hi] at hq
     rw [frAt_ne f hi (fun h=>hne h.1),Zl V vs (by simp),Zl V vs (by simp; intro h; exact absurd h.symm hne)]
     exact r2 q hq
    | locals t q =>
     simp only [Piece] at hp ⊢
     rw [Zl V vs (by simp)]
     by_cases e:i=t∧j=q
     ·obtain ⟨rfl,rfl⟩:=e
      rw [Jb f hi hj,hloc]
      exact hp
     ·rw [frAt_ne f hi e]; exact hp
    | stack t q =>
     simp only [Piece] at hp ⊢
     rw [Zl V vs hkS,frAt_ne f hi (fun h=>hkS (by rw [h.1,h.2]))]
     exact hp
 ·have hlk:=(Ja f hi k).1 hk
  by_cases hkS:k=.stack i j
  ·subst hkS
   rw [Xk] at e
   rcases hat with e' | e'
   ·exact .inl ⟨hlk,by rw [← e',e]⟩
   ·rw [e] at e'; cases e'
    exact .inr (h.new_off (.inl (Nat.le_refl _)))
  ·rw [Zl V vs hkS] at e
   exact .inl ⟨hlk,e⟩
 ·have hlk:=(Ja f hi k).1 hk
  have hlk':=(Ja f hi k').1 hk'
  by_cases hkS:k=.stack i j
  ·by_cases hkS':k'=.stack i j
   ·rw [hkS,hkS']
   ·rw [Zl V vs hkS'] at e'
    exact absurd e' (ho k' hlk')
  ·rw [Zl V vs hkS] at e
   exact absurd e (ho k hlk)
end Go.Proofs.YtblihfpigjiahaaGreatDoor
