/- FlowE -/
import Derived.Test.YtblihfpigjiahaaDoorWB08
import Derived.Test.YtblihfpigjiahaaDoorWB09
import Derived.Deep.RegionWith
import Derived.Deep.DeepCutAuto
set_option maxRecDepth 100000
set_option maxHeartbeats 8000000
namespace Go.Proofs.YtblihfpigjiahaaDoor
open Go.RowKit Go.Shelf
attribute [local go_sem] Oper.semAt_some
theorem Zvv {P:Program} {s:Code} {K:Act→World→Prop} {Q:Exit→Act→World→Prop} {a:Act} {w:World} (h:s.wp P (Exit.then K (fun _ _ _=>False)) a w):s.wp P (Exit.then K Q) a w:=by
 refine wp_mono h ?_
 intro e a' w' hq
 cases e with
 | normal=>exact hq
 | exit id=>exact hq.elim
 | goto l=>exact hq.elim
 | ret=>exact hq.elim
 | panic ch=>exact hq.elim
 | outgrown=>exact hq.elim
theorem Xar {Ba l:Nat} {W:World} {o:Obj} (h:Ba≠l):KpAt Ba W (W.putObj l o):=World.cell?_of_block (World.putObj_heap_other h)
def LoopI (p:List Fn) (g:Fn) (n:Nat) (H:List Int) (at_:Nat) (h m:Int) (B:Nat) (W2:World) (pre:List Nat) (W:World):Prop :=
 ∃ H',Yz (Ym p g.code n) pre (H.set at_ h) m=(true,H')∧Qe W B H'∧Zn B W2 W
def LoopX (p:List Fn) (g:Fn) (n:Nat) (H:List Int) (at_:Nat) (h m:Int) (B Br:Nat) (w W2:World) (c:Code) (pre:List Nat) (W:World):Prop :=
 c=.ret∧∃ H',Yz (Ym p g.code n) pre (H.set at_ h) m=(false,H')∧Qe W B H'∧W.cell? ⟨Br,0,none⟩=some (.bool false)∧Zn B w W∧W2.heap.size≤W.heap.size
theorem Zks {N:Nat} {W W':World} {row:Option Nat} (hN:N≤W.heap.size) (hg:W.grownBy W' row) (hr:∀ r,row=some r→N≤r):Below N W W' :=
 (Below.refl N W).grown hg hN hr
theorem Zn.below {B:Nat} {a b c:World} (h:Zn B a b) (k:Below a.heap.size b c):Zn B a c :=
 ⟨k.os.trans h.os,k.tape.trans h.tape,k.output.trans h.output,Nat.le_trans h.size k.size,fun i hi hn=>(k.block i hi).trans (h.block i hi hn)⟩
theorem Ztn {p:List Fn} {g:Fn} {n:Nat} {H:List Int} {at_:Nat} {h m:Int} {B:Nat} {W2:World} (hB:B<W2.heap.size):OwnFrom W2.heap.size (LoopI p g n H at_ h m B W2):=by
 rintro s W W' row ⟨H',h1,h2,h3⟩ hg hr
 have hb:=Zks h3.size hg (fun r e=>(hr r e).1)
 exact ⟨H',h1,(hb.block B hB).trans h2,h3.below hb⟩
theorem Zqg {p:List Fn} {g:Fn} {n:Nat} {H:List Int} {at_:Nat} {h m:Int} {B Br:Nat} {w W2:World} (hB:B<W2.heap.size) (hBr:Br<W2.heap.size) (hw:w.heap.size≤W2.heap.size) (c:Code):OwnFrom W2.heap.size (LoopX p g n H at_ h m B Br w W2 c):=by
 rintro s W W' row ⟨h0,H',h1,h2,h4,h3,h5⟩ hg hr
 have hb:=Zks h5 hg (fun r e=>(hr r e).1)
 exact ⟨h0,H',h1,(hb.block B hB).trans h2,(hb.cell (p:=⟨Br,0,none⟩) hBr).trans h4,h3.below (hb.mono hw),Nat.le_trans h5 hb.size⟩
theorem Zyh (n:Nat) (p:List Fn) (g:Fn) (oa:Option Addr) (bc oc lp cp lc cc B:Nat) (H:List Int) (at_:Nat) (h:Int) (x:Int × Int) (w0 w:World)
  (hw:ComeAt w0 w p g (.slice oa lp cp) (.slice (some ⟨bc,oc,none⟩) lc cc) B H) (hlc:lc=g.code.length) (hat:¬ ((lc:Int)≤at_)) (hx:g.code[at_]?=some x)
  (x0:w0.cell? ⟨bc,oc+at_*2,none⟩=some (.int .i64 x.1)) (x1:w0.cell? ⟨bc,oc+at_*2+1,none⟩=some (.int .i64 x.2)) (hs:H.getD at_ 0=-1) (h0:0≤h) (h8:h≤8) (hun:unv H<n+1)
  (IH:∀ (H':List Int) (at':Nat) (h':Int) (w':World),ComeAt w0 w' p g (.slice oa lp cp) (.slice (some ⟨bc,oc,none⟩) lc cc) B H'→0≤h'→h'≤8→unv H'<n →
   Calls Tryd.prog 63 #[.agg #[.slice oa lp cp,.slice (some ⟨bc,oc,none⟩) lc cc,.slice (some ⟨B,0,none⟩) lc lc],.int .i64 at',.int .i64 h'] w' fun e w''=>Zee p g n H' at' h' B w' e w'') :
  Calls Tryd.prog 63 #[.agg #[.slice oa lp cp,.slice (some ⟨bc,oc,none⟩) lc cc,.slice (some ⟨B,0,none⟩) lc lc],.int .i64 at_,.int .i64 h] w fun e w'=>Zee p g (n+1) H at_ h B w e w':=by
 have hlen:=hw.len
 have q:=hw.hs.cell (k:=at_) (by omega)
 rw [hs] at q
 have d:=(((Zb.refl w).alloc (.cells #[.slice oa lp cp,.slice (some ⟨bc,oc,none⟩) lc cc,.slice (some ⟨B,0,none⟩) lc lc] 108)).alloc (.cells #[.bool false] 4)).cell q
 have hfz:((w.alloc (.cells #[.slice oa lp cp,.slice (some ⟨bc,oc,none⟩) lc cc,.slice (some ⟨B,0,none⟩) lc lc] 108)).alloc (.cells #[.bool false] 4)).frozen? ⟨B,at_,none⟩=false:=(hw.hs.kept (((Zb.refl w).alloc _).alloc _)).frozen at_
 have HW:=Za hw
 have HL:=Za hlc
 have HX:=Za hx
 have X0:=Za x0
 have X1:=Za x1
 have HS:=Za hs
 have HI:=Za IH
 have HU:=Za hun
 have HN:=Za hlen
 clear hw hlc hx x0 x1 hs IH hun hlen q
 refine (callsIn_wide (n:=9)).1 (callsIn_of_wp_marks Tryd.func63 rfl trivial ?_ rfl)
 refine wpIn_wide.2 ?_
 simp only [Tryd.ntmps63,List.size_toArray,List.length_cons,List.length_nil,Nat.reduceAdd,Nat.reduceSub,Array.replicate_succ,Array.replicate_zero,List.push_toArray,List.append_toArray,List.nil_append,List.cons_append]
 go_wp2_with fail
 generalize hW1:((w.alloc (.cells #[.slice oa lp cp,.slice (some ⟨bc,oc,none⟩) lc cc,.slice (some ⟨B,0,none⟩) lc lc] 108)).alloc (.cells #[.bool false] 4)).setCell ⟨B,at_,none⟩ (.int .i64 h)=W1
 have hBw:B<w.heap.size:=(un HW).hs.lt
 have K1:Hid (Zn B w W1):=by
  rw [← hW1]
  exact Za ((Zn.of (((Zb.refl w).alloc _).alloc _)).setCell (p:=⟨B,at_,none⟩) (.inl rfl) _)
 have HH1:Hid (Qe W1 B (H.set at_ h)):=by
  rw [← hW1]
  exact ((un HW).hs.kept (((Zb.refl w).alloc _).alloc _)).set at_ h
 have L0:Hid (W1.heap[w.heap.size]?=some (.cells #[.slice oa lp cp,.slice (some ⟨bc,oc,none⟩) lc cc,.slice (some ⟨B,0,none⟩) lc lc] 108)):=by
  rw [← hW1]
  exact Zz (Zr (Zg rfl) _) (by simp;omega) _
 have L1:Hid (W1.heap[w.heap.size+1]?=some (.cells #[.bool false] 4)):=by
  rw [← hW1]
  exact Zz (Zg (by simp)) (by simp;omega) _
 have KK1:Hid (Zb w0 W1):=Zn.kept (un HW).kept (un HW).new (un K1)
 clear hW1 d hfz
 have e0:=Zd (un L0) 0
 have e1:=Zd (un L0) 1
 have e2:=Zd (un L0) 2
 simp only [List.getElem?_toArray,List.getElem?_cons_zero,List.getElem?_cons_succ] at e0 e1 e2
 have y0:=(un KK1).cell (un X0)
 have y1:=(un KK1).cell (un X1)
 have e0':∀ o1,(W1.alloc o1).cell? ⟨w.heap.size,0,none⟩=_:=fun o1=>((Zb.refl W1).alloc o1).cell e0
 have e1':∀ o1,(W1.alloc o1).cell? ⟨w.heap.size,1,none⟩=_:=fun o1=>((Zb.refl W1).alloc o1).cell e1
 have e2':∀ o1,(W1.alloc o1).cell? ⟨w.heap.size,2,none⟩=_:=fun o1=>((Zb.refl W1).alloc o1).cell e2
 have y0':∀ o1,(W1.alloc o1).cell? ⟨bc,oc+at_*2,none⟩=_:=fun o1=>((Zb.refl W1).alloc o1).cell y0
 have y1':∀ o1,(W1.alloc o1).cell? ⟨bc,oc+at_*2+1,none⟩=_:=fun o1=>((Zb.refl W1).alloc o1).cell y1
 have hop:Hid (opS p g x=0):=(un HW).right x (List.mem_of_getElem? (un HX))
 have HB:Hid (∀ u,Zb W1 u→Calls Tryd.prog 81 #[.agg #[.slice oa lp cp,.slice (some ⟨bc,oc,none⟩) lc cc,.slice (some ⟨B,0,none⟩) lc lc],.agg #[.int .i64 x.1,.int .i64 x.2],.int .i64 h] u fun e u'=>Zlu p x h u e u') :=
  fun u hu=>Zpg p g _ _ _ _ _ _ _ x h u ((un HW).prog.kept ((un KK1).trans hu)) ((un HW).kinds.kept ((un KK1).trans hu)) (un hop) h0 h8
 go_cut [7,8] from 33 to 43 (fun s7 s8 wx=>∃ Bm r,s7=.pointer (some ⟨Bm,0,none⟩)∧s8=.bool (beh p x h).isSome∧wx.cell? ⟨Bm,0,none⟩=some (.int .i64 r)∧W1.heap.size≤Bm∧Hid (∀ m,beh p x h=some m→r=m)∧Hid (Zb W1 wx))
 case first =>
  refine Zvv ?_
  go_region_with (go_at_call 81;refine ((un HB) _ ?_).mono ?_;(repeat (first | exact Zb.refl _ | refine Zb.drew ?_ | refine Zb.alloc ?_ _));rintro e w' ⟨r,rfl,hr,hkk⟩;(first | (have hz:=Zm hkk (Zg (o:=.cells #[.int .i64 0] 3) (b:=W1.heap.size) rfl);have hz0:=Zd hz 0;have hz1:=Zk hz 0;have HZ:=Za hz;clear hz) | (have hz:=Zm hkk (Xi (Zg (o:=.cells #[.int .i64 0] 3) (b:=W1.heap.size) rfl));have hz0:=Zd hz 0;have hz1:=Zk hz 0;have HZ:=Za hz;clear hz) | skip))
  all_goals go_wp2_with fail
  all_goals go_meet
  all_goals first
   | exact ⟨w'.heap.size,r,rfl,rfl,Zd (Zg rfl) 0,hkk.size,Za hr,Za (((Zb.refl W1).trans hkk).alloc _)⟩
   | exact ⟨w'.heap.size,r,rfl,rfl,Zd (Zg rfl) 0,hkk.size,Za hr,Za ((((Zb.refl W1).drew).trans hkk).alloc _)⟩
   | exact ⟨W1.heap.size,r,rfl,rfl,Zd (Zl (un HZ) 0 _) 0,Nat.le_refl _,Za hr,Za ((((Zb.refl W1).alloc _).trans hkk).setCell (p:=⟨W1.heap.size,0,none⟩) (Nat.le_refl _) _)⟩
   | exact ⟨W1.heap.size,r,rfl,rfl,Zd (Zl (un HZ) 0 _) 0,Nat.le_refl _,Za hr,Za (((((Zb.refl W1).alloc _).drew).trans hkk).setCell (p:=⟨W1.heap.size,0,none⟩) (Nat.le_refl _) _)⟩
   | exact ⟨W1.heap.size,r,rfl,rfl,Zd (Zl (un HZ) 0 _) 0,Nat.le_refl _,Za hr,Za (((((Zb.refl W1).drew).alloc _).trans hkk).setCell (p:=⟨W1.heap.size,0,none⟩) (Nat.le_refl _) _)⟩
 case rest =>
  obtain ⟨Bm,r,rfl,rfl,em,hBm,HR,HKW⟩:=hcut
  clear HB e0 e1 e2 y0 y1 e0' e1' e2' y0' y1'
  have L0c:Hid (wc.heap[w.heap.size]?=_):=Zm HKW.out (un L0)
  have L1c:Hid (wc.heap[w.heap.size+1]?=_):=Zm HKW.out (un L1)
  have HHc:Hid (Qe wc B (H.set at_ h)):=(un HH1).kept HKW.out
  have KXc:Hid (Zn B w wc):=(un K1).trans (.of HKW.out)
  have KKc:Hid (Zb w0 wc):=(un KK1).trans HKW.out
  have hsz:w.heap.size+2≤W1.heap.size:=by
   have:=(Array.getElem?_eq_some_iff.1 (un L1)).1
   omega
  have hszc:W1.heap.size≤wc.heap.size:=HKW.out.size
  have r0:=Zd (un L1c) 0
  have r1:=Zk (un L1c) 0
  simp only [List.getElem?_toArray,List.getElem?_cons_zero] at r0
  cases hb:beh p x h with
  | none =>
   have HBN:=Za hb
   clear hb
   go_wp2
   refine ⟨.bool false,by simp [results,Tryd.results63,go_sem,r0],false,H.set at_ h,?_,rfl,(un HHc).other (by simp;omega) _,(un KXc).setCell (.inr (by simp)) _⟩
   have:=un HL
   have hxd:=Zq g.code at_ (0,0) (by omega)
   rw [un HX] at hxd
   unfold Ym
   rw [if_neg (by omega),if_pos (un HS),← Option.some.inj hxd,un HBN]
  | some m =>
   obtain rfl:r=m:=HR.out m hb
   have HBS:=Za hb
   clear hb
   have e1:=Zd (un L0c) 1
   simp only [List.getElem?_toArray,List.getElem?_cons_zero,List.getElem?_cons_succ] at e1
   have y0:=(un KKc).cell (un X0)
   have y1:=(un KKc).cell (un X1)
   go_wp2_with (go_at_call 82;refine (Zvj _ _ _ _).mono ?_;rintro e w' ⟨rfl,rfl⟩)
   generalize hW2:(wc.alloc (.cells #[.int .i64 x.1,.int .i64 x.2] 86)).alloc (.cells #[.int .i64 at_] 3)=W2
   have K2:Hid (Zb wc W2):=by rw [← hW2];exact Za (((Zb.refl _).alloc _).alloc _)
   have b0:Hid (W2.heap[wc.heap.size]?=some (.cells #[.int .i64 x.1,.int .i64 x.2] 86)):=by rw [← hW2];exact Za (Zr (Zg rfl) _)
   have b1:Hid (W2.heap[wc.heap.size+1]?=some (.cells #[.int .i64 at_] 3)):=by rw [← hW2];exact Za (Zg (by simp))
   have hs2:wc.heap.size+2=W2.heap.size:=by rw [← hW2];simp
   clear hW2
   have hright:=(un HW).right x (List.mem_of_getElem? (un HX))
   have hmb:0≤r∧r≤8:=Pf ⟨g,rfl,(un HW).right⟩ (List.mem_of_getElem? (un HX)) (un HBS)
   have HRT:=Za hright
   have HMB:=Za hmb
   clear hright hmb
   have hjmp:x.1=9∨x.1=10→0≤x.2:=by
    intro hjz
    obtain ⟨_,_,hm⟩:=Wc (un HRT)
    have ho:opd x.1.toNat=3:=by rcases hjz with hjz | hjz <;> rw [hjz] <;> rfl
    rw [ho] at hm
    exact (Jq.1 (show ixB x.2 g.code.length=true from hm)).1
   have HJ:=Za hjmp
   clear hjmp e1 y0 y1
   have hat24:at_≤8796093022208:=by have:=(un HW).most;have:=un HL;omega
   refine (wpIn_wide (n:=9)).1 ?_
   refine wpIn_rangeFunc_ownG (α:=Nat) (N:=2) rfl (by decide) (gf:=88) (lb:=#[.pointer (some ⟨wc.heap.size,0,none⟩),.pointer (some ⟨wc.heap.size+1,0,none⟩)]) rfl trivial (enters_of Tryd.func88 (by kernel_rfl) rfl)
    (Zwy 8 wc.heap.size (wc.heap.size+1) x.1 x.2 at_ W2 (by decide) (Zd (un b0) 0) (Zd (un b0) 1) (Zd (un b1) 0) (un HJ) hat24)
    (fun h k=>Eq.trans k h) (fun W l o o' hl _ _ _=>Xar (by omega)) (Below.refl _ _) (fun _=>rfl)
    (LoopI p g n H at_ h r B W2) (LoopX p g n H at_ h r B (w.heap.size+1) w W2) (Ztn (by have:=(un HHc).lt;omega)) (fun c=>Zqg (by have:=(un HHc).lt;omega) (by omega) (by omega) c) ?start
    (fun j=>{ tmps:=#[.agg #[.slice oa lp cp,.slice (some ⟨bc,oc,none⟩) lc cc,.slice (some ⟨B,0,none⟩) lc lc],.int .i64 at_,.int .i64 h,.pointer (some ⟨w.heap.size,0,none⟩),undef,undef,.pointer (some ⟨w.heap.size+1,0,none⟩),.pointer (some ⟨Bm,0,none⟩),.bool true,.int .i64 j,.int .i64 at_,.pointer (some ⟨w.heap.size,1,none⟩),.slice (some ⟨bc,oc,none⟩) lc cc,.int .i64 lc,.bool false,.pointer (some ⟨w.heap.size,2,none⟩),.slice (some ⟨B,0,none⟩) lc lc,.int .i64 at_,.pointer (some ⟨B,at_,none⟩),.int .i64 (-1),.bool false,undef,undef,undef,undef,undef,undef,undef,.pointer (some ⟨w.heap.size,2,none⟩),.slice (some ⟨B,0,none⟩) lc lc,.int .i64 at_,.int .i64 h,.pointer (some ⟨B,at_,none⟩),u33,u34,u35,u36,u37,u38,u39,u40,u41,u42,u43,.bool true,.bool false,.pointer (some ⟨w.heap.size,1,none⟩),.slice (some ⟨bc,oc,none⟩) lc cc,.int .i64 at_,.pointer (some ⟨bc,oc+at_*2,none⟩),.agg #[.int .i64 x.1,.int .i64 x.2],.int .i64 at_,.func (.func 88) #[] #[.pointer (some ⟨wc.heap.size,0,none⟩),.pointer (some ⟨wc.heap.size+1,0,none⟩)],.int .i64 j,undef,undef,undef,undef,undef],defers:=[] }) ?assign ?body ?done ?stop
   case start=>exact ⟨H.set at_ h,rfl,(un HHc).kept (un K2),Zn.refl _ _⟩
   case assign =>
    intro l j W K hK
    gi_wp2
    exact hK
   case body =>
    rintro l pre j W ⟨H',hc',hH',hK'⟩ _
    have hBc:=(un HHc).lt
    have hW0:=hK'.lays (b:=w.heap.size) (by omega) (Zm (un K2) (un L0c))
    have hWr:=hK'.lays (b:=w.heap.size+1) (by omega) (Zm (un K2) (un L1c))
    have e0:=Zd hW0 0
    have e1:=Zd hW0 1
    have e2:=Zd hW0 2
    simp only [List.getElem?_toArray,List.getElem?_cons_zero,List.getElem?_cons_succ] at e0 e1 e2
    have em':=hK'.cell (p:=⟨Bm,0,none⟩) (by simp;omega) ((un K2).cell em)
    have hR:Yk p g.code:=⟨g,rfl,(un HW).right⟩
    have hlen2:(H.set at_ h).length=g.code.length:=by rw [List.length_set];exact un HN
    obtain ⟨hm1,_,_,_⟩:=Zin hR (Ym p g.code n) (fun H j m H' a b=>Zgt hR n H j m H' a b) pre (H.set at_ h) r H' hlen2 (un HMB).1 hc'
    have hu1:=(Zic (H.set at_ h) H' hm1.1 hm1.2).1
    have hu2:=Zhv H at_ h (un HS) (by omega)
    have hu3:=un HU
    have hic:=(un HI) H' j r W ⟨(un HW).prog,(un HW).code,(un HW).kinds,(un HW).right,(un HW).most,Zn.kept ((un KKc).trans (un K2)) (un HW).new hK',(un HW).new,hH',hm1.1.trans hlen2⟩ (un HMB).1 (un HMB).2 (by omega)
    have HIC:=Za hic
    have HW0:=Za hW0
    have HWR:=Za hWr
    have HC':=Za hc'
    have HK':=Za hK'
    clear hic hW0 hWr hc' hm1 hu1 hu2 hu3 hR hlen2 hK' hH'
    have hd:1≤9 - 1 - 1:=by decide
    gi_wp2_with fail
    refine ⟨trivial,(CallsIn.inRound l (callsIn_wide.2 (un HIC))).mono ?_⟩
    rintro e w3 ⟨b,H3,hc3,rfl,hH3,hk3⟩
    have HC3:=Za hc3
    have hr0:=hk3.lays (b:=w.heap.size+1) (by omega) (un HWR)
    have z0:=Zd hr0 0
    have z1:=Zk hr0 0
    simp only [List.getElem?_toArray,List.getElem?_cons_zero] at z0
    have HH3:=Za hH3
    have HK3:=Za hk3
    have HR0:=Za hr0
    clear hc3 hH3 hk3 hr0 HIC
    have hkf:Hid (KeepsFrom W2.heap.size W w3):=⟨(un HK3).size,fun k o hk ho _=>((un HK3).block k (Array.getElem?_eq_some_iff.1 ho).1 (by omega)).trans ho⟩
    have hsnoc:=Znp (Ym p g.code n) pre j (H.set at_ h) r
    rw [un HC'] at hsnoc
    have HSN:=Za hsnoc
    clear hsnoc
    cases b with
    | true =>
     gi_wp2
     refine ⟨un hkf,?_,H3,?_,un HH3,(un HK').trans (un HK3)⟩
     ·have hbx:=(un HK').lays (b:=wc.heap.size+1) (by omega) (un b1)
      exact World.cell?_of_block ((un HK3).block (wc.heap.size+1) (Array.getElem?_eq_some_iff.1 hbx).1 (by omega))
     ·rw [un HSN];exact un HC3
    | false =>
     gi_wp2
     refine ⟨(un hkf).trans ((KeepsOthers.setCell _ _ _).from _),rfl,H3,?_,(un HH3).other (by simp;omega) _,?_,?_,?_⟩
     ·rw [un HSN];exact un HC3
     ·exact Zd (Zl (un HR0) 0 _) 0
     ·exact (((un KXc).trans (.of (un K2))).trans ((un HK').trans (un HK3))).setCell (.inr (by simp)) _
     ·have a1:=(un HK').size
      have a2:=(un HK3).size
      simp only [World.setCell,Array.size_modify]
      omega
   case done =>
    rintro D xs W hD rfl ⟨H',hc',hH',hK'⟩ hDef
    have hBc:=(un HHc).lt
    have hWr:=hK'.lays (b:=w.heap.size+1) (by omega) (Zm (un K2) (un L1c))
    have z0:=Zd hWr 0
    have z1:=Zk hWr 0
    simp only [List.getElem?_toArray,List.getElem?_cons_zero] at z0
    have HWR:=Za hWr
    have HC':=Za hc'
    have HK':=Za hK'
    have HH':=Za hH'
    have HD:=Za hDef
    clear hWr hc' hK' hH' hDef
    go_wp2
    have hK4:=(KeepsOthers.setCell W ⟨w.heap.size+1,0,none⟩ (.bool true)).same D _ (un HD) rfl
    have hl5:((W.setCell ⟨w.heap.size+1,0,none⟩ (.bool true)).putObj D (.deferred none)).heap[w.heap.size+1]?=_:=(World.putObj_heap_other (by omega)).trans (Zl (un HWR) 0 _)
    have hc5:=Zd hl5 0
    simp only [Array.setIfInBounds,List.size_toArray,List.length_cons,List.length_nil] at hc5
    refine ⟨by simp,.inl ⟨_,_,rfl,run_takeDeferred hK4,?_⟩⟩
    refine ⟨.bool true,by simp [results,Tryd.results63,go_sem,hc5],true,H',?_,rfl,?_,?_⟩
    ·have:=un HL
     have hxd:=Zq g.code at_ (0,0) (by omega)
     rw [un HX] at hxd
     unfold Ym
     rw [if_neg (by omega),if_pos (un HS),← Option.some.inj hxd,un HBS]
     exact un HC'
    ·exact (World.putObj_heap_other (by omega)).trans ((un HH').other (p:=⟨w.heap.size+1,0,none⟩) (show w.heap.size+1≠B by omega) _)
    ·refine ((((un KXc).trans (.of (un K2))).trans (un HK')).setCell (p:=⟨w.heap.size+1,0,none⟩) (.inr (Nat.le_succ _)) (.bool true)).below ?_
     exact belowK_b (w:=w) (Nat.le_refl _) _ D _ _ (by omega) hK4 rfl rfl
   case stop =>
    rintro D c pre W hD ⟨rr,hpre⟩ ⟨rfl,H',hc',hH',hcr,hK',_⟩ hDef
    have HC':=Za hc'
    have HP':=Za hpre
    have HK':=Za hK'
    have HH':=Za hH'
    have HD:=Za hDef
    have HCR:=Za hcr
    clear hc' hpre hK' hH' hDef
    gi_wp2
    have hc5:(W.putObj D (.deferred none)).cell? ⟨w.heap.size+1,0,none⟩=some (.bool false):=(World.cell?_of_block (World.putObj_heap_other (by simp;omega))).trans hcr
    refine ⟨by simp,.inl ⟨_,_,rfl,run_takeDeferred (un HD),?_⟩⟩
    refine ⟨.bool false,by simp [results,Tryd.results63,go_sem,hc5],false,H',?_,rfl,?_,?_⟩
    ·have:=un HL
     have hxd:=Zq g.code at_ (0,0) (by omega)
     rw [un HX] at hxd
     unfold Ym
     rw [if_neg (by omega),if_pos (un HS),← Option.some.inj hxd,un HBS,← un HP']
     exact Xab _ _ _ _ _ (un HC') rr
    ·have:=(un HHc).lt
     exact (World.putObj_heap_other (by omega)).trans (un HH')
    ·exact (un HK').below (belowK_b (w:=w) (Nat.le_refl _) _ D _ _ (by omega) (un HD) rfl rfl)
end Go.Proofs.YtblihfpigjiahaaDoor
