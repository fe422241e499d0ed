/- SaveW, SaveI, RestB, SaveBg, SaveBa, SaveN, SaveO -/
import Derived.Test.YtblihfpigjiahaaDoorWB43
import Derived.Test.YtblihfpigjiahaaDoorWB32
import Derived.Test.YtblihfpigjiahaaDoorWB41
import Derived.Test.YtblihfpigjiahaaDoorWB01
import Derived.Test.YtblihfpigjiahaaDoorWB24
import Derived.Test.YtblihfpigjiahaaDoorWB37
import Derived.Test.YtblihfpigjiahaaDoorWB11
import Derived.Test.YtblihfpigjiahaaDoorWB22
import Derived.Laws.AppendOwn
import Derived.Maps.AppendAt
import Derived.Laws.Strings
import Derived.Test.YtblihfpigjiahaaDoorWB25
import Derived.Test.YtblihfpigjiahaaDoorWB42
set_option maxRecDepth 100000
set_option maxHeartbeats 8000000
namespace Go.Proofs.YtblihfpigjiahaaDoor
open Go.RowKit Go.Maps
def wrS (p:List Fn) (s:St):List UInt8:=if Xa p s=0 then Xk s else []
def Zkl (l:List UInt8) (er:Int) (w:World) (e:Ending) (w':World):Prop:=e=.returned (.tuple #[.string ⟨l.toArray⟩,.int .i64 er])∧Zb w w'
theorem Zxp (vp:Value) (oa oo:Option Addr) (n m cap co:Nat) (c er:Int) (w:World) (hz:er≠0) (HCK:Hid (∀ u,Zb w u→Calls Tryd.prog 13 #[vp,.agg #[.slice oa n cap,.int .i64 c,.slice oo m co]] u fun e w'=>e=.returned (.int .i64 er)∧Zb u w')) :
  Calls Tryd.prog 5 #[vp,.agg #[.slice oa n cap,.int .i64 c,.slice oo m co]] w (Zkl [] er w):=by
 have hb:(er != 0)=true:=bne_iff_ne.2 hz
 clear hz
 go_enter Tryd.func5,Tryd.ntmps5
 go_wp2_with fail
 obtain ⟨k9,l9⟩:=Jm (Zb.refl w) #[.slice oa n cap,.int .i64 c,.slice oo m co] 26
 generalize w.alloc (.cells #[.slice oa n cap,.int .i64 c,.slice oo m co] 26)=w1 at *
 generalize w.heap.size=B0 at *
 have HK:=Za k9
 clear k9 l9
 refine ((un HCK) _ (un HK)).mono ?_
 rintro _ w2 ⟨rfl,hk⟩
 replace HK:=Za ((un HK).trans hk)
 clear hk HCK
 go_wp2_with fail
 go_ret2
 exact ⟨rfl,un HK⟩
theorem Xcb (vp:Value) (s:St) (oa oo:Option Addr) (n m cap co:Nat) (c:Int) (w:World) (hs:Zy w (.agg #[.slice oa n cap,.int .i64 c,.slice oo m co]) s) (HB:Hid (StB s)) (hl:(Xk s).length≤100000000000)
  (HCK:Hid (∀ u,Zb w u→Calls Tryd.prog 13 #[vp,.agg #[.slice oa n cap,.int .i64 c,.slice oo m co]] u fun e w'=>e=.returned (.int .i64 0)∧Zb u w')) :
  Calls Tryd.prog 5 #[vp,.agg #[.slice oa n cap,.int .i64 c,.slice oo m co]] w (Zkl (Xk s) 0 w):=by
 have hcn:=(Xaj hs).1
 subst hcn
 have HS:=Za hs
 have HL:=Za hl
 clear hs hl
 go_enter Tryd.func5,Tryd.ntmps5
 go_wp2_with fail
 obtain ⟨k9,l9⟩:=Jm (Zb.refl w) #[.slice oa n cap,.int .i64 s.now,.slice oo m co] 26
 generalize w.alloc (.cells #[.slice oa n cap,.int .i64 s.now,.slice oo m co] 26)=w1 at *
 generalize w.heap.size=B0 at *
 have HK:=Za k9
 have HLx:=Za l9
 clear k9 l9
 refine ((un HCK) _ (un HK)).mono ?_
 rintro _ w2 ⟨rfl,hk⟩
 replace HK:=Za ((un HK).trans hk)
 replace HLx:=Za (Zm hk (un HLx))
 clear hk HCK
 have a0:=Zir (un HLx) 0
 have a1:=Zir (un HLx) 1
 have a2:=Zir (un HLx) 2
 have HW:Hid (Jf w2 (w2.alloc (.cells #[.slice none 0 0] 42)) w2.heap.size []):=Za ⟨_,Zg rfl,Nat.le_refl _,⟨rfl,.inl ⟨rfl,rfl⟩⟩,by simp [Value.ownBlock],(Zb.refl w2).alloc _⟩
 obtain ⟨vf,vo,e,hf,ho⟩:=(un HS).kept (un HK)
 simp only [Value.agg.injEq,Array.mk.injEq,List.cons.injEq,and_true,true_and] at e
 obtain ⟨rfl,rfl⟩:=e
 have HC:=Za (Zsw w2 _ w2.heap.size [] s _ _ (un HW) hf ho (un HB).now (Za fun x hx=>⟨((un HB).fiber x hx).1,((un HB).fiber x hx).2.1⟩) (by have:=un HL;simpa using this))
 clear hf ho HW
 go_wp2_with fail
 generalize w2.alloc (.cells #[.slice none 0 0] 42)=w3 at *
 generalize w2.heap.size=B at *
 refine (un HC).mono ?_
 rintro _ w4 ⟨rfl,h4,k4⟩
 obtain ⟨cv,hB,_,hrow,_,hk4⟩:=h4
 rw [List.nil_append] at hrow
 obtain ⟨ob,cb,rfl,hopen⟩:=Zag hrow
 have hne:0<(Xk s).length:=by simp [Xk]
 obtain ⟨g,cur,rfl,_,hg,_,_,hcur⟩:=hopen hne
 have hcv:=run_convert_bytes_back (P:=Tryd.prog) w4 40 9 5 ⟨g,0,none⟩ cb (Xk s) Tryd.underlying40 Tryd.underlying5 Tryd.underlying9 (fun j hj=>by
  have:((⟨g,0,none⟩:Addr).add j)=⟨g,j,none⟩:=by unfold Addr.add;split <;> simp_all
  rw [this,Zd hg]
  exact hcur j _ (by simp [Jh,hj]))
 have b0:=Zd hB 0
 have HK4:=Za ((un HK).trans hk4)
 generalize hn:(Xk s).length=N at *
 clear hB hrow hopen hne hg hcur hk4 k4 HC a0 a1 a2 hn HL
 go_wp2_with fail
 go_ret2
 exact ⟨rfl,un HK4⟩
open Go.RowKit
theorem Zhg (vp:Value) (l:List UInt8) (w:World) (hl:l.length≤8192)
  (HPC:Hid (∀ u,Zb w u→Calls Tryd.prog 20 #[vp] u fun e w'=>e=.returned (.int .i64 0)∧Zb u w'))
  (HWH:Hid (∀ u,Zb w u→Calls Tryd.prog 21 #[.string ⟨l.toArray⟩] u fun e w'=>e=.returned (.tuple #[.agg #[.slice none 0 0,.int .i64 0,.slice none 0 0],.int .i64 1])∧Zb u w')) :
  Jc 8 #[vp,.string ⟨l.toArray⟩] w St.zero [.int .i64 1]:=by
 unfold Jc
 have LR:Hid ((w.alloc (.cells #[.slice none 0 0,.int .i64 0,.slice none 0 0] 26)).heap[w.heap.size]?=some (.cells #[.slice none 0 0,.int .i64 0,.slice none 0 0] 26)):=Za (Zg rfl)
 have HK:Hid (Zb w (w.alloc (.cells #[.slice none 0 0,.int .i64 0,.slice none 0 0] 26))):=Za ((Zb.refl w).alloc _)
 have hsz:(ByteArray.mk l.toArray).size=l.length:=by simp [ByteArray.size]
 have hl1:¬ (8192:Int)<(l.length:Int):=by omega
 generalize (ByteArray.mk l.toArray)=S at *
 generalize l.length=N at *
 go_enter Tryd.func8,Tryd.ntmps8
 go_wp2_with fail
 generalize w.alloc (.cells #[.slice none 0 0,.int .i64 0,.slice none 0 0] 26)=wa at *
 generalize hRR:w.heap.size=R at LR ⊢
 have HR:Hid (w.heap.size≤R):=Za (by omega)
 clear hRR
 refine ((un HPC) _ (un HK)).mono ?_
 rintro _ w1 ⟨rfl,hk⟩
 replace LR:=Za (Zm hk (un LR))
 replace HK:=Za ((un HK).trans hk)
 clear hk
 go_wp2_with fail
 refine ((un HWH) _ (un HK)).mono ?_
 rintro _ w2 ⟨rfl,hk⟩
 replace LR:=Za (Zm hk (un LR))
 replace HK:=Za ((un HK).trans hk)
 clear hk HPC HWH
 replace LR:=Za (Zr (un LR) (.cells #[.slice none 0 0,.int .i64 0,.slice none 0 0] 26))
 replace HK:=Za ((un HK).alloc (.cells #[.slice none 0 0,.int .i64 0,.slice none 0 0] 26))
 have x0:=Zd (un LR) 0
 have x1:=Zd (un LR) 1
 have x2:=Zd (un LR) 2
 have z0:=Zk (un LR) 0
 have z1:=Zk (un LR) 1
 have z2:=Zk (un LR) 2
 simp only [List.getElem?_toArray,List.getElem?_cons_zero,List.getElem?_cons_succ] at x0 x1 x2
 go_wp2_with fail
 have k1:=Zl (Zl (Zl (un LR) 0 (.slice none 0 0)) 1 (.int .i64 0)) 2 (.slice none 0 0)
 have t0:=Zd k1 0
 have t1:=Zd k1 1
 have t2:=Zd k1 2
 simp only [Array.setIfInBounds,List.size_toArray,List.length_cons,List.length_nil] at t0 t1 t2
 refine bodyPost_ret (v:=.tuple #[.agg #[.slice none 0 0,.int .i64 0,.slice none 0 0],.int .i64 1]) (by simp [results,Tryd.results8,go_sem,t0,t1,t2]) rfl ?_
 exact ⟨none,0,0,0,none,0,0,rfl,Ps _,(((un HK).setCell (p:=⟨R,0,none⟩) (un HR) _).setCell (p:=⟨R,1,none⟩) (un HR) _).setCell (p:=⟨R,2,none⟩) (un HR) _⟩
theorem Zna (vp:Value) (l:List UInt8) (s:St) (w:World) (hl:l.length≤8192) (hsm:Yi s)
  (HPC:Hid (∀ u,Zb w u→Calls Tryd.prog 20 #[vp] u fun e w'=>e=.returned (.int .i64 0)∧Zb u w'))
  (HWH:Hid (∀ u,Zb w u→Calls Tryd.prog 21 #[.string ⟨l.toArray⟩] u fun en w'=>∃ gf go,en=.returned (.tuple #[.agg #[.slice (some ⟨gf,0,none⟩) s.fibers.length s.fibers.length,.int .i64 s.now,.slice (some ⟨go,0,none⟩) s.out.length s.out.length],.int .i64 0])∧StN w' gf go s∧Zb u w'))
  (HSC:Hid (∀ u v,Zb w u→Zy u v s→Calls Tryd.prog 13 #[vp,v] u fun e w'=>e=.returned (.int .i64 0)∧Zb u w')) :
  Jc 8 #[vp,.string ⟨l.toArray⟩] w s [.int .i64 0]:=by
 unfold Jc
 have HSM:=Za hsm
 clear hsm
 generalize hla:s.fibers.length=la at *
 generalize hls:s.out.length=ls at *
 have HLA:=Za (And.intro hla hls)
 clear hla hls
 have LR:Hid ((w.alloc (.cells #[.slice none 0 0,.int .i64 0,.slice none 0 0] 26)).heap[w.heap.size]?=some (.cells #[.slice none 0 0,.int .i64 0,.slice none 0 0] 26)):=Za (Zg rfl)
 have HK:Hid (Zb w (w.alloc (.cells #[.slice none 0 0,.int .i64 0,.slice none 0 0] 26))):=Za ((Zb.refl w).alloc _)
 have hsz:(ByteArray.mk l.toArray).size=l.length:=by simp [ByteArray.size]
 have hl1:¬ (8192:Int)<(l.length:Int):=by omega
 generalize (ByteArray.mk l.toArray)=S at *
 generalize l.length=N at *
 go_enter Tryd.func8,Tryd.ntmps8
 go_wp2_with fail
 generalize w.alloc (.cells #[.slice none 0 0,.int .i64 0,.slice none 0 0] 26)=wa at *
 generalize hRR:w.heap.size=R at LR ⊢
 have HR:Hid (w.heap.size≤R):=Za (by omega)
 clear hRR
 refine ((un HPC) _ (un HK)).mono ?_
 rintro _ w1 ⟨rfl,hk⟩
 replace LR:=Za (Zm hk (un LR))
 replace HK:=Za ((un HK).trans hk)
 clear hk
 go_wp2_with fail
 refine ((un HWH) _ (un HK)).mono ?_
 rintro _ w2 ⟨gf,go,rfl,hst,hk⟩
 replace LR:=Za (Zr (Zm hk (un LR)) (.cells #[.slice (some ⟨gf,0,none⟩) la la,.int .i64 s.now,.slice (some ⟨go,0,none⟩) ls ls] 26))
 replace HK:=Za (((un HK).trans hk).alloc (.cells #[.slice (some ⟨gf,0,none⟩) la la,.int .i64 s.now,.slice (some ⟨go,0,none⟩) ls ls] 26))
 have LB:Hid ((w2.alloc (.cells #[.slice (some ⟨gf,0,none⟩) la la,.int .i64 s.now,.slice (some ⟨go,0,none⟩) ls ls] 26)).heap[w2.heap.size]?=some (.cells #[.slice (some ⟨gf,0,none⟩) la la,.int .i64 s.now,.slice (some ⟨go,0,none⟩) ls ls] 26)):=Za (Zg rfl)
 have HN:Hid (StN (w2.alloc (.cells #[.slice (some ⟨gf,0,none⟩) la la,.int .i64 s.now,.slice (some ⟨go,0,none⟩) ls ls] 26)) gf go s):=Za ⟨hst.1.stay (Zs.alloc _),hst.2.stay (Zs.alloc _)⟩
 have hA:=(un HN).st (un HSM)
 rw [(un HLA).1,(un HLA).2] at hA
 have HS:=Za hA
 clear hA hst hk HPC HWH
 go_wp2_with fail
 generalize w2.alloc (.cells #[.slice (some ⟨gf,0,none⟩) la la,.int .i64 s.now,.slice (some ⟨go,0,none⟩) ls ls] 26)=w3 at *
 generalize w2.heap.size=X at *
 refine ((un HSC) _ _ (un HK) (un HS)).mono ?_
 rintro _ w4 ⟨rfl,hk⟩
 replace LR:=Za (Zm hk (un LR))
 replace LB:=Za (Zm hk (un LB))
 replace HK:=Za ((un HK).trans hk)
 replace HN:Hid (StN w4 gf go s):=Za ⟨(un HN).1.stay (fun _ _ _ _ hg=>Zm hk hg),(un HN).2.stay (fun _ _ _ _ hg=>Zm hk hg)⟩
 clear hk HS
 have x0:=Zd (un LR) 0
 have x1:=Zd (un LR) 1
 have x2:=Zd (un LR) 2
 have z0:=Zk (un LR) 0
 have z1:=Zk (un LR) 1
 have z2:=Zk (un LR) 2
 have y0:=Zd (un LB) 0
 have y1:=Zd (un LB) 1
 have y2:=Zd (un LB) 2
 simp only [List.getElem?_toArray,List.getElem?_cons_zero,List.getElem?_cons_succ] at x0 x1 x2 y0 y1 y2
 go_wp2_with fail
 have k1:=Zl (Zl (Zl (un LR) 0 (.slice (some ⟨gf,0,none⟩) la la)) 1 (.int .i64 s.now)) 2 (.slice (some ⟨go,0,none⟩) ls ls)
 have t0:=Zd k1 0
 have t1:=Zd k1 1
 have t2:=Zd k1 2
 simp only [Array.setIfInBounds,List.size_toArray,List.length_cons,List.length_nil] at t0 t1 t2
 refine bodyPost_ret (v:=.tuple #[.agg #[.slice (some ⟨gf,0,none⟩) la la,.int .i64 s.now,.slice (some ⟨go,0,none⟩) ls ls],.int .i64 0]) (by simp [results,Tryd.results8,go_sem,t0,t1,t2]) rfl ?_
 have g1:=Zl (un LR) 0 (.slice (some ⟨gf,0,none⟩) la la)
 have g2:=Zl g1 1 (.int .i64 s.now)
 have st:=((Zs.set (ts:=[3,53,46]) (un LR) (by decide) 0 (.slice (some ⟨gf,0,none⟩) la la)).trans (Zs.set g1 (by decide) 1 (.int .i64 s.now))).trans (Zs.set g2 (by decide) 2 (.slice (some ⟨go,0,none⟩) ls ls))
 have hF:StN _ gf go s:=⟨(un HN).1.stay st,(un HN).2.stay (st.sub (by simp))⟩
 have hA:=hF.st (un HSM)
 rw [(un HLA).1,(un HLA).2] at hA
 exact ⟨_,_,_,_,_,_,_,rfl,hA,(((un HK).setCell (p:=⟨R,0,none⟩) (un HR) _).setCell (p:=⟨R,1,none⟩) (un HR) _).setCell (p:=⟨R,2,none⟩) (un HR) _⟩
theorem Zif {P:Program} {md:Region.Mode} {Q:Exit→Act→World→Prop} {S:World→Prop} {L tl:List Oper} {i:Nat} {oi:Oper} {fuel:Nat} {listed:Array Bool} {a:Act} {w:World} (hd:L.drop i=oi :: tl)
  (hr:Region.ready md L.toArray listed=[i])
  (h:∀ K':Act→World→Prop,Shut (∀ a w,S w→(S w→wpAnyH P md L.toArray Q S fuel (listed.setIfInBounds i true) a w)→K' a w)→if Region.wanted oi (yielded L.toArray a.tmps)=true then Oper.wp P oi a w K' Q else K' (a.put oi.dst undef) w) :
  wpAnyH P md L.toArray Q S (fuel+1) listed a w :=
 wpAnyH_ready hr (by simp) (AllReadyH.cons (Pb hd) h AllReadyH.nil)
theorem Zwu:(Tryd.prog.info? 58).map (fun i=>(i.zero,i.size,i.bytes))=some (some (.agg #[.int .i64 0,.int .i64 0,.slice none 0 0]),3,40):=by kernel_rfl
def Zbm (w:World) (v:Value) (c:List (Int × Int)):Prop :=
 ∃ D cap cur,v=.slice (some ⟨D,0,none⟩) c.length cap∧w.heap[D]?=some (.cells cur 86)∧∀ (j:Nat) u,(Pi c)[j]?=some u→cur[j]?=some u
theorem Zbm.code {w:World} {v:Value} {c:List (Int × Int)} (h:Zbm w v c) (hl:c.length≤1000):Wf w v c:=by
 obtain ⟨D,cap,cur,rfl,hD,hc⟩:=h
 refine ⟨_,cap,rfl,by omega,fun i x hx=>?_⟩
 obtain ⟨f1,f2⟩:=Zfw c i x hx
 refine ⟨D,0,rfl,?_,?_⟩
 ·rw [Zd hD];simpa using hc _ _ f1
 ·rw [Zd hD];simpa using hc _ _ f2
theorem Zbm.kept {w w':World} {v:Value} {c:List (Int × Int)} (h:Zbm w v c) (k:Zb w w'):Zbm w' v c:=by
 obtain ⟨D,cap,cur,e,hD,hc⟩:=h
 exact ⟨D,cap,cur,e,Zm k hD,hc⟩
def Po (w0 w:World) (v:Value) (p:List Fn) (k:Nat):Prop :=
 ∃ l:List (Fn × Value),l.length=k∧l.map (·.1)=p.take k∧w.ownsRow w0.heap.size 58 3 v k (Uo l)∧(∀ x∈l,Zbm w x.2 x.1.code)∧Zb w0 w
theorem Po.start (w:World) (p:List Fn):Po w w (.slice none 0 0) p 0:=⟨[],rfl,rfl,⟨rfl,.inl ⟨rfl,rfl⟩⟩,(fun x hx=>by cases hx),Zb.refl w⟩
theorem Po.kept {w0 w w':World} {v:Value} {p:List Fn} {k:Nat} (h:Po w0 w v p k) (hk:Zb w w'):Po w0 w' v p k:=by
 obtain ⟨l,h1,h2,h3,h4,h5⟩:=h
 exact ⟨l,h1,h2,Jl h3 (fun g hg=>hk.block g (World.ownsRow.lt h3 g hg).2),fun x hx=>(h4 x hx).kept hk,h5.trans hk⟩
theorem Zts (l:List (Fn × Value)) (x:Fn × Value):Uo (l++[x])=Uo l++[.int .i64 x.1.args,.int .i64 x.1.locals,x.2]:=by simp [Uo]
theorem Po.prog {w0 w:World} {v:Value} {p:List Fn} (h:Po w0 w v p p.length) (hp:p.length≤5) (hc:∀ f∈p,f.code.length≤24):Zw w v p:=by
 obtain ⟨l,h1,h2,h3,h4,_⟩:=h
 rw [List.take_length] at h2
 obtain ⟨oa,cap,rfl,hr⟩:=Zag h3
 refine ⟨oa,cap,rfl,by omega,fun i f hf=>?_⟩
 have hi:=(List.getElem?_eq_some_iff.1 hf).1
 obtain ⟨g,cur,rfl,_,hg,_,_,hu⟩:=hr (by omega)
 rw [← h2,List.getElem?_map,Option.map_eq_some_iff] at hf
 obtain ⟨x,hx,rfl⟩:=hf
 obtain ⟨f1,f2,f3⟩:=Zhu l i x hx
 have hm:=List.mem_of_getElem? hx
 refine ⟨g,0,x.2,rfl,?_,?_,?_,(h4 x hm).code (by have:=hc x.1 (by rw [← h2];exact List.mem_map_of_mem hm);omega)⟩
 ·rw [Zd hg];simpa using hu _ _ f1
 ·rw [Zd hg];simpa using hu _ _ f2
 ·rw [Zd hg];simpa using hu _ _ f3
theorem Po.more {w0 u:World} {v cv:Value} {p:List Fn} {k:Nat} {f:Fn} (h:Po w0 u v p k) (hf:p[k]?=some f) (hk5:k≤5) (hcv:Zbm u cv f.code) :
  ∃ o' c' u',(Builtin.append_ #[22,22] 22 #[v,.slice (some ⟨u.heap.size,0,none⟩) 1 1]).run Tryd.prog (u.alloc (.cells #[.int .i64 f.args,.int .i64 f.locals,cv] 58))=.ok (.slice o' (k+1) c') u'∧Po w0 u' (.slice o' (k+1) c') p (k+1):=by
 obtain ⟨i0,hi0,hz0,hz1,hz2⟩:=info_parts Zwu
 obtain ⟨l,h1,h2,h3,h4,h5⟩:=h
 obtain ⟨D,cp,cur,rfl,hD,hcur⟩:=id hcv
 have hL:(u.alloc (.cells #[.int .i64 f.args,.int .i64 f.locals,.slice (some ⟨D,0,none⟩) f.code.length cp] 58)).heap[u.heap.size]?=some (.cells #[.int .i64 f.args,.int .i64 f.locals,.slice (some ⟨D,0,none⟩) f.code.length cp] 58):=Zg rfl
 obtain ⟨v',u',hrun,hown,hgrow,_,hat⟩:=run_append_own_at (P:=Tryd.prog) _ w0.heap.size 22 22 58 i0 _ 3 40 Tryd.underlying22 hi0 hz0 hz1 hz2 rfl (by decide) v k (Uo l) (Jl (w':=u.alloc (.cells #[.int .i64 f.args,.int .i64 f.locals,.slice (some ⟨D,0,none⟩) f.code.length cp] 58)) h3 (fun g hg=>Below.heap_alloc u _ g (World.ownsRow.lt h3 g hg).2)) ⟨u.heap.size,0,none⟩ 1 1 [.int .i64 f.args,.int .i64 f.locals,.slice (some ⟨D,0,none⟩) f.code.length cp] rfl (fun j x hj=>by
   rw [Zkv,Zd hL];simpa using hj) (fun x hx=>by
   simp only [List.mem_cons,List.not_mem_nil,or_false] at hx
   rcases hx with rfl | rfl | rfl <;> rfl) (by unfold maxLen;omega) (by omega) (Nat.le_trans h5.size (by simp))
 obtain ⟨oa,cap,rfl,_⟩:=Zag hown
 have hkk:Zb w0 u':=Below.grown (h5.alloc _) hgrow (h5.alloc _).size (fun g hg=>(World.ownsRow.lt h3 g hg).1)
 have hstay:∀ {E:Nat} {cc:Array Value},u.heap[E]?=some (.cells cc 86)→u'.heap[E]?=some (.cells cc 86):=fun {E cc} hE=>by
  have hlt:E<u.heap.size:=(Array.getElem?_eq_some_iff.1 hE).1
  refine (hgrow.block E (by simp;omega) (fun e=>?_)).trans (Zr hE _)
  obtain ⟨_,⟨rfl,_⟩ | ⟨g,_,cur',rfl,_,hh,_⟩⟩:=h3
  ·cases e
  ·obtain rfl:E=g:=by simpa [Value.ownBlock] using e
   rw [hE] at hh
   simp at hh
 refine ⟨oa,cap,u',hrun,l++[(f,.slice (some ⟨D,0,none⟩) f.code.length cp)],by simp [h1],?_,?_,?_,hkk⟩
 ·rw [List.map_append,h2,List.take_add_one,hf];rfl
 ·rw [Zts];exact hown
 ·intro x hx
  rcases List.mem_append.1 hx with hx | hx
  ·obtain ⟨E,q,cc,e,hE,hq⟩:=h4 x hx
   exact ⟨E,q,cc,e,hstay hE,hq⟩
  ·obtain rfl:=List.mem_singleton.1 hx
   exact ⟨D,cp,cur,rfl,hstay hD,hcur⟩
theorem Zsa (w:World) (P:List Fn) (s6:St) (l:List UInt8) (hl:l.length=39)
  (HCN:Hid (∀ u,Calls Tryd.prog 26 #[] u fun e w'=>∃ v,e=.returned v∧Zw w' v P∧Zb u w'))
  (HA6:Hid (∀ u v,Zw u v P→Calls Tryd.prog 27 #[v,.int .i64 6] u fun e w'=>∃ oa n cap c oo m co,e=.returned (.agg #[.slice oa n cap,.int .i64 c,.slice oo m co])∧Zy w' (.agg #[.slice oa n cap,.int .i64 c,.slice oo m co]) s6∧Zb u w'))
  (HW:Hid (∀ u vp v,Zb w u→Zw u vp P→Zy u v s6→Calls Tryd.prog 5 #[vp,v] u fun e w'=>e=.returned (.tuple #[.string ⟨l.toArray⟩,.int .i64 0])∧Zb u w'))
  (HWZ:Hid (∀ u vp,Zb w u→Zw u vp P→Calls Tryd.prog 5 #[vp,.agg #[.slice none 0 0,.int .i64 0,.slice none 0 0]] u fun e w'=>e=.returned (.tuple #[.string ⟨#[]⟩,.int .i64 5])∧Zb u w'))
  (HR:Hid (∀ u vp,Zb w u→Zw u vp P→Jc 8 #[vp,.string ⟨l.toArray⟩] u s6 [.int .i64 0]))
  (HRX:Hid (∀ u vp,Zb w u→Zw u vp P→Jc 8 #[vp,.string ⟨(l++[120]).toArray⟩] u St.zero [.int .i64 1]))
  (HSS:Hid (∀ u v1 v2,Zy u v1 s6→Zy u v2 s6→Calls Tryd.prog 12 #[v1,v2] u fun e w'=>e=.returned (.bool true)∧Zb u w')) :
  Calls Tryd.prog 11 #[] w fun e w'=>e=.returned (.bool true)∧Zb w w':=by
 have HK:=Za (Zb.refl w)
 have hsz:(ByteArray.mk l.toArray).size=39:=by simp [ByteArray.size,hl]
 have hadd:∀ u,(Op.stringOp .add (ByteArray.mk l.toArray) (ByteArray.mk #[120])).run Tryd.prog u=.ok (.string ⟨(l++[120]).toArray⟩) u:=fun u=>by
  have e:ByteArray.mk l.toArray++ByteArray.mk #[120]=ByteArray.mk (l++[120]).toArray:=by
   apply ByteArray.ext
   simp
  have h2:¬ (((ByteArray.mk l.toArray).size+(ByteArray.mk #[120]).size:Nat):Int) > IntKind.i64.max:=by
   rw [hsz]
   decide
  simp only [Op.stringOp,h2,if_false,e]
  rfl
 generalize (ByteArray.mk (l++[120]).toArray)=S2 at *
 generalize (ByteArray.mk l.toArray)=S at *
 clear hl
 unfold Jc at HR HRX
 go_enter Tryd.func11,Tryd.ntmps11
 go_wp2_with fail
 refine ((un HCN) _).mono ?_
 rintro _ w1 ⟨v1,rfl,hp,hk⟩
 replace HK:=Za ((un HK).trans hk)
 have HQ:=Za hp
 clear hk hp
 go_wp2_with fail
 refine ((un HCN) _).mono ?_
 rintro _ w2 ⟨v2,rfl,hp,hk⟩
 replace HK:=Za ((un HK).trans hk)
 replace HQ:=Za ((un HQ).kept hk)
 have HC:=Za ((un HA6) _ _ hp)
 clear hk hp
 go_wp2_with fail
 refine (un HC).mono ?_
 rintro _ w3 ⟨oa,n,cap,c,oo,m,co,rfl,hs,hk⟩
 replace HK:=Za ((un HK).trans hk)
 have HC2:=Za ((un HW) _ _ _ (un HK) ((un HQ).kept hk) hs)
 clear hk hs HC HQ
 go_wp2_with fail
 refine (un HC2).mono ?_
 rintro _ w4 ⟨rfl,hk⟩
 replace HK:=Za ((un HK).trans hk)
 clear hk HC2
 go_wp2_with fail
 refine ((un HCN) _).mono ?_
 rintro _ w5 ⟨v5,rfl,hp,hk⟩
 replace HK:=Za ((un HK).trans hk)
 have HC:=Za ((un HR) _ _ (un HK) hp)
 clear hk hp
 go_wp2_with fail
 refine (un HC).mono ?_
 rintro _ w6 ⟨oa,n,cap,c,oo,m,co,rfl,hs,hk⟩
 replace HK:=Za ((un HK).trans hk)
 have HS:=Za hs
 clear hk hs HC
 go_wp2_with fail
 obtain ⟨k9,l9⟩:=Jm (Zb.refl w6) #[.slice oa n cap,.int .i64 c,.slice oo m co] 26
 generalize w6.alloc (.cells #[.slice oa n cap,.int .i64 c,.slice oo m co] 26)=x6 at *
 generalize w6.heap.size=B6 at *
 replace HK:=Za ((un HK).trans k9)
 replace HS:=Za ((un HS).kept k9)
 have HL:=Za l9
 clear k9 l9
 refine ((un HCN) _).mono ?_
 rintro _ w7 ⟨v7,rfl,hp,hk⟩
 replace HK:=Za ((un HK).trans hk)
 replace HS:=Za ((un HS).kept hk)
 replace HL:=Za (Zm hk (un HL))
 have HC:=Za ((un HRX) _ _ (un HK) hp)
 clear hk hp
 go_wp2_with fail
 refine (un HC).mono ?_
 rintro _ w8 ⟨oa',n',cap',c',oo',m',co',rfl,_,hk⟩
 replace HK:=Za ((un HK).trans hk)
 replace HS:=Za ((un HS).kept hk)
 replace HL:=Za (Zm hk (un HL))
 clear hk HC
 go_wp2_with fail
 obtain ⟨k9,-⟩:=Jm (Zb.refl w8) #[.slice oa' n' cap',.int .i64 c',.slice oo' m' co'] 26
 generalize w8.alloc (.cells #[.slice oa' n' cap',.int .i64 c',.slice oo' m' co'] 26)=x8 at *
 generalize w8.heap.size=B8 at *
 replace HK:=Za ((un HK).trans k9)
 replace HS:=Za ((un HS).kept k9)
 replace HL:=Za (Zm k9 (un HL))
 clear k9
 refine ((un HCN) _).mono ?_
 rintro _ w9 ⟨v9,rfl,hp,hk⟩
 replace HK:=Za ((un HK).trans hk)
 replace HS:=Za ((un HS).kept hk)
 replace HL:=Za (Zm hk (un HL))
 have HC:=Za ((un HWZ) _ _ (un HK) hp)
 clear hk hp
 go_wp2_with fail
 refine (un HC).mono ?_
 rintro _ wA ⟨rfl,hk⟩
 replace HK:=Za ((un HK).trans hk)
 replace HS:=Za ((un HS).kept hk)
 replace HL:=Za (Zm hk (un HL))
 clear hk HC hadd
 go_wp2_with fail
 have x0:=Zd (un HL) 0
 have x1:=Zd (un HL) 1
 have x2:=Zd (un HL) 2
 simp only [List.getElem?_toArray,List.getElem?_cons_zero,List.getElem?_cons_succ] at x0 x1 x2
 refine wp_region_held_drew (S:=fun y=>Zb wA y) (by kernel_rfl) ((Zb.refl wA).drew) (fun hHeld=>?_)
 refine Xd [0,1,2,3,4,5,6,7,8,9,10,11,12,13,14,15,16,17,18,19,20] ?_
 repeat
  refine Xe (v:=?_) hHeld (fun u hSu=>?_) ?_
  rotate_left
  ·(have y0:=Zb.cell hSu x0;have y1:=Zb.cell hSu x1;have y2:=Zb.cell hSu x2;(try dsimp only at y0 y1 y2);go_simp) <;> with_reducible rfl
  try simp only [PS]
 refine Xc ?_
 refine Zif (i:=21) rfl (by kernel_rfl) (fun K hK=>?_)
 go_simp
 refine ((un HCN) _).mono ?_
 rintro _ wB ⟨vB,rfl,hp,hk⟩
 have hkB:Zb wA wB:=((Zb.refl wA).drew).trans hk
 refine hK.out _ _ hkB (fun hHeld=>?_)
 have HQ:=Za hp
 clear hK K hk hp x0 x1 x2
 try simp only [PS]
 refine Zif (i:=22) rfl (by kernel_rfl) (fun K hK=>?_)
 go_simp
 refine ((un HA6) _ _ (un HQ)).mono ?_
 rintro _ wC ⟨oc,nc,cc,zc,qc,mc,dc,rfl,hs,hk⟩
 have hkC:Zb wA wC:=hkB.trans hk
 refine hK.out _ _ hkC (fun hHeld=>?_)
 have HS2:=Za hs
 clear hK K hk hs HQ
 try simp only [PS]
 refine Zif (i:=23) rfl (by kernel_rfl) (fun K hK=>?_)
 go_simp
 refine ((un HSS) _ _ _ ((un HS).kept hkC) (un HS2)).mono ?_
 rintro _ wD ⟨rfl,hk⟩
 have hkD:Zb wA wD:=hkC.trans hk
 refine hK.out _ _ hkD (fun hHeld=>?_)
 have HKD:=Za ((un HK).trans hkD)
 clear hK K hk hkC hkB hkD
 try simp only [PS]
 refine Xd [24,25] ?_
 repeat
  refine Xe (v:=?_) hHeld (fun u hSu=>?_) ?_
  rotate_left
  ·go_simp <;> with_reducible rfl
  try simp only [PS]
 refine Xc ?_
 refine wpAnyH_done (by kernel_rfl) ?_ _
 clear hHeld
 go_wp2_with fail
 go_ret
 exact ⟨rfl,un HKD⟩
theorem Zho (p:List Fn) (s:St) (vp vs:Value) (w:World) (hp:Zw w vp p) (hs:Zy w vs s) (hk:Je w) (hw:Xa p s=0→StB s) :
  Calls Tryd.prog 5 #[vp,vs] w fun e w'=>e=.returned (.tuple #[.string ⟨(wrS p s).toArray⟩,.int .i64 (Xa p s)])∧Zb w w':=by
 have HCK:Hid (∀ u,Zb w u→Calls Tryd.prog 13 #[vp,vs] u fun e w'=>e=.returned (.int .i64 (Xa p s))∧Zb u w'):=Za fun u hu=>Zfs p s vp vs u (hp.kept hu) (hs.kept hu) (hk.kept hu)
 obtain ⟨oa,n,cap,c,oo,m,co,rfl⟩:=Zet hs
 unfold wrS
 by_cases h0:Xa p s=0
 ·rw [if_pos h0,h0]
  rw [h0] at HCK
  exact Xcb vp s oa oo n m cap co c w hs (Za (hw h0)) (Zgu (hw h0)) HCK
 ·rw [if_neg h0]
  exact Zxp vp oa oo n m cap co c _ w h0 HCK
theorem Zww (p:List Fn) (s:St) (vp:Value) (w:World) (hp:Zw w vp p) (hk:Je w) (h0:Xa p s=0) (hb:StB s) (hl:(Xk s).length≤8192):Jc 8 #[vp,.string ⟨(Xk s).toArray⟩] w s [.int .i64 0]:=by
 have hpz:=(Zbq h0).1
 refine Zna vp (Xk s) s w hl (Zeq h0) (Za fun u hu=>?_) (Za fun u hu=>?_) (Za fun u v hu hs=>?_)
 ·have:=Zga p vp u (hp.kept hu) (hk.kept hu)
  rwa [hpz] at this
 ·have:=Zgs u (Xk s) [] s (by have:=Zjl s hb [];rwa [List.append_nil] at this)
  exact this.mono fun e w' h=>by unfold Zaj at h;rwa [if_pos rfl] at h
 ·have:=Zfs p s vp v u (hp.kept hu) hs (hk.kept hu)
  rwa [h0] at this
theorem Xbm (p:List Fn) (s:St) (r:List UInt8) (hr:r≠[]) (vp:Value) (w:World) (hp:Zw w vp p) (hk:Je w) (hpz:Xh p=0) (hb:StB s) (hl:(Xk s++r).length≤8192):Jc 8 #[vp,.string ⟨(Xk s++r).toArray⟩] w St.zero [.int .i64 1]:=by
 refine Zhg vp (Xk s++r) w hl (Za fun u hu=>?_) (Za fun u hu=>?_)
 ·have:=Zga p vp u (hp.kept hu) (hk.kept hu)
  rwa [hpz] at this
 ·have:=Zgs u (Xk s++r) r s (Zjl s hb r)
  exact this.mono fun e w' h=>by unfold Zaj at h;rwa [if_neg hr] at h
abbrev sv6:St:=(Jg Jw 6 (Ur Jw)).1
theorem Zej:Xa Jw sv6=0:=Zgm 6 Zer
theorem sv6_w:StW sv6:=by unfold StW;decide +kernel
theorem Zhe:(Xk sv6).length=39:=by decide +kernel
theorem Zjk:Xa Jw St.zero=5:=by decide +kernel
theorem Ztm (w:World) (hk:Je w):Calls Tryd.prog 11 #[] w fun e w'=>e=.returned (.bool true)∧Zb w w':=by
 have hb:=Zbn Zej sv6_w
 have e6:wrS Jw sv6=Xk sv6:=if_pos Zej
 have ez:wrS Jw St.zero=[]:=if_neg (by rw [Zjk];decide)
 refine Zsa w Jw sv6 (Xk sv6) Zhe (Za Zvh) (Za fun u v hp=>?_) (Za fun u vp v hu hp hs=>?_) (Za fun u vp hu hp=>?_) (Za fun u vp hu hp=>?_) (Za fun u vp hu hp=>?_) (Za fun u v1 v2 h1 h2=>Zjr _ v1 v2 u h1 h2)
 ·refine (Zug 6 (by omega) u v hp).mono ?_
  rintro e w' ⟨v,rfl,hs,hk'⟩
  obtain ⟨oa,n,cap,c,oo,m,co,rfl⟩:=Zet hs
  exact ⟨oa,n,cap,c,oo,m,co,rfl,hs,hk'⟩
 ·have:=Zho Jw sv6 vp v u hp hs (hk.kept hu) (fun _=>hb)
  rwa [e6,Zej] at this
 ·have:=Zho Jw St.zero vp _ u hp (Ps u) (hk.kept hu) (fun h=>by rw [Zjk] at h;cases h)
  rwa [ez,Zjk] at this
 ·exact Zww Jw sv6 vp u hp (hk.kept hu) Zej hb (by rw [Zhe];decide)
 ·exact Xbm Jw sv6 [120] (by simp) vp u hp (hk.kept hu) Zmb hb (by rw [List.length_append,Zhe];decide)
def Yy (B:Nat) (w:World) (en:Ending) (w':World):Prop:=en=left 1∧Zn B w w'
theorem Zan (w:World) (B:Nat) (h:Zu w B []):Calls Tryd.prog 64 #[.pointer (some ⟨B,0,none⟩)] w (Yy B w):=by
 have a0:=Zd h 0
 have h3:(ByteArray.mk ([]:List UInt8).toArray).toList.isEmpty=true:=by rw [ByteArray.toList_mk];rfl
 generalize (ByteArray.mk ([]:List UInt8).toArray)=S at *
 clear h
 go_enter Tryd.func64,Tryd.ntmps64
 go_wp2_with fail
 exact ⟨rfl,rfl,Zn.refl B w⟩
theorem Zuk {k:Nat} {v:Int} {l:List UInt8} (h:rdK (k+1) v l=none):l=[]∨∃ b l',l=b :: l'∧rdK k (Yd v b) l'=none:=by
 cases l with
 | nil=>exact .inl rfl
 | cons b l'=>exact .inr ⟨b,l',rfl,h⟩
theorem Zzx (w:World) (B:Nat) (l:List UInt8) (h:Zu w B l) (hx:rdV l=none) :
  Calls Tryd.prog 68 #[.pointer (some ⟨B,0,none⟩)] w (Yy B w):=by
 have H0:Hid (Zu w B l∧rdK 8 0 l=none∧Zn B w w):=Za ⟨h,hx,Zn.refl B w⟩
 clear h hx
 go_enter Tryd.func68,Tryd.ntmps68
 go_wp2
 go_loopw [3,4] (fun s3 s4 wr=>∃ (k:Nat) (v:Int) (l:List UInt8),k≤8∧s3=.int .i64 v∧s4=.int .i64 k∧Hid (Zu wr B l∧rdK (8 - k) v l=none∧Zn B w wr)) (fun _ s4 _=>8 - (intOf s4).toNat)
 case atStart=>exact ⟨0,0,l,by omega,rfl,rfl,H0⟩
 case round =>
  obtain ⟨k,v,l,hk8,rfl,rfl,HW⟩:=hrel
  by_cases hk:k<8
  ·obtain ⟨h1,h2,h3⟩:=un HW
   obtain ⟨n,hn⟩:∃ n,8 - k=n+1:=⟨7 - k,by omega⟩
   rw [hn] at h2
   rcases Zuk h2 with rfl | ⟨b,l',rfl,h4⟩
   ·have HC:=Za (Zan wr B h1)
    have H3:=Za h3
    clear h1 h2 h3 hn HW
    go_wp2_with fail
    refine (un HC).mono ?_
    rintro _ w2 ⟨rfl,q2⟩
    have HQ:=Za ((un H3).trans q2)
    clear q2 HC H3
    dsimp only [left]
    go_wp2_with fail
    exact ⟨rfl,rfl,un HQ⟩
   ·have HC:=Za (Yf wr B b l' h1)
    have H3:=Za h3
    have H4:Hid (rdK (8 - (k+1)) (Yd v b) l'=none):=Za (by rw [show 8 - (k+1)=n by omega];exact h4)
    have hor:=Zny v b
    clear h1 h2 h3 h4 hn HW
    go_wp2_with fail
    refine (un HC).mono ?_
    rintro _ w2 ⟨rfl,q1,q2⟩
    have HN:=Za (And.intro q1 (And.intro (un H4) ((un H3).trans q2)))
    clear q1 q2 H3 H4 HC
    go_wp2_with fail
    go_roundw
    case rel=>exact ⟨k+1,Yd v b,l',by omega,congrArg (Value.int IntKind.i64) (by unfold bits;simp only [IntKind.bits];rw [show wrap64 (v*256)=IntKind.i64.wrap (v*256) by (unfold wrap64;rw [IntKind.wrap_i64])];exact hor),by go_num,HN⟩
    case measure=>simp [intOf];omega
  ·obtain rfl:k=8:=by omega
   obtain ⟨_,h2,_⟩:=un HW
   cases h2
theorem Zjm {α:Type} {f:List UInt8→Option (α × List UInt8)} {n:Nat} {l:List UInt8} (h:rdL f (n+1) l=none):f l=none∨∃ x l',f l=some (x,l')∧rdL f n l'=none:=by
 unfold rdL at h
 cases hf:f l with
 | none=>exact .inl rfl
 | some p =>
  obtain ⟨x,l'⟩:=p
  rw [hf] at h
  simp only at h
  cases hr:rdL f n l' with
  | none=>exact .inr ⟨x,l',rfl,hr⟩
  | some q=>rw [hr] at h;cases h
theorem Zje {α:Type} {f:List UInt8→Option (α × List UInt8)} {l:List UInt8} (h:Xu f l=none):l=[]∨∃ b l',l=b :: l'∧rdL f b.toNat l'=none:=by
 cases l with
 | nil=>exact .inl rfl
 | cons b l'=>exact .inr ⟨b,l',rfl,h⟩
theorem Zqm {l:List UInt8} (h:rdF l=none):l=[]∨(∃ a,l=[a])∨∃ a b l',l=a :: b :: l'∧(Xu rdV l'=none∨∃ x r,Xu rdV l'=some (x,r)∧Xu rdV r=none):=by
 match l with
 | []=>exact .inl rfl
 | [a]=>exact .inr (.inl ⟨a,rfl⟩)
 | a :: b :: l' =>
  refine .inr (.inr ⟨a,b,l',rfl,?_⟩)
  cases h1:Xu rdV l' with
  | none=>exact .inl rfl
  | some p =>
   obtain ⟨x,r⟩:=p
   refine .inr ⟨x,r,rfl,?_⟩
   cases h2:Xu rdV r with
   | none=>rfl
   | some q=>simp only [rdF,rdN,h1,h2] at h;cases h
theorem Zsd {l:List UInt8} (h:rdB l=none):l=[]∨∃ a l',l=a :: l'∧Xu rdF l'=none:=by
 match l with
 | []=>exact .inl rfl
 | a :: l' =>
  refine .inr ⟨a,l',rfl,?_⟩
  cases h1:Xu rdF l' with
  | none=>rfl
  | some p=>simp only [rdB,rdN,h1] at h;cases h
theorem Zph {l:List UInt8} (h:rdS l=none):l=[]∨∃ a l',l=a :: l'∧(Xu rdB l'=none∨∃ x r,Xu rdB l'=some (x,r)∧Xu rdV r=none):=by
 match l with
 | []=>exact .inl rfl
 | a :: l' =>
  refine .inr ⟨a,l',rfl,?_⟩
  cases h1:Xu rdB l' with
  | none=>exact .inl rfl
  | some p =>
   obtain ⟨x,r⟩:=p
   refine .inr ⟨x,r,rfl,?_⟩
   cases h2:Xu rdV r with
   | none=>rfl
   | some q=>simp only [rdS,rdN,h1,h2] at h;cases h
theorem Zjh (w:World) (B:Nat) (l:List UInt8) (h:Zu w B l) (hx:Xu rdV l=none) :
  Calls Tryd.prog 67 #[.pointer (some ⟨B,0,none⟩),.func (.func 68) #[.pointer (some ⟨B,0,none⟩)] #[]] w (Yy B w):=by
 rcases Zje hx with rfl | ⟨b,l',rfl,hr⟩
 ·have HS:=Za (Zan w B h)
  clear hx h
  go_enter Tryd.func67,Tryd.ntmps67
  go_wp2_with fail
  refine (un HS).mono ?_
  rintro _ w1 ⟨rfl,q2⟩
  have HQ:=Za q2
  clear q2
  dsimp only [left]
  go_wp2_with fail
  exact ⟨rfl,rfl,un HQ⟩
 have HS:=Za (Yf w B b l' h)
 have hb:b.toNat<256:=b.toNat_lt
 have HR:=Za hr
 generalize hN:b.toNat=n at *
 have hmk:=Zbf n (by omega)
 clear hx hr h hN
 go_enter Tryd.func67,Tryd.ntmps67
 go_wp2_with fail
 refine (un HS).mono ?_
 rintro _ w1 ⟨rfl,q1,q2⟩
 have HG:Hid (w1.heap.size≠B∧w.heap.size≤w1.heap.size):=Za ⟨by have:=q1.lt;omega,q2.size⟩
 have H1:Hid (∃ cur,Zu (w1.alloc (.cells (Array.replicate n (Value.int .i64 0)) 3)) B l'∧rdL rdV (n - 0) l'=none∧(w1.alloc (.cells (Array.replicate n (Value.int .i64 0)) 3)).heap[w1.heap.size]?=some (.cells cur 3)∧cur.size=n∧Zn B w (w1.alloc (.cells (Array.replicate n (Value.int .i64 0)) 3))):=Za ⟨_,q1.k ((Zb.refl w1).alloc _),by simpa using un HR,Zg rfl,by simp,q2.alloc _⟩
 clear q1 q2 HS
 go_wp2_with fail
 generalize w1.alloc (.cells (Array.replicate n (Value.int .i64 0)) 3)=wm at H1 ⊢
 generalize w1.heap.size=G at H1 HG ⊢
 go_loopw [12] (fun s12 wr=>∃ k:Nat,k≤n∧s12=.int .i64 k∧Hid (∃ l cur,Zu wr B l∧rdL rdV (n - k) l=none∧wr.heap[G]?=some (.cells cur 3)∧cur.size=n∧Zn B w wr)) (fun s12 _=>n - (intOf s12).toNat)
 case atStart =>
  obtain ⟨cur,hh⟩:=un H1
  exact ⟨0,Nat.zero_le _,rfl,Za ⟨l',cur,hh⟩⟩
 case round =>
  obtain ⟨k,hkm,rfl,HW⟩:=hrel
  by_cases hk:k<n
  ·obtain ⟨l2,cur,a1,a2,a3,a4,a6⟩:=un HW
   obtain ⟨m,hm⟩:∃ m,n - k=m+1:=⟨n - k - 1,by omega⟩
   rw [hm] at a2
   have hk0:(0:Int)≤(k:Int):=by omega
   have hk1:(k:Int)<(n:Int):=by omega
   rcases Zjm a2 with b1 | ⟨x,l3,b1,b2⟩
   ·have HC:=Za (Zzx wr B l2 a1 b1)
    have H6:=Za a6
    clear a1 a2 a3 a4 a6 b1 hm HW
    go_wp2_with fail
    refine (un HC).mono ?_
    rintro _ w2 ⟨rfl,q2⟩
    have HQ:=Za ((un H6).trans q2)
    clear q2 H6 HC
    dsimp only [left]
    go_wp2_with fail
    exact ⟨rfl,rfl,un HQ⟩
   ·have HC:=Za (Znk wr B l2 l3 x a1 b1)
    have HA:=Za (And.intro a1 (And.intro a3 (And.intro a4 a6)))
    have HM:Hid (rdL rdV (n - (k+1)) l3=none):=Za (by rw [show n - (k+1)=m by omega];exact b2)
    clear a1 a2 a3 a4 a6 b1 b2 hm HW
    go_wp2_with fail
    refine (un HC).mono ?_
    rintro _ w2 ⟨rfl,q1,q2⟩
    obtain ⟨a1,a3,a4,a6⟩:=un HA
    have g2:=q2.rd a3 (un HG).1
    obtain ⟨d0,c0⟩:∃ d,w2.cell? ⟨G,k,none⟩=some d:=⟨_,Wz g2 (i:=k) (by omega)⟩
    have f0:=Zk g2 (k)
    have HN:Hid (∃ l cur,Zu (w2.setCell ⟨G,k,none⟩ (.int .i64 x)) B l∧rdL rdV (n - (k+1)) l=none∧(w2.setCell ⟨G,k,none⟩ (.int .i64 x)).heap[G]?=some (.cells cur 3)∧cur.size=n∧Zn B w (w2.setCell ⟨G,k,none⟩ (.int .i64 x))):=Za ⟨l3,(cur.setIfInBounds (k) (.int .i64 x)),(q1.set (fun e=>(un HG).1 e.symm) _),un HM,(Zl g2 (k) _),by simp [a4],((a6.trans q2).setCell (p:=⟨G,k,none⟩) (.inr (un HG).2) _)⟩
    clear a1 a3 a4 a6 g2 q1 q2 HA HC
    go_wp2_with fail
    go_roundw
    case rel=>exact ⟨k+1,by omega,by go_num,HN⟩
    case measure=>simp [intOf];omega
  ·obtain rfl:k=n:=by omega
   obtain ⟨_,_,_,h2,_⟩:=un HW
   rw [Nat.sub_self] at h2
   cases h2
end Go.Proofs.YtblihfpigjiahaaDoor
