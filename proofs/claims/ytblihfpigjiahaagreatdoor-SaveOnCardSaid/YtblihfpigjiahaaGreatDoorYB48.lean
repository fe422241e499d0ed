/- SaveW, SaveI, RestB, SaveBg -/
import Derived.Test.YtblihfpigjiahaaGreatDoorYB47
import Derived.Test.YtblihfpigjiahaaGreatDoorYB28
import Derived.Test.YtblihfpigjiahaaGreatDoorYB45
import Derived.Test.YtblihfpigjiahaaGreatDoorYB01
import Derived.Test.YtblihfpigjiahaaGreatDoorYB16
import Derived.Test.YtblihfpigjiahaaGreatDoorYB34
import Derived.Test.YtblihfpigjiahaaGreatDoorYB38
import Derived.Test.YtblihfpigjiahaaGreatDoorYB11
import Derived.Laws.AppendOwn
import Derived.Maps.AppendAt
import Derived.Laws.Strings
set_option maxRecDepth 100000
set_option maxHeartbeats 8000000
namespace Go.Proofs.YtblihfpigjiahaaGreatDoor
open Go.RowKit Go.Maps
def wrS (p:List Fn) (s:St):List UInt8:=if Xg p s=0 then Qt s else []
def Zma (l:List UInt8) (er:Int) (w:World) (e:Ending) (w':World):Prop:=e=.returned (.tuple #[.string ⟨l.toArray⟩,.int .i64 er])∧Za w w'
theorem Xbt (vp:Value) (oa oo:Option Addr) (n m cap co:Nat) (c er:Int) (w:World) (hz:er≠0) (HCK:Hid (∀ u,Za w u→Calls Tryz.prog 20 #[vp,.agg #[.slice oa n cap,.int .i64 c,.slice oo m co]] u fun e w'=>e=.returned (.int .i64 er)∧Za u w')) :
  Calls Tryz.prog 5 #[vp,.agg #[.slice oa n cap,.int .i64 c,.slice oo m co]] w (Zma [] er w):=by
 have hb:(er != 0)=true:=bne_iff_ne.2 hz
 clear hz
 go_enter Tryz.func5,Tryz.ntmps5
 go_wp2_with fail
 obtain ⟨k9,l9⟩:=Zbk (Za.refl w) #[.slice oa n cap,.int .i64 c,.slice oo m co] 26
 generalize w.alloc (.cells #[.slice oa n cap,.int .i64 c,.slice oo m co] 26)=w1 at *
 generalize w.heap.size=B0 at *
 have HK:=Zb k9
 clear k9 l9
 refine ((un HCK) _ (un HK)).mono ?_
 rintro _ w2 ⟨rfl,hk⟩
 replace HK:=Zb ((un HK).trans hk)
 clear hk HCK
 go_wp2_with fail
 go_ret2
 exact ⟨rfl,un HK⟩
theorem Zvx (vp:Value) (s:St) (oa oo:Option Addr) (n m cap co:Nat) (c:Int) (w:World) (hs:Xo w (.agg #[.slice oa n cap,.int .i64 c,.slice oo m co]) s) (HB:Hid (StB s)) (hl:(Qt s).length≤100000000000)
  (HCK:Hid (∀ u,Za w u→Calls Tryz.prog 20 #[vp,.agg #[.slice oa n cap,.int .i64 c,.slice oo m co]] u fun e w'=>e=.returned (.int .i64 0)∧Za u w')) :
  Calls Tryz.prog 5 #[vp,.agg #[.slice oa n cap,.int .i64 c,.slice oo m co]] w (Zma (Qt s) 0 w):=by
 have hcn:=(Zqd hs).1
 subst hcn
 have HS:=Zb hs
 have HL:=Zb hl
 clear hs hl
 go_enter Tryz.func5,Tryz.ntmps5
 go_wp2_with fail
 obtain ⟨k9,l9⟩:=Zbk (Za.refl w) #[.slice oa n cap,.int .i64 s.now,.slice oo m co] 26
 generalize w.alloc (.cells #[.slice oa n cap,.int .i64 s.now,.slice oo m co] 26)=w1 at *
 generalize w.heap.size=B0 at *
 have HK:=Zb k9
 have HLx:=Zb l9
 clear k9 l9
 refine ((un HCK) _ (un HK)).mono ?_
 rintro _ w2 ⟨rfl,hk⟩
 replace HK:=Zb ((un HK).trans hk)
 replace HLx:=Zb (Zn hk (un HLx))
 clear hk HCK
 have a0:=Zjh (un HLx) 0
 have a1:=Zjh (un HLx) 1
 have a2:=Zjh (un HLx) 2
 have HW:Hid (Jb w2 (w2.alloc (.cells #[.slice none 0 0] 52)) w2.heap.size []):=Zb ⟨_,Zh rfl,Nat.le_refl _,⟨rfl,.inl ⟨rfl,rfl⟩⟩,by simp [Value.ownBlock],(Za.refl w2).alloc _⟩
 obtain ⟨vf,vo,e,hf,ho⟩:=(un HS).kept (un HK)
 simp only [Value.agg.injEq,Array.mk.injEq,List.cons.injEq,and_true,true_and] at e
 obtain ⟨rfl,rfl⟩:=e
 have HC:=Zb (Zsl w2 _ w2.heap.size [] s _ _ (un HW) hf ho (un HB).now (Zb fun x hx=>⟨((un HB).fiber x hx).1,((un HB).fiber x hx).2.1⟩) (by have:=un HL;simpa using this))
 clear hf ho HW
 go_wp2_with fail
 generalize w2.alloc (.cells #[.slice none 0 0] 52)=w3 at *
 generalize w2.heap.size=B at *
 refine (un HC).mono ?_
 rintro _ w4 ⟨rfl,h4,k4⟩
 obtain ⟨cv,hB,_,hrow,_,hk4⟩:=h4
 rw [List.nil_append] at hrow
 obtain ⟨ob,cb,rfl,hopen⟩:=Zds hrow
 have hne:0<(Qt s).length:=by simp [Qt]
 obtain ⟨g,cur,rfl,_,hg,_,_,hcur⟩:=hopen hne
 have hcv:=run_convert_bytes_back (P:=Tryz.prog) w4 50 9 5 ⟨g,0,none⟩ cb (Qt s) Tryz.underlying50 Tryz.underlying5 Tryz.underlying9 (fun j hj=>by
  have:((⟨g,0,none⟩:Addr).add j)=⟨g,j,none⟩:=by unfold Addr.add;split <;> simp_all
  rw [this,Zd hg]
  exact hcur j _ (by simp [Zcm,hj]))
 have b0:=Zd hB 0
 have HK4:=Zb ((un HK).trans hk4)
 generalize hn:(Qt s).length=N at *
 clear hB hrow hopen hne hg hcur hk4 k4 HC a0 a1 a2 hn HL
 go_wp2_with fail
 go_ret2
 exact ⟨rfl,un HK4⟩
open Go.RowKit
theorem Zus (vp:Value) (l:List UInt8) (w:World) (hl:l.length≤8192)
  (HPC:Hid (∀ u,Za w u→Calls Tryz.prog 24 #[vp] u fun e w'=>e=.returned (.int .i64 0)∧Za u w'))
  (HWH:Hid (∀ u,Za w u→Calls Tryz.prog 25 #[.string ⟨l.toArray⟩] u fun e w'=>e=.returned (.tuple #[.agg #[.slice none 0 0,.int .i64 0,.slice none 0 0],.int .i64 1])∧Za u w')) :
  Po 7 #[vp,.string ⟨l.toArray⟩] w St.zero [.int .i64 1]:=by
 unfold Po
 have LR:Hid ((w.alloc (.cells #[.slice none 0 0,.int .i64 0,.slice none 0 0] 26)).heap[w.heap.size]?=some (.cells #[.slice none 0 0,.int .i64 0,.slice none 0 0] 26)):=Zb (Zh rfl)
 have HK:Hid (Za w (w.alloc (.cells #[.slice none 0 0,.int .i64 0,.slice none 0 0] 26))):=Zb ((Za.refl w).alloc _)
 have hsz:(ByteArray.mk l.toArray).size=l.length:=by simp [ByteArray.size]
 have hl1:¬ (8192:Int)<(l.length:Int):=by omega
 generalize (ByteArray.mk l.toArray)=S at *
 generalize l.length=N at *
 go_enter Tryz.func7,Tryz.ntmps7
 go_wp2_with fail
 generalize w.alloc (.cells #[.slice none 0 0,.int .i64 0,.slice none 0 0] 26)=wa at *
 generalize hRR:w.heap.size=R at LR ⊢
 have HR:Hid (w.heap.size≤R):=Zb (by omega)
 clear hRR
 refine ((un HPC) _ (un HK)).mono ?_
 rintro _ w1 ⟨rfl,hk⟩
 replace LR:=Zb (Zn hk (un LR))
 replace HK:=Zb ((un HK).trans hk)
 clear hk
 go_wp2_with fail
 refine ((un HWH) _ (un HK)).mono ?_
 rintro _ w2 ⟨rfl,hk⟩
 replace LR:=Zb (Zn hk (un LR))
 replace HK:=Zb ((un HK).trans hk)
 clear hk HPC HWH
 replace LR:=Zb (Zo (un LR) (.cells #[.slice none 0 0,.int .i64 0,.slice none 0 0] 26))
 replace HK:=Zb ((un HK).alloc (.cells #[.slice none 0 0,.int .i64 0,.slice none 0 0] 26))
 have x0:=Zd (un LR) 0
 have x1:=Zd (un LR) 1
 have x2:=Zd (un LR) 2
 have z0:=Zk (un LR) 0
 have z1:=Zk (un LR) 1
 have z2:=Zk (un LR) 2
 simp only [List.getElem?_toArray,List.getElem?_cons_zero,List.getElem?_cons_succ] at x0 x1 x2
 go_wp2_with fail
 have k1:=Zm (Zm (Zm (un LR) 0 (.slice none 0 0)) 1 (.int .i64 0)) 2 (.slice none 0 0)
 have t0:=Zd k1 0
 have t1:=Zd k1 1
 have t2:=Zd k1 2
 simp only [Array.setIfInBounds,List.size_toArray,List.length_cons,List.length_nil] at t0 t1 t2
 refine bodyPost_ret (v:=.tuple #[.agg #[.slice none 0 0,.int .i64 0,.slice none 0 0],.int .i64 1]) (by simp [results,Tryz.results7,go_sem,t0,t1,t2]) rfl ?_
 exact ⟨none,0,0,0,none,0,0,rfl,Zop _,(((un HK).setCell (p:=⟨R,0,none⟩) (un HR) _).setCell (p:=⟨R,1,none⟩) (un HR) _).setCell (p:=⟨R,2,none⟩) (un HR) _⟩
theorem Zza (vp:Value) (l:List UInt8) (s:St) (w:World) (hl:l.length≤8192) (hsm:Jn s)
  (HPC:Hid (∀ u,Za w u→Calls Tryz.prog 24 #[vp] u fun e w'=>e=.returned (.int .i64 0)∧Za u w'))
  (HWH:Hid (∀ u,Za w u→Calls Tryz.prog 25 #[.string ⟨l.toArray⟩] u fun en w'=>∃ gf go,en=.returned (.tuple #[.agg #[.slice (some ⟨gf,0,none⟩) s.fibers.length s.fibers.length,.int .i64 s.now,.slice (some ⟨go,0,none⟩) s.out.length s.out.length],.int .i64 0])∧StN w' gf go s∧Za u w'))
  (HSC:Hid (∀ u v,Za w u→Xo u v s→Calls Tryz.prog 20 #[vp,v] u fun e w'=>e=.returned (.int .i64 0)∧Za u w')) :
  Po 7 #[vp,.string ⟨l.toArray⟩] w s [.int .i64 0]:=by
 unfold Po
 have HSM:=Zb hsm
 clear hsm
 generalize hla:s.fibers.length=la at *
 generalize hls:s.out.length=ls at *
 have HLA:=Zb (And.intro hla hls)
 clear hla hls
 have LR:Hid ((w.alloc (.cells #[.slice none 0 0,.int .i64 0,.slice none 0 0] 26)).heap[w.heap.size]?=some (.cells #[.slice none 0 0,.int .i64 0,.slice none 0 0] 26)):=Zb (Zh rfl)
 have HK:Hid (Za w (w.alloc (.cells #[.slice none 0 0,.int .i64 0,.slice none 0 0] 26))):=Zb ((Za.refl w).alloc _)
 have hsz:(ByteArray.mk l.toArray).size=l.length:=by simp [ByteArray.size]
 have hl1:¬ (8192:Int)<(l.length:Int):=by omega
 generalize (ByteArray.mk l.toArray)=S at *
 generalize l.length=N at *
 go_enter Tryz.func7,Tryz.ntmps7
 go_wp2_with fail
 generalize w.alloc (.cells #[.slice none 0 0,.int .i64 0,.slice none 0 0] 26)=wa at *
 generalize hRR:w.heap.size=R at LR ⊢
 have HR:Hid (w.heap.size≤R):=Zb (by omega)
 clear hRR
 refine ((un HPC) _ (un HK)).mono ?_
 rintro _ w1 ⟨rfl,hk⟩
 replace LR:=Zb (Zn hk (un LR))
 replace HK:=Zb ((un HK).trans hk)
 clear hk
 go_wp2_with fail
 refine ((un HWH) _ (un HK)).mono ?_
 rintro _ w2 ⟨gf,go,rfl,hst,hk⟩
 replace LR:=Zb (Zo (Zn hk (un LR)) (.cells #[.slice (some ⟨gf,0,none⟩) la la,.int .i64 s.now,.slice (some ⟨go,0,none⟩) ls ls] 26))
 replace HK:=Zb (((un HK).trans hk).alloc (.cells #[.slice (some ⟨gf,0,none⟩) la la,.int .i64 s.now,.slice (some ⟨go,0,none⟩) ls ls] 26))
 have LB:Hid ((w2.alloc (.cells #[.slice (some ⟨gf,0,none⟩) la la,.int .i64 s.now,.slice (some ⟨go,0,none⟩) ls ls] 26)).heap[w2.heap.size]?=some (.cells #[.slice (some ⟨gf,0,none⟩) la la,.int .i64 s.now,.slice (some ⟨go,0,none⟩) ls ls] 26)):=Zb (Zh rfl)
 have HN:Hid (StN (w2.alloc (.cells #[.slice (some ⟨gf,0,none⟩) la la,.int .i64 s.now,.slice (some ⟨go,0,none⟩) ls ls] 26)) gf go s):=Zb ⟨hst.1.stay (Xk.alloc _),hst.2.stay (Xk.alloc _)⟩
 have hA:=(un HN).st (un HSM)
 rw [(un HLA).1,(un HLA).2] at hA
 have HS:=Zb hA
 clear hA hst hk HPC HWH
 go_wp2_with fail
 generalize w2.alloc (.cells #[.slice (some ⟨gf,0,none⟩) la la,.int .i64 s.now,.slice (some ⟨go,0,none⟩) ls ls] 26)=w3 at *
 generalize w2.heap.size=X at *
 refine ((un HSC) _ _ (un HK) (un HS)).mono ?_
 rintro _ w4 ⟨rfl,hk⟩
 replace LR:=Zb (Zn hk (un LR))
 replace LB:=Zb (Zn hk (un LB))
 replace HK:=Zb ((un HK).trans hk)
 replace HN:Hid (StN w4 gf go s):=Zb ⟨(un HN).1.stay (fun _ _ _ _ hg=>Zn hk hg),(un HN).2.stay (fun _ _ _ _ hg=>Zn hk hg)⟩
 clear hk HS
 have x0:=Zd (un LR) 0
 have x1:=Zd (un LR) 1
 have x2:=Zd (un LR) 2
 have z0:=Zk (un LR) 0
 have z1:=Zk (un LR) 1
 have z2:=Zk (un LR) 2
 have y0:=Zd (un LB) 0
 have y1:=Zd (un LB) 1
 have y2:=Zd (un LB) 2
 simp only [List.getElem?_toArray,List.getElem?_cons_zero,List.getElem?_cons_succ] at x0 x1 x2 y0 y1 y2
 go_wp2_with fail
 have k1:=Zm (Zm (Zm (un LR) 0 (.slice (some ⟨gf,0,none⟩) la la)) 1 (.int .i64 s.now)) 2 (.slice (some ⟨go,0,none⟩) ls ls)
 have t0:=Zd k1 0
 have t1:=Zd k1 1
 have t2:=Zd k1 2
 simp only [Array.setIfInBounds,List.size_toArray,List.length_cons,List.length_nil] at t0 t1 t2
 refine bodyPost_ret (v:=.tuple #[.agg #[.slice (some ⟨gf,0,none⟩) la la,.int .i64 s.now,.slice (some ⟨go,0,none⟩) ls ls],.int .i64 0]) (by simp [results,Tryz.results7,go_sem,t0,t1,t2]) rfl ?_
 have g1:=Zm (un LR) 0 (.slice (some ⟨gf,0,none⟩) la la)
 have g2:=Zm g1 1 (.int .i64 s.now)
 have st:=((Xk.set (ts:=[3,48,46]) (un LR) (by decide) 0 (.slice (some ⟨gf,0,none⟩) la la)).trans (Xk.set g1 (by decide) 1 (.int .i64 s.now))).trans (Xk.set g2 (by decide) 2 (.slice (some ⟨go,0,none⟩) ls ls))
 have hF:StN _ gf go s:=⟨(un HN).1.stay st,(un HN).2.stay (st.sub (by simp))⟩
 have hA:=hF.st (un HSM)
 rw [(un HLA).1,(un HLA).2] at hA
 exact ⟨_,_,_,_,_,_,_,rfl,hA,(((un HK).setCell (p:=⟨R,0,none⟩) (un HR) _).setCell (p:=⟨R,1,none⟩) (un HR) _).setCell (p:=⟨R,2,none⟩) (un HR) _⟩
theorem Ys {P:Program} {md:Region.Mode} {Q:Exit→Act→World→Prop} {S:World→Prop} {L tl:List Oper} {i:Nat} {oi:Oper} {fuel:Nat} {listed:Array Bool} {a:Act} {w:World} (hd:L.drop i=oi :: tl)
  (hr:Region.ready md L.toArray listed=[i])
  (h:∀ K':Act→World→Prop,Shut (∀ a w,S w→(S w→wpAnyH P md L.toArray Q S fuel (listed.setIfInBounds i true) a w)→K' a w)→if Region.wanted oi (yielded L.toArray a.tmps)=true then Oper.wp P oi a w K' Q else K' (a.put oi.dst undef) w) :
  wpAnyH P md L.toArray Q S (fuel+1) listed a w :=
 wpAnyH_ready hr (by simp) (AllReadyH.cons (Up hd) h AllReadyH.nil)
theorem Xcm:(Tryz.prog.info? 70).map (fun i=>(i.zero,i.size,i.bytes))=some (some (.agg #[.int .i64 0,.int .i64 0,.slice none 0 0]),3,40):=by kernel_rfl
def Zbm (w:World) (v:Value) (c:List (Int × Int)):Prop :=
 ∃ D cap cur,v=.slice (some ⟨D,0,none⟩) c.length cap∧w.heap[D]?=some (.cells cur 66)∧∀ (j:Nat) u,(Pi c)[j]?=some u→cur[j]?=some u
theorem Zbm.code {w:World} {v:Value} {c:List (Int × Int)} (h:Zbm w v c) (hl:c.length≤1000):Wc w v c:=by
 obtain ⟨D,cap,cur,rfl,hD,hc⟩:=h
 refine ⟨_,cap,rfl,by omega,fun i x hx=>?_⟩
 obtain ⟨f1,f2⟩:=Zgd c i x hx
 refine ⟨D,0,rfl,?_,?_⟩
 ·rw [Zd hD];simpa using hc _ _ f1
 ·rw [Zd hD];simpa using hc _ _ f2
theorem Zbm.kept {w w':World} {v:Value} {c:List (Int × Int)} (h:Zbm w v c) (k:Za w w'):Zbm w' v c:=by
 obtain ⟨D,cap,cur,e,hD,hc⟩:=h
 exact ⟨D,cap,cur,e,Zn k hD,hc⟩
def Pq (w0 w:World) (v:Value) (p:List Fn) (k:Nat):Prop :=
 ∃ l:List (Fn × Value),l.length=k∧l.map (·.1)=p.take k∧w.ownsRow w0.heap.size 70 3 v k (Uv l)∧(∀ x∈l,Zbm w x.2 x.1.code)∧Za w0 w
theorem Pq.start (w:World) (p:List Fn):Pq w w (.slice none 0 0) p 0:=⟨[],rfl,rfl,⟨rfl,.inl ⟨rfl,rfl⟩⟩,(fun x hx=>by cases hx),Za.refl w⟩
theorem Pq.kept {w0 w w':World} {v:Value} {p:List Fn} {k:Nat} (h:Pq w0 w v p k) (hk:Za w w'):Pq w0 w' v p k:=by
 obtain ⟨l,h1,h2,h3,h4,h5⟩:=h
 exact ⟨l,h1,h2,Jw h3 (fun g hg=>hk.block g (World.ownsRow.lt h3 g hg).2),fun x hx=>(h4 x hx).kept hk,h5.trans hk⟩
theorem Zyx (l:List (Fn × Value)) (x:Fn × Value):Uv (l++[x])=Uv l++[.int .i64 x.1.args,.int .i64 x.1.locals,x.2]:=by simp [Uv]
theorem Pq.prog {w0 w:World} {v:Value} {p:List Fn} (h:Pq w0 w v p p.length) (hp:p.length≤5) (hc:∀ f∈p,f.code.length≤24):Xa w v p:=by
 obtain ⟨l,h1,h2,h3,h4,_⟩:=h
 rw [List.take_length] at h2
 obtain ⟨oa,cap,rfl,hr⟩:=Zds h3
 refine ⟨oa,cap,rfl,by omega,fun i f hf=>?_⟩
 have hi:=(List.getElem?_eq_some_iff.1 hf).1
 obtain ⟨g,cur,rfl,_,hg,_,_,hu⟩:=hr (by omega)
 rw [← h2,List.getElem?_map,Option.map_eq_some_iff] at hf
 obtain ⟨x,hx,rfl⟩:=hf
 obtain ⟨f1,f2,f3⟩:=Zja l i x hx
 have hm:=List.mem_of_getElem? hx
 refine ⟨g,0,x.2,rfl,?_,?_,?_,(h4 x hm).code (by have:=hc x.1 (by rw [← h2];exact List.mem_map_of_mem hm);omega)⟩
 ·rw [Zd hg];simpa using hu _ _ f1
 ·rw [Zd hg];simpa using hu _ _ f2
 ·rw [Zd hg];simpa using hu _ _ f3
theorem Pq.more {w0 u:World} {v cv:Value} {p:List Fn} {k:Nat} {f:Fn} (h:Pq w0 u v p k) (hf:p[k]?=some f) (hk5:k≤5) (hcv:Zbm u cv f.code) :
  ∃ o' c' u',(Builtin.append_ #[22,22] 22 #[v,.slice (some ⟨u.heap.size,0,none⟩) 1 1]).run Tryz.prog (u.alloc (.cells #[.int .i64 f.args,.int .i64 f.locals,cv] 70))=.ok (.slice o' (k+1) c') u'∧Pq w0 u' (.slice o' (k+1) c') p (k+1):=by
 obtain ⟨i0,hi0,hz0,hz1,hz2⟩:=info_parts Xcm
 obtain ⟨l,h1,h2,h3,h4,h5⟩:=h
 obtain ⟨D,cp,cur,rfl,hD,hcur⟩:=id hcv
 have hL:(u.alloc (.cells #[.int .i64 f.args,.int .i64 f.locals,.slice (some ⟨D,0,none⟩) f.code.length cp] 70)).heap[u.heap.size]?=some (.cells #[.int .i64 f.args,.int .i64 f.locals,.slice (some ⟨D,0,none⟩) f.code.length cp] 70):=Zh rfl
 obtain ⟨v',u',hrun,hown,hgrow,_,hat⟩:=run_append_own_at (P:=Tryz.prog) _ w0.heap.size 22 22 70 i0 _ 3 40 Tryz.underlying22 hi0 hz0 hz1 hz2 rfl (by decide) v k (Uv l) (Jw (w':=u.alloc (.cells #[.int .i64 f.args,.int .i64 f.locals,.slice (some ⟨D,0,none⟩) f.code.length cp] 70)) h3 (fun g hg=>Below.heap_alloc u _ g (World.ownsRow.lt h3 g hg).2)) ⟨u.heap.size,0,none⟩ 1 1 [.int .i64 f.args,.int .i64 f.locals,.slice (some ⟨D,0,none⟩) f.code.length cp] rfl (fun j x hj=>by
   rw [Zmf,Zd hL];simpa using hj) (fun x hx=>by
   simp only [List.mem_cons,List.not_mem_nil,or_false] at hx
   rcases hx with rfl | rfl | rfl <;> rfl) (by unfold maxLen;omega) (by omega) (Nat.le_trans h5.size (by simp))
 obtain ⟨oa,cap,rfl,_⟩:=Zds hown
 have hkk:Za w0 u':=Below.grown (h5.alloc _) hgrow (h5.alloc _).size (fun g hg=>(World.ownsRow.lt h3 g hg).1)
 have hstay:∀ {E:Nat} {cc:Array Value},u.heap[E]?=some (.cells cc 66)→u'.heap[E]?=some (.cells cc 66):=fun {E cc} hE=>by
  have hlt:E<u.heap.size:=(Array.getElem?_eq_some_iff.1 hE).1
  refine (hgrow.block E (by simp;omega) (fun e=>?_)).trans (Zo hE _)
  obtain ⟨_,⟨rfl,_⟩ | ⟨g,_,cur',rfl,_,hh,_⟩⟩:=h3
  ·cases e
  ·obtain rfl:E=g:=by simpa [Value.ownBlock] using e
   rw [hE] at hh
   simp at hh
 refine ⟨oa,cap,u',hrun,l++[(f,.slice (some ⟨D,0,none⟩) f.code.length cp)],by simp [h1],?_,?_,?_,hkk⟩
 ·rw [List.map_append,h2,List.take_add_one,hf];rfl
 ·rw [Zyx];exact hown
 ·intro x hx
  rcases List.mem_append.1 hx with hx | hx
  ·obtain ⟨E,q,cc,e,hE,hq⟩:=h4 x hx
   exact ⟨E,q,cc,e,hstay hE,hq⟩
  ·obtain rfl:=List.mem_singleton.1 hx
   exact ⟨D,cp,cur,rfl,hstay hD,hcur⟩
theorem Zsp (w:World) (P:List Fn) (s6:St) (l:List UInt8) (hl:l.length=39)
  (HCN:Hid (∀ u,Calls Tryz.prog 22 #[] u fun e w'=>∃ v,e=.returned v∧Xa w' v P∧Za u w'))
  (HA6:Hid (∀ u v,Xa u v P→Calls Tryz.prog 23 #[v,.int .i64 6] u fun e w'=>∃ oa n cap c oo m co,e=.returned (.agg #[.slice oa n cap,.int .i64 c,.slice oo m co])∧Xo w' (.agg #[.slice oa n cap,.int .i64 c,.slice oo m co]) s6∧Za u w'))
  (HW:Hid (∀ u vp v,Za w u→Xa u vp P→Xo u v s6→Calls Tryz.prog 5 #[vp,v] u fun e w'=>e=.returned (.tuple #[.string ⟨l.toArray⟩,.int .i64 0])∧Za u w'))
  (HWZ:Hid (∀ u vp,Za w u→Xa u vp P→Calls Tryz.prog 5 #[vp,.agg #[.slice none 0 0,.int .i64 0,.slice none 0 0]] u fun e w'=>e=.returned (.tuple #[.string ⟨#[]⟩,.int .i64 5])∧Za u w'))
  (HR:Hid (∀ u vp,Za w u→Xa u vp P→Po 7 #[vp,.string ⟨l.toArray⟩] u s6 [.int .i64 0]))
  (HRX:Hid (∀ u vp,Za w u→Xa u vp P→Po 7 #[vp,.string ⟨(l++[120]).toArray⟩] u St.zero [.int .i64 1]))
  (HSS:Hid (∀ u v1 v2,Xo u v1 s6→Xo u v2 s6→Calls Tryz.prog 10 #[v1,v2] u fun e w'=>e=.returned (.bool true)∧Za u w')) :
  Calls Tryz.prog 6 #[] w fun e w'=>e=.returned (.bool true)∧Za w w':=by
 have HK:=Zb (Za.refl w)
 have hsz:(ByteArray.mk l.toArray).size=39:=by simp [ByteArray.size,hl]
 have hadd:∀ u,(Op.stringOp .add (ByteArray.mk l.toArray) (ByteArray.mk #[120])).run Tryz.prog u=.ok (.string ⟨(l++[120]).toArray⟩) u:=fun u=>by
  have e:ByteArray.mk l.toArray++ByteArray.mk #[120]=ByteArray.mk (l++[120]).toArray:=by
   apply ByteArray.ext
   simp
  have h2:¬ (((ByteArray.mk l.toArray).size+(ByteArray.mk #[120]).size:Nat):Int) > IntKind.i64.max:=by
   rw [hsz]
   decide
  simp only [Op.stringOp,h2,if_false,e]
  rfl
 generalize (ByteArray.mk (l++[120]).toArray)=S2 at *
 generalize (ByteArray.mk l.toArray)=S at *
 clear hl
 unfold Po at HR HRX
 go_enter Tryz.func6,Tryz.ntmps6
 go_wp2_with fail
 refine ((un HCN) _).mono ?_
 rintro _ w1 ⟨v1,rfl,hp,hk⟩
 replace HK:=Zb ((un HK).trans hk)
 have HQ:=Zb hp
 clear hk hp
 go_wp2_with fail
 refine ((un HCN) _).mono ?_
 rintro _ w2 ⟨v2,rfl,hp,hk⟩
 replace HK:=Zb ((un HK).trans hk)
 replace HQ:=Zb ((un HQ).kept hk)
 have HC:=Zb ((un HA6) _ _ hp)
 clear hk hp
 go_wp2_with fail
 refine (un HC).mono ?_
 rintro _ w3 ⟨oa,n,cap,c,oo,m,co,rfl,hs,hk⟩
 replace HK:=Zb ((un HK).trans hk)
 have HC2:=Zb ((un HW) _ _ _ (un HK) ((un HQ).kept hk) hs)
 clear hk hs HC HQ
 go_wp2_with fail
 refine (un HC2).mono ?_
 rintro _ w4 ⟨rfl,hk⟩
 replace HK:=Zb ((un HK).trans hk)
 clear hk HC2
 go_wp2_with fail
 refine ((un HCN) _).mono ?_
 rintro _ w5 ⟨v5,rfl,hp,hk⟩
 replace HK:=Zb ((un HK).trans hk)
 have HC:=Zb ((un HR) _ _ (un HK) hp)
 clear hk hp
 go_wp2_with fail
 refine (un HC).mono ?_
 rintro _ w6 ⟨oa,n,cap,c,oo,m,co,rfl,hs,hk⟩
 replace HK:=Zb ((un HK).trans hk)
 have HS:=Zb hs
 clear hk hs HC
 go_wp2_with fail
 obtain ⟨k9,l9⟩:=Zbk (Za.refl w6) #[.slice oa n cap,.int .i64 c,.slice oo m co] 26
 generalize w6.alloc (.cells #[.slice oa n cap,.int .i64 c,.slice oo m co] 26)=x6 at *
 generalize w6.heap.size=B6 at *
 replace HK:=Zb ((un HK).trans k9)
 replace HS:=Zb ((un HS).kept k9)
 have HL:=Zb l9
 clear k9 l9
 refine ((un HCN) _).mono ?_
 rintro _ w7 ⟨v7,rfl,hp,hk⟩
 replace HK:=Zb ((un HK).trans hk)
 replace HS:=Zb ((un HS).kept hk)
 replace HL:=Zb (Zn hk (un HL))
 have HC:=Zb ((un HRX) _ _ (un HK) hp)
 clear hk hp
 go_wp2_with fail
 refine (un HC).mono ?_
 rintro _ w8 ⟨oa',n',cap',c',oo',m',co',rfl,_,hk⟩
 replace HK:=Zb ((un HK).trans hk)
 replace HS:=Zb ((un HS).kept hk)
 replace HL:=Zb (Zn hk (un HL))
 clear hk HC
 go_wp2_with fail
 obtain ⟨k9,-⟩:=Zbk (Za.refl w8) #[.slice oa' n' cap',.int .i64 c',.slice oo' m' co'] 26
 generalize w8.alloc (.cells #[.slice oa' n' cap',.int .i64 c',.slice oo' m' co'] 26)=x8 at *
 generalize w8.heap.size=B8 at *
 replace HK:=Zb ((un HK).trans k9)
 replace HS:=Zb ((un HS).kept k9)
 replace HL:=Zb (Zn k9 (un HL))
 clear k9
 refine ((un HCN) _).mono ?_
 rintro _ w9 ⟨v9,rfl,hp,hk⟩
 replace HK:=Zb ((un HK).trans hk)
 replace HS:=Zb ((un HS).kept hk)
 replace HL:=Zb (Zn hk (un HL))
 have HC:=Zb ((un HWZ) _ _ (un HK) hp)
 clear hk hp
 go_wp2_with fail
 refine (un HC).mono ?_
 rintro _ wA ⟨rfl,hk⟩
 replace HK:=Zb ((un HK).trans hk)
 replace HS:=Zb ((un HS).kept hk)
 replace HL:=Zb (Zn hk (un HL))
 clear hk HC hadd
 go_wp2_with fail
 have x0:=Zd (un HL) 0
 have x1:=Zd (un HL) 1
 have x2:=Zd (un HL) 2
 simp only [List.getElem?_toArray,List.getElem?_cons_zero,List.getElem?_cons_succ] at x0 x1 x2
 refine wp_region_held_drew (S:=fun y=>Za wA y) (by kernel_rfl) ((Za.refl wA).drew) (fun hHeld=>?_)
 refine Xf [0,1,2,3,4,5,6,7,8,9,10,11,12,13,14,15,16,17,18,19,20] ?_
 repeat
  refine Xb (v:=?_) hHeld (fun u hSu=>?_) ?_
  rotate_left
  ·(have y0:=Za.cell hSu x0;have y1:=Za.cell hSu x1;have y2:=Za.cell hSu x2;(try dsimp only at y0 y1 y2);go_simp) <;> with_reducible rfl
  try simp only [PS]
 refine Xe ?_
 refine Ys (i:=21) rfl (by kernel_rfl) (fun K hK=>?_)
 go_simp
 refine ((un HCN) _).mono ?_
 rintro _ wB ⟨vB,rfl,hp,hk⟩
 have hkB:Za wA wB:=((Za.refl wA).drew).trans hk
 refine hK.out _ _ hkB (fun hHeld=>?_)
 have HQ:=Zb hp
 clear hK K hk hp x0 x1 x2
 try simp only [PS]
 refine Ys (i:=22) rfl (by kernel_rfl) (fun K hK=>?_)
 go_simp
 refine ((un HA6) _ _ (un HQ)).mono ?_
 rintro _ wC ⟨oc,nc,cc,zc,qc,mc,dc,rfl,hs,hk⟩
 have hkC:Za wA wC:=hkB.trans hk
 refine hK.out _ _ hkC (fun hHeld=>?_)
 have HS2:=Zb hs
 clear hK K hk hs HQ
 try simp only [PS]
 refine Ys (i:=23) rfl (by kernel_rfl) (fun K hK=>?_)
 go_simp
 refine ((un HSS) _ _ _ ((un HS).kept hkC) (un HS2)).mono ?_
 rintro _ wD ⟨rfl,hk⟩
 have hkD:Za wA wD:=hkC.trans hk
 refine hK.out _ _ hkD (fun hHeld=>?_)
 have HKD:=Zb ((un HK).trans hkD)
 clear hK K hk hkC hkB hkD
 try simp only [PS]
 refine Xf [24,25] ?_
 repeat
  refine Xb (v:=?_) hHeld (fun u hSu=>?_) ?_
  rotate_left
  ·go_simp <;> with_reducible rfl
  try simp only [PS]
 refine Xe ?_
 refine wpAnyH_done (by kernel_rfl) ?_ _
 clear hHeld
 go_wp2_with fail
 go_ret
 exact ⟨rfl,un HKD⟩
end Go.Proofs.YtblihfpigjiahaaGreatDoor
