/-
  The statement ForgeFit: its walk, of the contracts of what it calls.
-/
import Derived.Test.YtogcfkmekdpmmaaDoorForgeF
import Derived.Test.YtogcfkmekdpmmaaDoorForgeV
set_option maxRecDepth 100000
set_option maxHeartbeats 8000000
namespace Go.Proofs.YtogcfkmekdpmmaaDoor
open Go.RowKit Go.Maps

theorem fInfoFn:∃ i0,Tryd.prog.info? 33=some i0∧i0.zero=some (.agg #[.int .i64 0,.int .i64 0,.slice none 0 0])∧i0.size=3∧i0.bytes=40:=by
  have h:(Tryd.prog.info? 33).map (fun i=>(i.zero,i.size,i.bytes))=some (some (.agg #[.int .i64 0,.int .i64 0,.slice none 0 0]),3,40):=by kernel_rfl
  cases hi:Tryd.prog.info? 33 with
  | none=>rw [hi] at h; cases h
  | some i =>
    rw [hi] at h
    simp only [Option.map_some,Option.some.injEq,Prod.mk.injEq] at h
    exact ⟨i,rfl,h.1,h.2.1,h.2.2⟩
theorem row_none {w:World} {base E:Nat} (h:w.heap[E]?=some (.cells #[] 33)) (hb:base≤E):w.ownsRow base 33 3 (.slice (some ⟨E,0,none⟩) 0 0) 0 [] :=
  ⟨rfl,.inr ⟨E,0,#[],rfl,hb,h,Nat.le_refl _,by unfold maxLen; omega,rfl,rfl⟩⟩
theorem fn_cells {w:World} {D:Nat} {a b:Int} {cv:Value} (h:w.heap[D]?=some (.cells #[.int .i64 a,.int .i64 b,cv] 33)):∀ j u,[Value.int .i64 a,.int .i64 b,cv][j]?=some u→w.cell? ((⟨D,0,none⟩:Addr).add j)=some u:=by
  intro j u hj
  match j,hj with
  | 0,hj=>simp at hj; subst hj; exact cell_lays h 0
  | 1,hj=>simp at hj; subst hj; exact cell_lays h 1
  | 2,hj=>simp at hj; subst hj; exact cell_lays h 2
  | j + 3,hj=>simp at hj
theorem app_fns {w0 y:World} {v:Value} {n:Nat} {xs:List Value} (hk:Kept w0 y) (h:y.ownsRow w0.heap.size 33 3 v n xs) (ad:Addr) (m c:Nat) (news:List Value) (hl:news.length=m * 3) (hn:∀ j u,news[j]?=some u→y.cell? (ad.add j)=some u) (h1:∀ u∈news,u.oneCell'=true) (hm:n + m≤10) :
    ∃ o' c' y',(Builtin.append_ #[22,22] 22 #[v,.slice (some ad) m c]).run Tryd.prog y=.ok (.slice o' (n + m) c') y'∧y'.ownsRow w0.heap.size 33 3 (.slice o' (n + m) c') (n + m) (xs++news)∧Kept w0 y'∧(∀ D o,y.heap[D]?=some o→v.ownBlock≠some D→y'.heap[D]?=some o):=by
  obtain ⟨i0,hi0,hz0,hz1,hz2⟩:=fInfoFn
  obtain ⟨v',y',hr,h2,h3,h4,h5⟩:=run_append_own_at (P:=Tryd.prog) y w0.heap.size 22 22 33 i0 _ 3 40 Tryd.underlying22 hi0 hz0 hz1 hz2 rfl (by decide) v n xs h ad m c news hl hn h1 (by unfold maxLen; omega) (by omega) hk.size
  obtain ⟨⟨o',c',rfl⟩,_⟩:=fRow_slice h2
  exact ⟨o',c',y',hr,h2,Below.grown hk h3 hk.size (fRow_slice h).2,fun D o hD hne=>(h3.block D (Array.getElem?_eq_some_iff.1 hD).1 (fun e=>hne e.symm)).trans hD⟩
theorem take_twoF {P:Program} {md:Region.Mode} {Q:Exit→Act→World→Prop} {S:World→Prop} {L tl tl':List Oper} {i k:Nat} {oi ok:Oper} {fuel:Nat} {listed:Array Bool} {a:Act} {w:World} (hd:L.drop i=oi :: tl) (hd':L.drop k=ok :: tl')
    (hr:Region.ready md L.toArray listed=[i,k])
    (h:∀ K':Act→World→Prop,Shut (∀ a w,S w→(S w→wpAnyH P md L.toArray Q S fuel (listed.setIfInBounds i true) a w)→K' a w)→if Region.wanted oi (yielded L.toArray a.tmps)=true then Oper.wp P oi a w K' Q else K' (a.put oi.dst undef) w)
    (h':∀ K':Act→World→Prop,Shut (∀ a w,S w→(S w→wpAnyH P md L.toArray Q S fuel (listed.setIfInBounds k true) a w)→K' a w)→if Region.wanted ok (yielded L.toArray a.tmps)=true then Oper.wp P ok a w K' Q else K' (a.put ok.dst undef) w) :
    wpAnyH P md L.toArray Q S (fuel + 1) listed a w :=
  wpAnyH_ready hr (by simp) (AllReadyH.cons (at_drop hd) h (AllReadyH.cons (at_drop hd') h' AllReadyH.nil))
theorem forgeFit_go (ve:Value) (b o n cap:Nat) (L c m:Int) (w:World) (p:List Fn) (g:Fn) (l:List Int) (ks:Nat) (er:Int)
    (hp:Hid (ProgAt w (.slice (some ⟨b,o,none⟩) n cap) p)) (hn:n < 5) (hn0:0 < n)
    (HF:Hid (∀ u,Kept w u→Calls Tryd.prog 12 #[ve,.int .i64 L] u (FgPost g 0 u)))
    (HB:Hid (∀ u,Kept w u→Calls Tryd.prog 16 #[] u fun e w'=>e=.returned (.bool true)∧Kept u w'))
    (HC:Hid (∀ u v,Kept w u→ProgAt u v p→Calls Tryd.prog 20 #[v] u fun e w'=>e=.returned (.int .i64 0)∧Kept u w'))
    (HC2:Hid (∀ u v,Kept w u→ProgAt u v (p++[g])→Calls Tryd.prog 20 #[v] u fun e w'=>e=.returned (.int .i64 0)∧Kept u w'))
    (HM:Hid (∀ u,Calls Tryd.prog 22 #[.int .i64 c,.int .i64 501] u fun e w'=>e=.returned (.int .i64 m)∧w'=u))
    (HA:Hid (∀ u v,Kept w u→ProgAt u v p→GivesInts 8 #[v,.int .i64 m] u l [.int .i64 ks,.int .i64 er]))
    (HA2:Hid (∀ u v,Kept w u→ProgAt u v (p++[g])→GivesInts 8 #[v,.int .i64 m] u l [.int .i64 ks,.int .i64 er]))
    (HSI:Hid (∀ u v1 v2,IntsW u v1 l→IntsW u v2 l→Calls Tryd.prog 11 #[v1,v2] u fun e w'=>e=.returned (.bool true)∧Kept u w')) :
    Calls Tryd.prog 7 #[.slice (some ⟨b,o,none⟩) n cap,ve,.int .i64 L,.int .i64 c] w fun e w'=>e=.returned (.bool true)∧Kept w w':=by
  have n5:¬ (5:Int)≤(n:Int):=by omega
  have n6:decide ((5:Int)≤(n:Int))=false:=decide_eq_false n5
  have n7:decide ((n:Int) ≥ 5)=false:=decide_eq_false n5
  go_enter Tryd.func7,Tryd.ntmps7
  go_wp2_with fail
  refine ((un HF) _ (Kept.refl w)).mono ?_
  rintro _ w1 ⟨cv,rfl,hcv,hk1⟩
  obtain ⟨o6,c6,rfl,_,_⟩:=id hcv
  have HK:=hide (hk1.alloc (.cells #[.int .i64 g.args,.int .i64 g.locals,.slice o6 g.code.length c6] 33))
  have HCV:=hide (hcv.kept ((Kept.refl w1).alloc (.cells #[.int .i64 g.args,.int .i64 g.locals,.slice o6 g.code.length c6] 33)))
  have LF:Hid ((w1.alloc (.cells #[.int .i64 g.args,.int .i64 g.locals,.slice o6 g.code.length c6] 33)).heap[w1.heap.size]?=some (.cells #[.int .i64 g.args,.int .i64 g.locals,.slice o6 g.code.length c6] 33)):=hide (lays_new rfl)
  clear hcv hk1 HF
  generalize hG:g.code.length=G at *
  have HG:=hide hG
  clear hG
  go_wp2_with fail
  generalize w1.alloc (.cells #[.int .i64 g.args,.int .i64 g.locals,.slice o6 G c6] 33)=w2 at HK HCV LF ⊢
  generalize w1.heap.size=X at LF ⊢
  refine ((un HC) _ _ (un HK) ((un hp).kept (un HK))).mono ?_
  rintro _ w3 ⟨rfl,hk3⟩
  have LF3:=hide (lays_kept hk3 (un LF))
  have HCV3:=hide ((un HCV).kept hk3)
  replace HK:=hide ((un HK).trans hk3)
  clear hk3 HC LF HCV
  have x0:=cell_lays (un LF3) 0
  have x1:=cell_lays (un LF3) 1
  have x2:=cell_lays (un LF3) 2
  simp only [List.getElem?_toArray,List.getElem?_cons_zero,List.getElem?_cons_succ] at x0 x1 x2
  have hpk:=(un hp).kept (un HK)
  have hpl:n=p.length:=by
    obtain ⟨_,_,e,_⟩:=id hpk
    simp only [Value.slice.injEq] at e
    exact e.2.1
  obtain ⟨xs,hxl,hxc,hx1,hxp⟩:=prog_cells hpk
  have HX:=hide (And.intro hpl (And.intro hxl (And.intro hxc (And.intro hx1 hxp))))
  clear hpk hpl hxl hxc hx1 hxp
  go_wp2_with fail
  refine wp_region_held_drew (S:=fun y=>Kept w3 y) (by kernel_rfl) ((Kept.refl w3).drew) (fun hHeld=>?_)
  refine planY [1,3] ?_
  repeat
    refine takeY (v:=?_) hHeld (fun u hSu=>?_) ?_
    rotate_left
    · (have y0:=Kept.cell hSu x0; have y1:=Kept.cell hSu x1; have y2:=Kept.cell hSu x2; (try dsimp only at y0 y1 y2); go_simp) <;> with_reducible rfl
    try simp only [PS]
  refine endY ?_
  refine take_twoF (i:=0) (k:=4) rfl rfl (by kernel_rfl) (fun K hK=>?_) (fun K hK=>?_)
  · go_simp
    refine hK.out _ _ (((Kept.refl w3).alloc _).drew) (fun hHeld=>?_)
    have hrow:(w3.alloc (.cells #[] 33)).drew.ownsRow w3.heap.size 33 3 (.slice (some ⟨w3.heap.size,0,none⟩) 0 0) 0 []:=row_none (show (w3.alloc (.cells #[] 33)).heap[w3.heap.size]?=_ from lays_new rfl) (Nat.le_refl _)
    generalize (w3.alloc (.cells #[] 33)).drew=y1 at hrow hHeld ⊢
    refine take_twoF (i:=2) (k:=4) rfl rfl (by kernel_rfl) (fun K1 hK1=>?_) (fun K1 hK1=>?_)
    · obtain ⟨o2,c2,y2,hr,hrow2,hk2,hold⟩:=app_fns hHeld hrow ⟨b,o,none⟩ n cap xs (un HX).2.1 (fun j u hj=>Kept.cell hHeld ((un HX).2.2.1 j u hj)) (un HX).2.2.2.1 (by omega)
      simp only [Nat.zero_add,List.nil_append] at hr hrow2
      refine step_appR _ rfl (.tmp 38) (.tmp 39) 22 rfl rfl rfl hr ?_
      simp only [PS]
      refine hK1.out _ _ hk2 (fun hHeld=>?_)
      clear hr
      refine take_oneF (i:=4) rfl (by kernel_rfl) (fun K4 hK4=>?_)
      go_simp
      refine hK4.out _ _ (Kept.alloc hHeld _) (fun hHeld=>?_)
      have hD:(y2.alloc (.cells #[.int .i64 g.args,.int .i64 g.locals,.slice o6 G c6] 33)).heap[y2.heap.size]?=some (.cells #[.int .i64 g.args,.int .i64 g.locals,.slice o6 G c6] 33):=lays_new rfl
      have hrow3:=hrow2.alloc (.cells #[.int .i64 g.args,.int .i64 g.locals,.slice o6 G c6] 33)
      generalize y2.alloc (.cells #[.int .i64 g.args,.int .i64 g.locals,.slice o6 G c6] 33)=y3 at hD hrow3 hHeld ⊢
      generalize y2.heap.size=D at hD ⊢
      refine take_oneF (i:=5) rfl (by kernel_rfl) (fun K5 hK5=>?_)
      obtain ⟨o5,c5,y5,hr,hrow5,hk5,-⟩:=app_fns hHeld hrow3 ⟨D,0,none⟩ 1 1 [.int .i64 g.args,.int .i64 g.locals,.slice o6 G c6] rfl (fn_cells hD) (fun u hu=>by simp only [List.mem_cons,List.not_mem_nil,or_false] at hu; rcases hu with rfl | rfl | rfl <;> rfl) (by omega)
      refine step_appR _ rfl (.tmp 40) (.tmp 42) 22 rfl rfl rfl hr ?_
      simp only [PS]
      refine hK5.out _ _ hk5 (fun hHeld=>?_)
      have HQ:=hide (prog_of_row hrow5 (un HX).2.1 (un HX).1 hn hk5 ((un HCV3).kept hk5).code (un HX).2.2.2.2)
      have HK5:=hide ((un HK).trans hk5)
      clear hr hrow5 hrow3 hD hk5 HX LF3 HCV3 x0 x1 x2
      refine planY [6] ?_
      refine takeY (v:=?_) hHeld (fun u hSu=>?_) ?_
      rotate_left
      · go_simp <;> with_reducible rfl
      try simp only [PS]
      refine endY ?_
      refine wpAnyH_done (by kernel_rfl) ?_ _
      clear hHeld
      go_wp2_with fail
      refine ((un HM) _).mono ?_
      rintro _ _ ⟨rfl,rfl⟩
      have HG1:=hide ((un HA) _ _ (un HK5) ((un hp).kept (un HK5)))
      unfold GivesInts at HG1
      go_wp2_with fail
      refine (un HG1).mono ?_
      rintro _ y6 ⟨oa,na,ca,rfl,rfl,-,ha,hk6⟩
      replace HK5:=hide ((un HK5).trans hk6)
      replace HQ:=hide ((un HQ).kept hk6)
      have HL1:=hide ha
      have HG2:=hide ((un HA2) _ _ (un HK5) (un HQ))
      clear HG1 ha hk6
      unfold GivesInts at HG2
      go_wp2_with fail
      refine (un HG2).mono ?_
      rintro _ y7 ⟨ob,nb,cb,rfl,rfl,-,hb,hk7⟩
      replace HK5:=hide ((un HK5).trans hk7)
      replace HQ:=hide ((un HQ).kept hk7)
      replace HL1:=hide ((un HL1).kept hk7)
      have HL2:=hide hb
      clear HG2 hb hk7
      go_wp2_with fail
      refine ((un HB) _ (un HK5)).mono ?_
      rintro _ y8 ⟨rfl,hk8⟩
      replace HK5:=hide ((un HK5).trans hk8)
      replace HQ:=hide ((un HQ).kept hk8)
      replace HL1:=hide ((un HL1).kept hk8)
      replace HL2:=hide ((un HL2).kept hk8)
      clear hk8
      go_wp2_with fail
      refine ((un HC2) _ _ (un HK5) (un HQ)).mono ?_
      rintro _ y9 ⟨rfl,hk9⟩
      replace HK5:=hide ((un HK5).trans hk9)
      replace HL1:=hide ((un HL1).kept hk9)
      replace HL2:=hide ((un HL2).kept hk9)
      clear hk9
      go_wp2_with fail
      refine ((un HSI) _ _ _ (un HL1) (un HL2)).mono ?_
      rintro _ yA ⟨rfl,hkA⟩
      replace HK5:=hide ((un HK5).trans hkA)
      clear hkA
      go_wp2_with fail
      go_ret
      exact ⟨rfl,un HK5⟩
    · go_simp
      refine hK1.out _ _ (Kept.alloc hHeld _) (fun hHeld=>?_)
      have hD:(y1.alloc (.cells #[.int .i64 g.args,.int .i64 g.locals,.slice o6 G c6] 33)).heap[y1.heap.size]?=some (.cells #[.int .i64 g.args,.int .i64 g.locals,.slice o6 G c6] 33):=lays_new rfl
      have hrowA:=hrow.alloc (.cells #[.int .i64 g.args,.int .i64 g.locals,.slice o6 G c6] 33)
      have hne:=row_old hrow
      generalize y1.alloc (.cells #[.int .i64 g.args,.int .i64 g.locals,.slice o6 G c6] 33)=y3 at hD hrowA hHeld ⊢
      generalize y1.heap.size=D at hD hne ⊢
      refine take_oneF (i:=2) rfl (by kernel_rfl) (fun K2 hK2=>?_)
      obtain ⟨o2,c2,y2,hr,hrow2,hk2,hold⟩:=app_fns hHeld hrowA ⟨b,o,none⟩ n cap xs (un HX).2.1 (fun j u hj=>Kept.cell hHeld ((un HX).2.2.1 j u hj)) (un HX).2.2.2.1 (by omega)
      simp only [Nat.zero_add,List.nil_append] at hr hrow2
      refine step_appR _ rfl (.tmp 38) (.tmp 39) 22 rfl rfl rfl hr ?_
      simp only [PS]
      refine hK2.out _ _ hk2 (fun hHeld=>?_)
      clear hr
      have hrow3:=hrow2
      replace hD:=hold D _ hD hne
      refine take_oneF (i:=5) rfl (by kernel_rfl) (fun K5 hK5=>?_)
      obtain ⟨o5,c5,y5,hr,hrow5,hk5,-⟩:=app_fns hHeld hrow3 ⟨D,0,none⟩ 1 1 [.int .i64 g.args,.int .i64 g.locals,.slice o6 G c6] rfl (fn_cells hD) (fun u hu=>by simp only [List.mem_cons,List.not_mem_nil,or_false] at hu; rcases hu with rfl | rfl | rfl <;> rfl) (by omega)
      refine step_appR _ rfl (.tmp 40) (.tmp 42) 22 rfl rfl rfl hr ?_
      simp only [PS]
      refine hK5.out _ _ hk5 (fun hHeld=>?_)
      have HQ:=hide (prog_of_row hrow5 (un HX).2.1 (un HX).1 hn hk5 ((un HCV3).kept hk5).code (un HX).2.2.2.2)
      have HK5:=hide ((un HK).trans hk5)
      clear hr hrow5 hrow3 hD hk5 HX LF3 HCV3 x0 x1 x2
      refine planY [6] ?_
      refine takeY (v:=?_) hHeld (fun u hSu=>?_) ?_
      rotate_left
      · go_simp <;> with_reducible rfl
      try simp only [PS]
      refine endY ?_
      refine wpAnyH_done (by kernel_rfl) ?_ _
      clear hHeld
      go_wp2_with fail
      refine ((un HM) _).mono ?_
      rintro _ _ ⟨rfl,rfl⟩
      have HG1:=hide ((un HA) _ _ (un HK5) ((un hp).kept (un HK5)))
      unfold GivesInts at HG1
      go_wp2_with fail
      refine (un HG1).mono ?_
      rintro _ y6 ⟨oa,na,ca,rfl,rfl,-,ha,hk6⟩
      replace HK5:=hide ((un HK5).trans hk6)
      replace HQ:=hide ((un HQ).kept hk6)
      have HL1:=hide ha
      have HG2:=hide ((un HA2) _ _ (un HK5) (un HQ))
      clear HG1 ha hk6
      unfold GivesInts at HG2
      go_wp2_with fail
      refine (un HG2).mono ?_
      rintro _ y7 ⟨ob,nb,cb,rfl,rfl,-,hb,hk7⟩
      replace HK5:=hide ((un HK5).trans hk7)
      replace HQ:=hide ((un HQ).kept hk7)
      replace HL1:=hide ((un HL1).kept hk7)
      have HL2:=hide hb
      clear HG2 hb hk7
      go_wp2_with fail
      refine ((un HB) _ (un HK5)).mono ?_
      rintro _ y8 ⟨rfl,hk8⟩
      replace HK5:=hide ((un HK5).trans hk8)
      replace HQ:=hide ((un HQ).kept hk8)
      replace HL1:=hide ((un HL1).kept hk8)
      replace HL2:=hide ((un HL2).kept hk8)
      clear hk8
      go_wp2_with fail
      refine ((un HC2) _ _ (un HK5) (un HQ)).mono ?_
      rintro _ y9 ⟨rfl,hk9⟩
      replace HK5:=hide ((un HK5).trans hk9)
      replace HL1:=hide ((un HL1).kept hk9)
      replace HL2:=hide ((un HL2).kept hk9)
      clear hk9
      go_wp2_with fail
      refine ((un HSI) _ _ _ (un HL1) (un HL2)).mono ?_
      rintro _ yA ⟨rfl,hkA⟩
      replace HK5:=hide ((un HK5).trans hkA)
      clear hkA
      go_wp2_with fail
      go_ret
      exact ⟨rfl,un HK5⟩
  · go_simp
    refine hK.out _ _ (((Kept.refl w3).alloc _).drew) (fun hHeld=>?_)
    have hD:(w3.alloc (.cells #[.int .i64 g.args,.int .i64 g.locals,.slice o6 G c6] 33)).drew.heap[w3.heap.size]?=some (.cells #[.int .i64 g.args,.int .i64 g.locals,.slice o6 G c6] 33):=(show (w3.alloc (.cells #[.int .i64 g.args,.int .i64 g.locals,.slice o6 G c6] 33)).heap[w3.heap.size]?=_ from lays_new rfl)
    have hDlt:w3.heap.size < (w3.alloc (.cells #[.int .i64 g.args,.int .i64 g.locals,.slice o6 G c6] 33)).drew.heap.size:=(Array.getElem?_eq_some_iff.1 hD).1
    generalize (w3.alloc (.cells #[.int .i64 g.args,.int .i64 g.locals,.slice o6 G c6] 33)).drew=y0 at hD hHeld hDlt ⊢
    refine take_oneF (i:=0) rfl (by kernel_rfl) (fun K0 hK0=>?_)
    go_simp
    refine hK0.out _ _ (Kept.alloc hHeld _) (fun hHeld=>?_)
    have hrow:(y0.alloc (.cells #[] 33)).ownsRow w3.heap.size 33 3 (.slice (some ⟨y0.heap.size,0,none⟩) 0 0) 0 []:=row_none (lays_new rfl) (Nat.le_of_lt hDlt)
    have hne:(Value.slice (some ⟨y0.heap.size,0,none⟩) 0 0).ownBlock≠some w3.heap.size:=fun e=>by
      have:=Option.some.inj e
      simp at this
      omega
    replace hD:=lays_alloc hD (.cells #[] 33)
    generalize y0.alloc (.cells #[] 33)=y1 at hrow hHeld hD ⊢
    generalize y0.heap.size=E0 at hrow hne ⊢
    refine take_oneF (i:=2) rfl (by kernel_rfl) (fun K2 hK2=>?_)
    obtain ⟨o2,c2,y2,hr,hrow2,hk2,hold⟩:=app_fns hHeld hrow ⟨b,o,none⟩ n cap xs (un HX).2.1 (fun j u hj=>Kept.cell hHeld ((un HX).2.2.1 j u hj)) (un HX).2.2.2.1 (by omega)
    simp only [Nat.zero_add,List.nil_append] at hr hrow2
    refine step_appR _ rfl (.tmp 38) (.tmp 39) 22 rfl rfl rfl hr ?_
    simp only [PS]
    refine hK2.out _ _ hk2 (fun hHeld=>?_)
    clear hr
    have hrow3:=hrow2
    replace hD:=hold _ _ hD hne
    generalize hDD:w3.heap.size=D at hD ⊢
    rw [hDD] at hrow3
    rw [← hDD] at hrow3
    refine take_oneF (i:=5) rfl (by kernel_rfl) (fun K5 hK5=>?_)
    obtain ⟨o5,c5,y5,hr,hrow5,hk5,-⟩:=app_fns hHeld hrow3 ⟨D,0,none⟩ 1 1 [.int .i64 g.args,.int .i64 g.locals,.slice o6 G c6] rfl (fn_cells hD) (fun u hu=>by simp only [List.mem_cons,List.not_mem_nil,or_false] at hu; rcases hu with rfl | rfl | rfl <;> rfl) (by omega)
    refine step_appR _ rfl (.tmp 40) (.tmp 42) 22 rfl rfl rfl hr ?_
    simp only [PS]
    refine hK5.out _ _ hk5 (fun hHeld=>?_)
    have HQ:=hide (prog_of_row hrow5 (un HX).2.1 (un HX).1 hn hk5 ((un HCV3).kept hk5).code (un HX).2.2.2.2)
    have HK5:=hide ((un HK).trans hk5)
    clear hr hrow5 hrow3 hD hk5 HX LF3 HCV3 x0 x1 x2
    refine planY [6] ?_
    refine takeY (v:=?_) hHeld (fun u hSu=>?_) ?_
    rotate_left
    · go_simp <;> with_reducible rfl
    try simp only [PS]
    refine endY ?_
    refine wpAnyH_done (by kernel_rfl) ?_ _
    clear hHeld
    go_wp2_with fail
    refine ((un HM) _).mono ?_
    rintro _ _ ⟨rfl,rfl⟩
    have HG1:=hide ((un HA) _ _ (un HK5) ((un hp).kept (un HK5)))
    unfold GivesInts at HG1
    go_wp2_with fail
    refine (un HG1).mono ?_
    rintro _ y6 ⟨oa,na,ca,rfl,rfl,-,ha,hk6⟩
    replace HK5:=hide ((un HK5).trans hk6)
    replace HQ:=hide ((un HQ).kept hk6)
    have HL1:=hide ha
    have HG2:=hide ((un HA2) _ _ (un HK5) (un HQ))
    clear HG1 ha hk6
    unfold GivesInts at HG2
    go_wp2_with fail
    refine (un HG2).mono ?_
    rintro _ y7 ⟨ob,nb,cb,rfl,rfl,-,hb,hk7⟩
    replace HK5:=hide ((un HK5).trans hk7)
    replace HQ:=hide ((un HQ).kept hk7)
    replace HL1:=hide ((un HL1).kept hk7)
    have HL2:=hide hb
    clear HG2 hb hk7
    go_wp2_with fail
    refine ((un HB) _ (un HK5)).mono ?_
    rintro _ y8 ⟨rfl,hk8⟩
    replace HK5:=hide ((un HK5).trans hk8)
    replace HQ:=hide ((un HQ).kept hk8)
    replace HL1:=hide ((un HL1).kept hk8)
    replace HL2:=hide ((un HL2).kept hk8)
    clear hk8
    go_wp2_with fail
    refine ((un HC2) _ _ (un HK5) (un HQ)).mono ?_
    rintro _ y9 ⟨rfl,hk9⟩
    replace HK5:=hide ((un HK5).trans hk9)
    replace HL1:=hide ((un HL1).kept hk9)
    replace HL2:=hide ((un HL2).kept hk9)
    clear hk9
    go_wp2_with fail
    refine ((un HSI) _ _ _ (un HL1) (un HL2)).mono ?_
    rintro _ yA ⟨rfl,hkA⟩
    replace HK5:=hide ((un HK5).trans hkA)
    clear hkA
    go_wp2_with fail
    go_ret
    exact ⟨rfl,un HK5⟩
theorem forgeFit_bad (ve:Value) (oa:Option Addr) (n cap:Nat) (L c:Int) (w:World) (g:Fn) (er pe:Int)
    (HF:Hid (∀ u,Kept w u→Calls Tryd.prog 12 #[ve,.int .i64 L] u (FgPost g er u)))
    (HB:Hid (∀ u,Kept w u→Calls Tryd.prog 16 #[] u fun e w'=>e=.returned (.bool true)∧Kept u w'))
    (HC:Hid (∀ u,Kept w u→Calls Tryd.prog 20 #[.slice oa n cap] u fun e w'=>e=.returned (.int .i64 pe)∧Kept u w'))
    (h:er≠0∨pe≠0∨5≤n) :
    Calls Tryd.prog 7 #[.slice oa n cap,ve,.int .i64 L,.int .i64 c] w fun e w'=>e=.returned (.bool true)∧Kept w w':=by
  by_cases he:er=0
  · subst he
    by_cases hp:pe=0
    · subst hp
      have n5:(5:Int)≤(n:Int):=by omega
      have n6:decide ((5:Int)≤(n:Int))=true:=decide_eq_true n5
      have n7:decide ((n:Int) ≥ 5)=true:=decide_eq_true n5
      clear h
      go_enter Tryd.func7,Tryd.ntmps7
      go_wp2_with fail
      refine ((un HF) _ (Kept.refl w)).mono ?_
      rintro _ w1 ⟨cv,rfl,hcv,hk1⟩
      obtain ⟨o6,c6,rfl,_,_⟩:=id hcv
      have HK:=hide (hk1.alloc (.cells #[.int .i64 g.args,.int .i64 g.locals,.slice o6 g.code.length c6] 33))
      clear hcv hk1 HF
      go_wp2_with fail
      refine ((un HC) _ (un HK)).mono ?_
      rintro _ w3 ⟨rfl,hk3⟩
      replace HK:=hide ((un HK).trans hk3)
      clear hk3 HC
      go_wp2_with fail
      refine ((un HB) _ (un HK)).mono ?_
      rintro _ w2 ⟨rfl,hk2⟩
      replace HK:=hide ((un HK).trans hk2)
      clear hk2
      go_wp2_with fail
      go_ret
      exact ⟨rfl,un HK⟩
    · have hp':(pe != 0)=true:=by rw [bne_iff_ne]; exact hp
      clear h
      go_enter Tryd.func7,Tryd.ntmps7
      go_wp2_with fail
      refine ((un HF) _ (Kept.refl w)).mono ?_
      rintro _ w1 ⟨cv,rfl,hcv,hk1⟩
      obtain ⟨o6,c6,rfl,_,_⟩:=id hcv
      have HK:=hide (hk1.alloc (.cells #[.int .i64 g.args,.int .i64 g.locals,.slice o6 g.code.length c6] 33))
      clear hcv hk1 HF
      go_wp2_with fail
      refine ((un HC) _ (un HK)).mono ?_
      rintro _ w3 ⟨rfl,hk3⟩
      replace HK:=hide ((un HK).trans hk3)
      clear hk3 HC
      go_wp2_with fail
      refine ((un HB) _ (un HK)).mono ?_
      rintro _ w2 ⟨rfl,hk2⟩
      replace HK:=hide ((un HK).trans hk2)
      clear hk2
      go_wp2_with fail
      go_ret
      exact ⟨rfl,un HK⟩
  · have he':(er != 0)=true:=by rw [bne_iff_ne]; exact he
    clear h
    go_enter Tryd.func7,Tryd.ntmps7
    go_wp2_with fail
    refine ((un HF) _ (Kept.refl w)).mono ?_
    rintro _ w1 ⟨cv,rfl,hcv,hk1⟩
    obtain ⟨o6,c6,rfl,_,_⟩:=id hcv
    have HK:=hide (hk1.alloc (.cells #[.int .i64 g.args,.int .i64 g.locals,.slice o6 g.code.length c6] 33))
    clear hcv hk1 HF
    go_wp2_with fail
    refine ((un HB) _ (un HK)).mono ?_
    rintro _ w2 ⟨rfl,hk2⟩
    replace HK:=hide ((un HK).trans hk2)
    clear hk2
    go_wp2_with fail
    go_ret
    exact ⟨rfl,un HK⟩
end Go.Proofs.YtogcfkmekdpmmaaDoor
