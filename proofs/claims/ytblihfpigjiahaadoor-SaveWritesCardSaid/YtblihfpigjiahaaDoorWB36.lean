/- StepM5, StepN, StepM6, StepO, StepM7 -/
import Derived.Test.YtblihfpigjiahaaDoorWB34
import Derived.Deep.RegionHeld3
import Derived.Test.YtblihfpigjiahaaDoorWB26
import Derived.Test.YtblihfpigjiahaaDoorWB25
set_option maxRecDepth 100000
set_option maxHeartbeats 8000000
namespace Go.Proofs.YtblihfpigjiahaaDoor
open Go.RowKit
theorem row_eq {w w':World} {base base':Nat} {e:TypeId} {size n:Nat} {v v':Value} {xs xs':List Value} (h:w.ownsRow base e size v n xs) (h':w'.ownsRow base' e size v' n xs') (hn:0<n) (hs:0<size) (hb:v'.ownBlock=v.ownBlock) (hg:∀ g,v.ownBlock=some g→w'.heap[g]?=w.heap[g]?):v'=v:=by
 rcases h.2 with ⟨_,h0⟩ | ⟨g,cap,cur,rfl,_,hgg,_,_,hsz,_⟩
 ·omega
 ·rcases h'.2 with ⟨_,h0⟩ | ⟨g',cap',cur',rfl,_,hgg',_,_,hsz',_⟩
  ·omega
  ·simp only [Value.ownBlock,Option.some.injEq] at hb
   subst hb
   rw [hg _ rfl,hgg] at hgg'
   obtain rfl:cur=cur':=by simpa using hgg'
   have:cap'*size=cap*size:=by rw [← hsz,← hsz']
   rw [Nat.eq_of_mul_eq_mul_right hs this]
theorem Xbe (base bs:Nat) (V:Key→Value) (s:St) (i cp bp op n fi ai cb co cl cc:Nat) (a:Int) (w:World) (h:Zi base w bs V s) (hd:DoAt base w s i bp op n fi ai cb co cl cc 3 a) (hst0:0<(Ze s i ((Zc s i).frames.length - 1)).stack.length) (al:Nat) (hal:a=al) (hlt:al<(Ze s i ((Zc s i).frames.length - 1)).locals.length) :
  Calls Tryd.prog 89 #[.slice (some ⟨bp,op,none⟩) n cp,.pointer (some ⟨bs,0,none⟩)] w fun e w'=>Jj base bs ((Zj (Zf s i ai)).turnTop i fun f=>{ f with locals:=f.locals.set a.toNat (Zv (Zf s i ai)) },0) w e w':=by
 subst hal
 generalize hR:(((Zj (Zf s i ai)).turnTop i fun f=>{ f with locals:=f.locals.set (al:Int).toNat (Zv (Zf s i ai)) }),(0:Int))=R
 have HR:=Za hR
 clear hR
 obtain ⟨hn,hr,hfn,hat,hfin,hain,hcl,hpc⟩:=hd
 have hj:(Zc s i).frames.length - 1<(Zc s i).frames.length:=by have:=hr.fr;omega
 obtain ⟨g,cap,eg,htop⟩:=Yu h hr.lt hr.fr hr.frs
 obtain ⟨b0,b1,_,_⟩:=h.cells
 rw [hn] at b1
 have HTOP:=Za htop
 have HO:=Za h
 have HPC:=Za hpc
 have HRU:=Za hr
 have HNX:=Za (Wb hn hr ai)
 have HEG:=Za eg
 have hf1:(fi:Int)<(n:Int):=by omega
 have hf0:(0:Int)≤(fi:Int):=by omega
 have ha1:(ai:Int)<(cl:Int):=by omega
 have ha0:(0:Int)≤(ai:Int):=by omega
 have hwa:IntKind.i64.wrap ((ai:Int)+1)=(ai:Int)+1:=by rw [IntKind.wrap_i64];omega
 generalize hjj:(Zc s i).frames.length - 1=j at *
 have HJJ:=Za hjj
 clear htop h hpc hr eg hjj
 go_enter Tryd.func89,Tryd.ntmps89
 go_wp2_with fail
 refine (un HTOP).mono ?_
 rintro _ _ ⟨rfl,m0,rfl⟩
 have ho1:Zi base (w.drewN m0) bs V s:=(un HO).same rfl
 have hb1:Below base w (w.drewN m0):=below_drewN (Below.refl _ _) m0
 generalize w.drewN m0=w1 at ho1 hb1 ⊢
 obtain ⟨g',cap',eg',hcap,k0,k1,k2,k3,fz,hbg⟩:=ho1.own.fr (i:=i) (j:=j) (un HRU).lt hj
 have hVg:V (.frames i)=.slice (some ⟨g,0,none⟩) (Zc s i).frames.length cap:=un HEG
 obtain ⟨rfl,rfl⟩:g=g'∧cap=cap':=by rw [hVg] at eg';simpa using eg'
 rw [hfn] at k0
 rw [hat] at k1
 obtain ⟨x0,x1,x2⟩:=(un HPC) w1 hb1
 have HY:Hid (∀ u,Zb w1 u→u.cell? ⟨g,j*4,none⟩=some (.int .i64 fi)∧u.cell? ⟨g,j*4+1,none⟩=some (.int .i64 ai)∧u.cell? ⟨bp,op+fi*3+2,none⟩=some (.slice (some ⟨cb,co,none⟩) cl cc)∧u.cell? ⟨cb,co+ai*2,none⟩=some (.int .i64 3)∧u.cell? ⟨cb,co+ai*2+1,none⟩=some (.int .i64 (al:Int))):=Za (fun u hu=>⟨hu.cell k0,hu.cell k1,hu.cell x0,hu.cell x1,hu.cell x2⟩)
 have HO1:=Za ho1
 have HB1:=Za hb1
 have hgl:=Xo k0
 simp only at hgl
 have HGL:=Za hgl
 have hlow:=ho1.low
 have hbw:=lt_of_block ho1.var
 clear ho1 hb1 k0 k1 k2 k3 x0 x1 x2 fz eg' hgl HTOP
 go_wp2_with fail
 go_region_held3 (fun u=>u.cell? ⟨g,j*4,none⟩=some (.int .i64 fi)∧u.cell? ⟨g,j*4+1,none⟩=some (.int .i64 ai)∧u.cell? ⟨bp,op+fi*3+2,none⟩=some (.slice (some ⟨cb,co,none⟩) cl cc)∧u.cell? ⟨cb,co+ai*2,none⟩=some (.int .i64 3)∧u.cell? ⟨cb,co+ai*2+1,none⟩=some (.int .i64 (al:Int))) (exact (un HY) _ (by repeat (first | exact Zb.refl _ | refine Zb.drew ?_ | refine Zb.alloc ?_ _ | refine Zb.setCell ?_ (by simp) _))) (fail)
 rename_i hheld
 clear hheld HY
 have LX:(w1.alloc (.cells #[.int .i64 3,.int .i64 (al:Int)] 86)).drew.heap[w1.heap.size]?=some (.cells #[.int .i64 3,.int .i64 (al:Int)] 86):=Xi (Zg rfl)
 have ho2:Zi base (w1.alloc (.cells #[.int .i64 3,.int .i64 (al:Int)] 86)).drew bs V s:=((un HO1).alloc _).same rfl
 have hb2:Below base w (w1.alloc (.cells #[.int .i64 3,.int .i64 (al:Int)] 86)).drew:=(Below.alloc (un HB1) (by omega) _).drew
 have hoffX:Own.off V s w1.heap.size:=(un HO1).own.new_off (.inl (Nat.le_refl _))
 have hXb:base≤w1.heap.size:=by omega
 have hXs:bs≠w1.heap.size:=by omega
 have hXg:w1.heap.size≠g:=by have:=un HGL;omega
 generalize (w1.alloc (.cells #[.int .i64 3,.int .i64 (al:Int)] 86)).drew=w2 at LX ho2 hb2 ⊢
 generalize w1.heap.size=X at LX hoffX hXb hXs hXg ⊢
 obtain ⟨_,_,eg2,_,_,k1,k2,_,fz,hbg2⟩:=ho2.own.fr (i:=i) (j:=j) (un HRU).lt hj
 obtain ⟨rfl,rfl⟩:=(by rw [hVg] at eg2;simpa using eg2:g=_∧cap=_)
 rw [hat] at k1
 have fz1:=fz (j*4+1)
 obtain ⟨ho3,hb3⟩:=ho2.setAt (un HRU).lt hj hVg ((ai:Int)+1)
 have ho3':Zi base (w2.setCell ⟨g,j*4+1,none⟩ (.int .i64 ((ai:Int)+1))) bs V (Zf s i ai):=by unfold Zf;rw [un HJJ];exact ho3
 have LX3:=Zz LX (a:=⟨g,j*4+1,none⟩) hXg (.int .i64 ((ai:Int)+1))
 have y0:=Zd LX3 0
 have y1:=Zd LX3 1
 have HO3:=Za ho3'
 have HB3:=Za (Below.trans hb2 hb3)
 have HLX:=Za LX3
 have HOX:=Za hoffX
 clear ho2 hb2 ho3 ho3' hb3 LX LX3 fz eg2 HO1 HB1 HO hoffX
 go_wp2_with fail
 generalize w2.setCell ⟨g,j*4+1,none⟩ (.int .i64 ((ai:Int)+1))=w3 at HO3 HB3 y0 y1 HLX ⊢
 have hgb:(V (.frames i)).ownBlock=some g:=by rw [hVg];rfl
 have HGB:=Za hgb
 clear hgb
 obtain ⟨n1,n2,n3,n4,n5,n6,n7,n8⟩:=un HNX
 have hjn:(Zc (Zf s i ai) i).frames.length - 1=j:=by rw [n5];exact un HJJ
 have HPL:=Za (Px base bs V (Zf s i ai) i w3 (un HO3) n1 n8.lt n8.fr n8.frs n8.st (by rw [hjn,n6];exact hst0))
 have hjn':j<(Zc (Zf s i ai) i).frames.length:=by rw [n5];exact hj
 obtain ⟨g3,cap3,eg3,_,_,_,m2,_,_,_⟩:=(un HO3).own.fr (i:=i) (j:=j) n8.lt hjn'
 obtain ⟨rfl,rfl⟩:g=g3∧cap=cap3:=by rw [hVg,n5] at eg3;simpa using eg3
 have hrow:=(un HO3).own.loc (i:=i) (j:=j) n8.lt hjn'
 rw [n6] at hrow
 simp only [] at hrow
 obtain ⟨gl,cpl,el,_,_,_,_⟩:=Zbx hrow (by omega)
 have hglg:gl≠g:=fun e=>by have:=(un HO3).own.apart (.locals i j) (.frames i) g ⟨n8.lt,hjn'⟩ n8.lt (by rw [el,e];rfl) (un HGB);cases this
 rw [el] at m2
 obtain ⟨p1,p2,p3,p4,p5,p6,p7⟩:=Pa n1 n8.lt n8.fr
 have r1:=n8.pull n1
 have hlp:(Zc (Zj (Zf s i ai)) i).frames.length=(Zc s i).frames.length:=by rw [p5,n5]
 have hjp':j<(Zc (Zj (Zf s i ai)) i).frames.length:=by rw [hlp];exact hj
 have hlo:(Ze (Zj (Zf s i ai)) i j).locals=(Ze s i j).locals:=by
  rw [Zbl n1,hjn,Uh _ n8.lt hjn',n6]
 have hturn:∀ z,((Zj (Zf s i ai)).turnTop (i:Int) fun f=>{ f with locals:=f.locals.set (al:Int).toNat z })=Qu (Zj (Zf s i ai)) i j { Ze (Zj (Zf s i ai)) i j with locals:=(Ze (Zj (Zf s i ai)) i j).locals.set al z }:=fun z=>by
  rw [Py,hlp,un HJJ,Int.toNat_natCast]
 rw [hturn] at HR
 have HY3:Hid (∀ u,Zb w3 u→u.cell? ⟨X,1,none⟩=some (.int .i64 al)∧u.cell? ⟨g,j*4+2,none⟩=some (.slice (some ⟨gl,0,none⟩) (Ze s i j).locals.length cpl)):=Za (fun u hu=>⟨hu.cell y1,hu.cell m2⟩)
 have HROW:=Za hrow
 have HEL:=Za el
 have HGG:=Za hglg
 have hPD:=fun (u:World) (hu:u.heap=w3.heap)=>Px base bs V (Zf s i ai) i u ((un HO3).same hu) n1 n8.lt n8.fr n8.frs n8.st (by rw [hjn,n6];exact hst0)
 have HPD:=Za hPD
 generalize Zv (Zf s i ai)=z at HPD HR
 generalize Zj (Zf s i ai)=s1 at HPD HR p2 r1 hjp' hlp hlo
 have HLO:=Za hlo
 have HR1:=Za r1
 have hl1:(al:Int)<((Ze s i j).locals.length:Int):=by omega
 have hl0:(0:Int)≤(al:Int):=by omega
 generalize hll:(Ze s i j).locals.length=ll at *
 have HLL:=Za hll
 clear n1 n2 n3 n4 n5 n6 n7 n8 p1 p3 p4 p5 p6 p7 y0 y1 hjn m2 hrow el eg3 hturn hPD HPL hlo r1 hll hglg
 refine Zac 9 (fun u=>u.cell? ⟨X,1,none⟩=some (.int .i64 al)∧u.cell? ⟨g,j*4+2,none⟩=some (.slice (some ⟨gl,0,none⟩) ll cpl)) (by kernel_rfl) ?_
 have hHeld:=(un HY3) _ (Zb.refl w3).drew
 refine Zt (i:=0) (v:=?_) rfl (by kernel_rfl) (by kernel_rfl) (by kernel_rfl) (by kernel_rfl) (fun _ _ _ h=>h) (by rfl) (fun u hSu=>?_) hHeld ?_
 rotate_left
 ·((try dsimp only at hSu);go_simp) <;> with_reducible rfl
 try simp only [PS]
 refine Zt (i:=1) (v:=?_) rfl (by kernel_rfl) (by kernel_rfl) (by kernel_rfl) (by kernel_rfl) (fun _ _ _ h=>h) (by rfl) (fun u hSu=>?_) hHeld ?_
 rotate_left
 ·((try dsimp only at hSu);go_simp) <;> with_reducible rfl
 try simp only [PS]
 refine Zt (i:=2) (v:=?_) rfl (by kernel_rfl) (by kernel_rfl) (by kernel_rfl) (by kernel_rfl) (fun _ _ _ h=>h) (by rfl) (fun u hSu=>?_) hHeld ?_
 rotate_left
 ·((try dsimp only at hSu);go_simp) <;> with_reducible rfl
 try simp only [PS]
 refine Zt (i:=3) (v:=?_) rfl (by kernel_rfl) (by kernel_rfl) (by kernel_rfl) (by kernel_rfl) (fun _ _ _ h=>h) (by rfl) (fun u hSu=>?_) hHeld ?_
 rotate_left
 ·((try dsimp only at hSu);go_simp) <;> with_reducible rfl
 try simp only [PS]
 refine Zt (i:=4) (v:=?_) rfl (by kernel_rfl) (by kernel_rfl) (by kernel_rfl) (by kernel_rfl) (fun _ _ _ h=>h) (by rfl) (fun u hSu=>?_) hHeld ?_
 rotate_left
 ·((try dsimp only at hSu);go_simp) <;> with_reducible rfl
 try simp only [PS]
 refine Zt (i:=5) (v:=?_) rfl (by kernel_rfl) (by kernel_rfl) (by kernel_rfl) (by kernel_rfl) (fun _ _ _ h=>h) (by rfl) (fun u hSu=>?_) hHeld ?_
 rotate_left
 ·((try dsimp only at hSu);go_simp) <;> with_reducible rfl
 try simp only [PS]
 refine Zt (i:=6) (v:=?_) rfl (by kernel_rfl) (by kernel_rfl) (by kernel_rfl) (by kernel_rfl) (fun _ _ _ h=>h) (by rfl) (fun u hSu=>?_) hHeld ?_
 rotate_left
 ·((try dsimp only at hSu);go_simp) <;> with_reducible rfl
 try simp only [PS]
 refine Xl (i:=7) rfl (by kernel_rfl) (fun K hK=>?_)
 go_simp
 refine ((un HPD) w3.drew rfl).mono ?_
 rintro _ w4 ⟨rfl,V4,ho4,hb4,hf4,hvb4,hh4⟩
 have hV4:V4 (.frames i)=.slice (some ⟨g,0,none⟩) (Zc s1 i).frames.length cap:=by rw [hf4,hVg,hlp]
 have LX4:w4.heap[X]?=_:=(hh4 X (by rw [un HGB];intro e;exact hXg (Option.some.inj e).symm)).trans (un HLX)
 have hrow4:=ho4.own.loc (i:=i) (j:=j) (un HR1).lt hjp'
 rw [un HLO,un HLL] at hrow4
 have hVl:V4 (.locals i j)=V (.locals i j):=row_eq (un HROW) hrow4 (by omega) (by decide) (hvb4 _) (fun gg hgg=>hh4 gg (by rw [un HGB];intro e;rw [un HEL] at hgg;exact un HGG (by have h1:=Option.some.inj e;have h2:gl=gg:=Option.some.inj hgg;rw [h2,h1])))
 obtain ⟨g4,cap4,eg4,_,_,_,m4,_,_,_⟩:=ho4.own.fr (i:=i) (j:=j) (un HR1).lt hjp'
 obtain ⟨rfl,rfl⟩:g=g4∧cap=cap4:=by rw [hV4] at eg4;simpa using eg4
 rw [hVl,un HEL] at m4
 obtain ⟨gl',cpl',el',_,hcell4,hfz4,_⟩:=Zbx hrow4 (by omega)
 obtain ⟨rfl,rfl⟩:gl=gl'∧cpl=cpl':=by rw [hVl,un HEL] at el';simpa using el'
 have hv4:=hcell4 al _ (Zci (Zq (Ze s i j).locals al 0 (by rw [un HLL];exact hlt)))
 have hfz:=hfz4 al
 obtain ⟨ho5,hb5⟩:=ho4.setLocal (q:=al) (un HR1).lt hjp' (show V4 (.locals i j)=.slice (some ⟨gl,0,none⟩) (Ze s1 i j).locals.length cpl by rw [un HLO,un HLL];exact el') z
 have HO5:=Za ho5
 have HB5:=Za (Below.trans (Below.trans (un HB3) (Below.trans (Below.drew (Below.refl _ w3)) hb4)) hb5)
 have HS4:=Za (And.intro (Zd LX4 1) m4)
 refine hK.out _ _ (fun _=>un HS4) ?_
 clear hK K ho4 hb4 hf4 hvb4 hh4 hV4 LX4 hrow4 hVl eg4 m4 el' hcell4 hfz4 ho5 hb5 hHeld
 try simp only [PS]
 refine Xl (i:=8) rfl (by kernel_rfl) (fun K hK=>?_)
 go_simp
 refine hK.out _ _ (fun _=>un HS4) ?_
 clear hK K
 try simp only [PS]
 refine Xl (i:=9) rfl (by kernel_rfl) (fun K hK=>?_)
 go_simp
 refine hK.out _ _ (fun h=>absurd rfl h) ?_
 clear hK K
 refine Uj (by kernel_rfl) ?_ _
 go_wp2
 go_ret
 unfold Jj
 rw [← un HR]
 exact ⟨rfl,un HB5,fun _=>⟨V4,un HO5⟩⟩
theorem Zyz (base bs:Nat) (V:Key→Value) (s:St) (fn:Int) (lo:Nat) (w:World) (h:Zi base w bs V s) (hfr:s.fibers.length≤1000) (hlo:lo≤1000) :
  ∃ v' w',(Builtin.append_ #[23,23] 23 #[V .fibers,.slice (some ⟨w.heap.size+1+1,0,none⟩) 1 1]).run Tryd.prog
    (((w.alloc (.cells ((List.replicate lo (0:Int)).map (fun z=>Value.int .i64 z)).toArray 3)).alloc (.cells #[.int .i64 fn,.int .i64 0,.slice (some ⟨w.heap.size,0,none⟩) lo lo,.slice none 0 0] 53)).alloc (.cells #[.slice (some ⟨w.heap.size+1,0,none⟩) 1 1,.int .i64 (-1)] 46)).drew=.ok v' w' ∧
   (∃ o c,v'=.slice o (s.fibers.length+1) c)∧(∃ V',Zi base (w'.setCell ⟨bs,0,none⟩ v') bs V' { s with fibers:=s.fibers++[⟨[⟨fn,0,List.replicate lo 0,[]⟩],-1⟩] })∧Below base w w' ∧
   (∀ b,b<w.heap.size→(V .fibers).ownBlock≠some b→w'.heap[b]?=w.heap[b]?):=by
 generalize hoL:Obj.cells ((List.replicate lo (0:Int)).map (fun z=>Value.int .i64 z)).toArray 3=oL
 generalize hoF:Obj.cells #[.int .i64 fn,.int .i64 0,.slice (some ⟨w.heap.size,0,none⟩) lo lo,.slice none 0 0] 53=oF
 generalize hoB:Obj.cells #[.slice (some ⟨w.heap.size+1,0,none⟩) 1 1,.int .i64 (-1)] 46=oB
 have lL:(((w.alloc oL).alloc oF).alloc oB).drew.heap[w.heap.size]?=some (.cells (ints (List.replicate lo 0)).toArray 3):=by rw [← hoL];exact Xi (Zr (Zr (Zg rfl) _) _)
 have lF:(((w.alloc oL).alloc oF).alloc oB).drew.heap[w.heap.size+1]?=some (.cells #[.int .i64 fn,.int .i64 0,.slice (some ⟨w.heap.size,0,none⟩) (List.replicate lo (0:Int)).length (List.replicate lo (0:Int)).length,.slice none 0 0] 53):=by rw [List.length_replicate,hoF];exact Xi (Zr (Zg (by simp)) _)
 have lB:(((w.alloc oL).alloc oF).alloc oB).drew.heap[w.heap.size+1+1]?=some (.cells #[.slice (some ⟨w.heap.size+1,0,none⟩) 1 1,.int .i64 (-1)] 46):=by rw [hoB];exact Xi (Zg (by simp))
 have hku:Zb w (((w.alloc oL).alloc oF).alloc oB).drew:=((((Zb.refl w).alloc _).alloc _).alloc _).drew
 have hu:=h.kept hku
 have hbw:=lt_of_block h.var
 have hlow:=h.low
 obtain ⟨v',w',V',h1,h2,h3,h4,_⟩:=Zzf hu hfr ⟨fn,0,List.replicate lo 0,[]⟩ (-1) rfl (by simpa using hlo) lL (h.own.new_off (.inl (Nat.le_refl _))) (by omega) (by omega) lF (h.own.new_off (.inl (by omega))) (by omega) (by omega) (by omega) lB
 exact ⟨v',w',h1,h2,⟨V',h3⟩,Below.grown (h.below hku) h4 (by have:=lt_of_block hu.var;omega) (fun r hr=>((hu.own.piece .fibers trivial).block r hr).1),fun b hb hne=>(h4.block b (Nat.lt_of_lt_of_le hb hku.size) (fun e=>hne e.symm)).trans (hku.block b hb)⟩
theorem Zof (base bs:Nat) (V:Key→Value) (s:St) (i cp bp op n fi ai cb co cl cc:Nat) (a:Int) (w:World) (h:Zi base w bs V s) (hd:DoAt base w s i bp op n fi ai cb co cl cc 11 a) (p:List Fn) (f2 a2 lo2:Nat) (ha2:a=f2) (hpf:∀ u,Below base w u→u.cell? ⟨bp,op+f2*3,none⟩=some (.int .i64 a2)∧u.cell? ⟨bp,op+f2*3+1,none⟩=some (.int .i64 lo2)) (hf2:f2<n) (hal:a2≤lo2) (hlo:lo2≤1000) (hsta:a2≤(Ze s i ((Zc s i).frames.length - 1)).stack.length) (hf6:(Zc s i).frames.length≤6) (hpa:(p.getD f2 Fn.zero).args=a2) (hpl:(p.getD f2 Fn.zero).locals=lo2) :
  Calls Tryd.prog 89 #[.slice (some ⟨bp,op,none⟩) n cp,.pointer (some ⟨bs,0,none⟩)] w fun e w'=>Jj base bs (Pd p (Zf s i ai) a) w e w':=by
 subst ha2
 generalize hR:Pd p (Zf s i ai) (f2:Int)=R
 have HR:=Za hR
 clear hR
 have HPF:=Za hpf
 have HPA:=Za hpa
 have HPLL:=Za hpl
 clear hpf hpa hpl
 obtain ⟨hn,hr,hfn,hat,hfin,hain,hcl,hpc⟩:=hd
 have hj:(Zc s i).frames.length - 1<(Zc s i).frames.length:=by have:=hr.fr;omega
 obtain ⟨g,cap,eg,htop⟩:=Yu h hr.lt hr.fr hr.frs
 obtain ⟨b0,b1,_,_⟩:=h.cells
 rw [hn] at b1
 have HTOP:=Za htop
 have HO:=Za h
 have HPC:=Za hpc
 have HRU:=Za hr
 have HNX:=Za (Wb hn hr ai)
 have HEG:=Za eg
 have hf1:(fi:Int)<(n:Int):=by omega
 have hf0:(0:Int)≤(fi:Int):=by omega
 have ha1:(ai:Int)<(cl:Int):=by omega
 have ha0:(0:Int)≤(ai:Int):=by omega
 have hwa:IntKind.i64.wrap ((ai:Int)+1)=(ai:Int)+1:=by rw [IntKind.wrap_i64];omega
 generalize hjj:(Zc s i).frames.length - 1=j at *
 have HJJ:=Za hjj
 clear htop h hpc hr eg hjj
 go_enter Tryd.func89,Tryd.ntmps89
 go_wp2_with fail
 refine (un HTOP).mono ?_
 rintro _ _ ⟨rfl,m0,rfl⟩
 have ho1:Zi base (w.drewN m0) bs V s:=(un HO).same rfl
 have hb1:Below base w (w.drewN m0):=below_drewN (Below.refl _ _) m0
 generalize w.drewN m0=w1 at ho1 hb1 ⊢
 obtain ⟨g',cap',eg',hcap,k0,k1,k2,k3,fz,hbg⟩:=ho1.own.fr (i:=i) (j:=j) (un HRU).lt hj
 have hVg:V (.frames i)=.slice (some ⟨g,0,none⟩) (Zc s i).frames.length cap:=un HEG
 obtain ⟨rfl,rfl⟩:g=g'∧cap=cap':=by rw [hVg] at eg';simpa using eg'
 rw [hfn] at k0
 rw [hat] at k1
 obtain ⟨x0,x1,x2⟩:=(un HPC) w1 hb1
 have HY:Hid (∀ u,Zb w1 u→u.cell? ⟨g,j*4,none⟩=some (.int .i64 fi)∧u.cell? ⟨g,j*4+1,none⟩=some (.int .i64 ai)∧u.cell? ⟨bp,op+fi*3+2,none⟩=some (.slice (some ⟨cb,co,none⟩) cl cc)∧u.cell? ⟨cb,co+ai*2,none⟩=some (.int .i64 11)∧u.cell? ⟨cb,co+ai*2+1,none⟩=some (.int .i64 (f2:Int))):=Za (fun u hu=>⟨hu.cell k0,hu.cell k1,hu.cell x0,hu.cell x1,hu.cell x2⟩)
 have HO1:=Za ho1
 have HB1:=Za hb1
 have hgl:=Xo k0
 simp only at hgl
 have HGL:=Za hgl
 have hlow:=ho1.low
 have hbw:=lt_of_block ho1.var
 clear ho1 hb1 k0 k1 k2 k3 x0 x1 x2 fz eg' hgl HTOP
 go_wp2_with fail
 go_region_held3 (fun u=>u.cell? ⟨g,j*4,none⟩=some (.int .i64 fi)∧u.cell? ⟨g,j*4+1,none⟩=some (.int .i64 ai)∧u.cell? ⟨bp,op+fi*3+2,none⟩=some (.slice (some ⟨cb,co,none⟩) cl cc)∧u.cell? ⟨cb,co+ai*2,none⟩=some (.int .i64 11)∧u.cell? ⟨cb,co+ai*2+1,none⟩=some (.int .i64 (f2:Int))) (exact (un HY) _ (by repeat (first | exact Zb.refl _ | refine Zb.drew ?_ | refine Zb.alloc ?_ _ | refine Zb.setCell ?_ (by simp) _))) (fail)
 rename_i hheld
 clear hheld HY
 have LX:(w1.alloc (.cells #[.int .i64 11,.int .i64 (f2:Int)] 86)).drew.heap[w1.heap.size]?=some (.cells #[.int .i64 11,.int .i64 (f2:Int)] 86):=Xi (Zg rfl)
 have ho2:Zi base (w1.alloc (.cells #[.int .i64 11,.int .i64 (f2:Int)] 86)).drew bs V s:=((un HO1).alloc _).same rfl
 have hb2:Below base w (w1.alloc (.cells #[.int .i64 11,.int .i64 (f2:Int)] 86)).drew:=(Below.alloc (un HB1) (by omega) _).drew
 have hoffX:Own.off V s w1.heap.size:=(un HO1).own.new_off (.inl (Nat.le_refl _))
 have hXb:base≤w1.heap.size:=by omega
 have hXs:bs≠w1.heap.size:=by omega
 have hXg:w1.heap.size≠g:=by have:=un HGL;omega
 generalize (w1.alloc (.cells #[.int .i64 11,.int .i64 (f2:Int)] 86)).drew=w2 at LX ho2 hb2 ⊢
 generalize w1.heap.size=X at LX hoffX hXb hXs hXg ⊢
 obtain ⟨_,_,eg2,_,_,k1,k2,_,fz,hbg2⟩:=ho2.own.fr (i:=i) (j:=j) (un HRU).lt hj
 obtain ⟨rfl,rfl⟩:=(by rw [hVg] at eg2;simpa using eg2:g=_∧cap=_)
 rw [hat] at k1
 have fz1:=fz (j*4+1)
 obtain ⟨ho3,hb3⟩:=ho2.setAt (un HRU).lt hj hVg ((ai:Int)+1)
 have ho3':Zi base (w2.setCell ⟨g,j*4+1,none⟩ (.int .i64 ((ai:Int)+1))) bs V (Zf s i ai):=by unfold Zf;rw [un HJJ];exact ho3
 have LX3:=Zz LX (a:=⟨g,j*4+1,none⟩) hXg (.int .i64 ((ai:Int)+1))
 have y0:=Zd LX3 0
 have y1:=Zd LX3 1
 have HO3:=Za ho3'
 have HB3:=Za (Below.trans hb2 hb3)
 have HLX:=Za LX3
 have HOX:=Za hoffX
 clear ho2 hb2 ho3 ho3' hb3 LX LX3 fz eg2 HO1 HB1 HO hoffX
 go_wp2_with fail
 generalize w2.setCell ⟨g,j*4+1,none⟩ (.int .i64 ((ai:Int)+1))=w3 at HO3 HB3 y0 y1 HLX ⊢
 obtain ⟨n1,n2,n3,n4,n5,n6,n7,n8⟩:=un HNX
 have hjn:(Zc (Zf s i ai) i).frames.length - 1=j:=by rw [n5];exact un HJJ
 have hR:=un HR
 rw [Xau n1 n8 (un HPA) (un HPLL)] at hR
 have HC:=Za (Zra base bs V (Zf s i ai) i f2 n cp bp op a2 lo2 w3 (un HO3) n1 n8 (fun u hu=>(un HPF) u (Below.trans (un HB3) hu)) hf2 hal hlo (by rw [hjn,n6];exact hsta) (by rw [n5];exact hf6) R hR)
 clear n1 n2 n3 n4 n5 n6 n7 n8 y0 y1 hR
 refine (un HC).mono ?_
 rintro _ w4 ⟨rfl,hb4,ho4⟩
 have HB4:=Za hb4
 have HO4:=Za ho4
 clear hb4 ho4 HC
 go_wp2
 go_ret
 exact ⟨rfl,Below.trans (un HB3) (un HB4),un HO4⟩
theorem Xbq (base bs:Nat) (V:Key→Value) (s:St) (i:Nat) (z:Int) (w:World) (h:Zi base w bs V s) (hi:i<s.fibers.length) (hq:0<(Zc s i).frames.length) (hqs:(Zc s i).frames.length≤1000) (hst:(Ze s i ((Zc s i).frames.length - 1)).stack.length≤1000) :
  Calls Tryd.prog 91 #[.pointer (some ⟨bs,0,none⟩),.int .i64 i,.int .i64 z] w fun e w'=>Zdr base bs (Qb s i z) (.tuple #[]) w e w'∧∀ b,b<w.heap.size→Own.off V s b→w'.heap[b]?=w.heap[b]?:=by
 obtain ⟨i0,hi0,hz0,hz1,hz2⟩:=info_parts Zaw
 obtain ⟨g,cap,eg,htop⟩:=Yu h hi hq hqs
 unfold Qb
 rw [Py]
 generalize hj:(Zc s i).frames.length - 1=j at *
 have hjl:j<(Zc s i).frames.length:=by omega
 have HT:=Za htop
 have HO:=Za h
 have HEG:=Za eg
 clear htop h
 go_enter Tryd.func91,Tryd.ntmps91
 go_wp2_with fail
 refine (un HT).mono ?_
 rintro e w1 ⟨rfl,m,rfl⟩
 generalize hw1:w.drewN m=w1
 have ho1:Zi base w1 bs V s:=(un HO).same (by rw [← hw1];rfl)
 have hb1:Below base w w1:=by rw [← hw1];exact below_drewN (Below.refl _ w) m
 obtain ⟨g',cap',eg',_,f0,f1,f2,f3,ffz,hbg⟩:=ho1.own.fr hi hjl
 rw [un HEG] at eg'
 obtain ⟨⟨rfl⟩,-,rfl⟩:=(by simpa using eg':(g=g')∧True∧cap=cap')
 have hs:=ho1.own.stk hi hjl
 have hlg:=Xo f0
 simp only at hlg
 have hbw:base≤w1.heap.size:=by omega
 have hgs:(V (.stack i j)).ownBlock≠some g:=fun e=>by
  have:=ho1.own.apart (.stack i j) (.frames i) g ⟨hi,hjl⟩ hi e (by rw [un HEG];rfl)
  cases this
 have HO1:=Za ho1
 have HSM:Hid (w1.heap=w.heap):=Za (by rw [← hw1];rfl)
 have HB1:=Za hb1
 have HS:=Za hs
 have hfz:=ffz (j*4+3)
 generalize hvs:V (.stack i j)=vs0 at *
 have HVS:=Za hvs
 generalize hl:(Ze s i j).stack=l at *
 have HL:=Za hl
 clear hw1 hb1 ho1 hvs hl hs f0 f1 f2 ffz eg'
 go_wp2_with (at_builtin;refine wpList_append_own_at _ rfl _ _ 24 rfl base 3 i0 (.int .i64 0) 1 8 Tryd.underlying24 hi0 hz0 hz1 hz2 rfl (by decide) _ _ _ rfl ((un HS).alloc _) ⟨w1.heap.size,0,none⟩ 1 1 [.int .i64 z] rfl rfl (Zft _ _ _) (Zff _) (by unfold maxLen;omega) (by omega) (by simp;omega) ?_;intro v' w2 hown' hgrow _ hat;obtain ⟨o2,c2,rfl,-⟩:=Xq hown';have g3:w2.cell? ⟨g,j*4+3,none⟩=some vs0:=hgrow.cell (((Zb.refl w1).alloc _).cell f3) (fun e=>hgs e.symm);have gz:w2.frozen? ⟨g,j*4+3,none⟩=false:=(World.frozen?_of_block (hgrow.block g (by simp;omega) (fun e=>hgs e.symm))).trans ((World.frozen?_of_block (Below.heap_alloc w1 _ g hlg)).trans hfz);have HOW:=Za hown';have HGR:=Za hgrow;have HAT:=Za hat;clear hown' hgrow hat)
 go_end0
 have hfin:=((un HO1).alloc (.cells #[.int .i64 z] 3)).turnStack (w2:=w2) hi hjl (un HEG) (.slice o2 (l.length+1) c2) (l++[z]) (by rw [un HVS];exact un HGR) (by rw [Zdm,List.length_append];exact un HOW) (by rw [un HVS];exact un HAT)
 unfold Zdr
 refine ⟨⟨rfl,upd V (.stack i j) (.slice o2 (l.length+1) c2),?_,?_⟩,fun b hb hoff=>?_⟩
 ·rw [un HL]
  exact hfin.1
 ·exact Below.trans (un HB1) (Below.trans (Below.alloc (Below.refl _ w1) hbw _) hfin.2)
 ·have hb1:b<w1.heap.size:=by rw [un HSM];exact hb
  rw [Below.heap_setCell _ _ _ _ (fun e=>hoff (.frames i) hi (by rw [un HEG];exact congrArg some e.symm)),(un HGR).block b (by simp;omega) (fun e=>hoff (.stack i j) ⟨hi,hjl⟩ (by rw [un HVS];exact e.symm)),Below.heap_alloc w1 _ b hb1,un HSM]
theorem Zwh (base bs:Nat) (V:Key→Value) (s:St) (i cp bp op n fi ai cb co cl cc:Nat) (a:Int) (w:World) (h:Zi base w bs V s) (hd:DoAt base w s i bp op n fi ai cb co cl cc 13 a) (p:List Fn) (f2 lo2:Nat) (ha2:a=f2) (hpf:∀ u,Below base w u→u.cell? ⟨bp,op+f2*3+1,none⟩=some (.int .i64 lo2)) (hf2:f2<n) (hlo:lo2≤1000) (hfb:s.fibers.length≤5) (hpl:(p.getD f2 Fn.zero).locals=lo2) :
  Calls Tryd.prog 89 #[.slice (some ⟨bp,op,none⟩) n cp,.pointer (some ⟨bs,0,none⟩)] w fun e w'=>Jj base bs (Ui p (Zf s i ai) a) w e w':=by
 subst ha2
 generalize hR:Ui p (Zf s i ai) (f2:Int)=R
 have HR:=Za hR
 clear hR
 have HPF:=Za hpf
 have HPLL:=Za hpl
 clear hpf hpl
 obtain ⟨hn,hr,hfn,hat,hfin,hain,hcl,hpc⟩:=hd
 have hj:(Zc s i).frames.length - 1<(Zc s i).frames.length:=by have:=hr.fr;omega
 obtain ⟨g,cap,eg,htop⟩:=Yu h hr.lt hr.fr hr.frs
 obtain ⟨b0,b1,_,_⟩:=h.cells
 rw [hn] at b1
 have HTOP:=Za htop
 have HO:=Za h
 have HPC:=Za hpc
 have HRU:=Za hr
 have HNX:=Za (Wb hn hr ai)
 have HEG:=Za eg
 have hf1:(fi:Int)<(n:Int):=by omega
 have hf0:(0:Int)≤(fi:Int):=by omega
 have ha1:(ai:Int)<(cl:Int):=by omega
 have ha0:(0:Int)≤(ai:Int):=by omega
 have hwa:IntKind.i64.wrap ((ai:Int)+1)=(ai:Int)+1:=by rw [IntKind.wrap_i64];omega
 generalize hjj:(Zc s i).frames.length - 1=j at *
 have HJJ:=Za hjj
 clear htop h hpc hr eg hjj
 go_enter Tryd.func89,Tryd.ntmps89
 go_wp2_with fail
 refine (un HTOP).mono ?_
 rintro _ _ ⟨rfl,m0,rfl⟩
 have ho1:Zi base (w.drewN m0) bs V s:=(un HO).same rfl
 have hb1:Below base w (w.drewN m0):=below_drewN (Below.refl _ _) m0
 generalize w.drewN m0=w1 at ho1 hb1 ⊢
 obtain ⟨g',cap',eg',hcap,k0,k1,k2,k3,fz,hbg⟩:=ho1.own.fr (i:=i) (j:=j) (un HRU).lt hj
 have hVg:V (.frames i)=.slice (some ⟨g,0,none⟩) (Zc s i).frames.length cap:=un HEG
 obtain ⟨rfl,rfl⟩:g=g'∧cap=cap':=by rw [hVg] at eg';simpa using eg'
 rw [hfn] at k0
 rw [hat] at k1
 obtain ⟨x0,x1,x2⟩:=(un HPC) w1 hb1
 have HY:Hid (∀ u,Zb w1 u→u.cell? ⟨g,j*4,none⟩=some (.int .i64 fi)∧u.cell? ⟨g,j*4+1,none⟩=some (.int .i64 ai)∧u.cell? ⟨bp,op+fi*3+2,none⟩=some (.slice (some ⟨cb,co,none⟩) cl cc)∧u.cell? ⟨cb,co+ai*2,none⟩=some (.int .i64 13)∧u.cell? ⟨cb,co+ai*2+1,none⟩=some (.int .i64 (f2:Int))):=Za (fun u hu=>⟨hu.cell k0,hu.cell k1,hu.cell x0,hu.cell x1,hu.cell x2⟩)
 have HO1:=Za ho1
 have HB1:=Za hb1
 have hgl:=Xo k0
 simp only at hgl
 have HGL:=Za hgl
 have hlow:=ho1.low
 have hbw:=lt_of_block ho1.var
 clear ho1 hb1 k0 k1 k2 k3 x0 x1 x2 fz eg' hgl HTOP
 go_wp2_with fail
 go_region_held3 (fun u=>u.cell? ⟨g,j*4,none⟩=some (.int .i64 fi)∧u.cell? ⟨g,j*4+1,none⟩=some (.int .i64 ai)∧u.cell? ⟨bp,op+fi*3+2,none⟩=some (.slice (some ⟨cb,co,none⟩) cl cc)∧u.cell? ⟨cb,co+ai*2,none⟩=some (.int .i64 13)∧u.cell? ⟨cb,co+ai*2+1,none⟩=some (.int .i64 (f2:Int))) (exact (un HY) _ (by repeat (first | exact Zb.refl _ | refine Zb.drew ?_ | refine Zb.alloc ?_ _ | refine Zb.setCell ?_ (by simp) _))) (fail)
 rename_i hheld
 clear hheld HY
 have LX:(w1.alloc (.cells #[.int .i64 13,.int .i64 (f2:Int)] 86)).drew.heap[w1.heap.size]?=some (.cells #[.int .i64 13,.int .i64 (f2:Int)] 86):=Xi (Zg rfl)
 have ho2:Zi base (w1.alloc (.cells #[.int .i64 13,.int .i64 (f2:Int)] 86)).drew bs V s:=((un HO1).alloc _).same rfl
 have hb2:Below base w (w1.alloc (.cells #[.int .i64 13,.int .i64 (f2:Int)] 86)).drew:=(Below.alloc (un HB1) (by omega) _).drew
 have hoffX:Own.off V s w1.heap.size:=(un HO1).own.new_off (.inl (Nat.le_refl _))
 have hXb:base≤w1.heap.size:=by omega
 have hXs:bs≠w1.heap.size:=by omega
 have hXg:w1.heap.size≠g:=by have:=un HGL;omega
 generalize (w1.alloc (.cells #[.int .i64 13,.int .i64 (f2:Int)] 86)).drew=w2 at LX ho2 hb2 ⊢
 generalize w1.heap.size=X at LX hoffX hXb hXs hXg ⊢
 obtain ⟨_,_,eg2,_,_,k1,k2,_,fz,hbg2⟩:=ho2.own.fr (i:=i) (j:=j) (un HRU).lt hj
 obtain ⟨rfl,rfl⟩:=(by rw [hVg] at eg2;simpa using eg2:g=_∧cap=_)
 rw [hat] at k1
 have fz1:=fz (j*4+1)
 obtain ⟨ho3,hb3⟩:=ho2.setAt (un HRU).lt hj hVg ((ai:Int)+1)
 have ho3':Zi base (w2.setCell ⟨g,j*4+1,none⟩ (.int .i64 ((ai:Int)+1))) bs V (Zf s i ai):=by unfold Zf;rw [un HJJ];exact ho3
 have LX3:=Zz LX (a:=⟨g,j*4+1,none⟩) hXg (.int .i64 ((ai:Int)+1))
 have y0:=Zd LX3 0
 have y1:=Zd LX3 1
 have HO3:=Za ho3'
 have HB3:=Za (Below.trans hb2 hb3)
 have HLX:=Za LX3
 have HOX:=Za hoffX
 clear ho2 hb2 ho3 ho3' hb3 LX LX3 fz eg2 HO1 HB1 HO hoffX
 obtain ⟨n1,n2,n3,n4,n5,n6,n7,n8⟩:=un HNX
 obtain ⟨gF,capF,eF,_,_,_,_,_⟩:=(un HO3).own.fib (i:=i) n8.lt
 obtain ⟨c0,c1,_,fzS⟩:=(un HO3).cells
 rw [n1] at c1
 rw [eF,n2] at c0
 generalize hN:s.fibers.length=N at *
 by_cases h5:N=5
 ·subst h5
  have hR:Ui p (Zf s i ai) (f2:Int)=(St.zero,2):=by unfold Ui;rw [if_pos n2]
  have hR2:=(un HR).symm.trans hR
  clear hR
  subst hR2
  clear n1 n2 n3 n4 n5 n6 n7 n8 eF
  go_wp2
  go_ret
  exact ⟨rfl,un HB3,fun e=>by cases e⟩
 ·have b5:((N:Int) == 5)=false:=beq_eq_false_iff_ne.2 (by omega)
  have hR:Ui p (Zf s i ai) (f2:Int)=({ Qb (Zf s i ai) i (N:Int) with fibers:=(Qb (Zf s i ai) i (N:Int)).fibers++[⟨[⟨(f2:Int),0,List.replicate lo2 0,[]⟩],-1⟩] },0):=by
   unfold Ui
   rw [n2,if_neg h5,n1]
   unfold Yn
   rw [Int.toNat_natCast,un HPLL]
   simp
  have HRR:=Za ((un HR).symm.trans hR)
  have HPU:=Za (fun (u:World) (hu:u.heap=(w2.setCell ⟨g,j*4+1,none⟩ (.int .i64 ((ai:Int)+1))).heap)=>Xbq base bs V (Zf s i ai) i (N:Int) u ((un HO3).same hu) n8.lt n8.fr n8.frs n8.st)
  have hl4:(Qb (Zf s i ai) (i:Int) (N:Int)).fibers.length=N:=by unfold Qb;rw [Py];exact (Xf _ _ _).trans n2
  have HOXn:Hid (Own.off V (Zf s i ai) X):=Za (fun kk hkk e=>(un HOX) kk ((We _ (un HRU).lt kk).1 hkk) e)
  have hlX:X<(w2.setCell ⟨g,j*4+1,none⟩ (.int .i64 ((ai:Int)+1))).heap.size:=(Array.getElem?_eq_some_iff.1 (un HLX)).1
  have HYS:Hid (∀ u,Zb (w2.setCell ⟨g,j*4+1,none⟩ (.int .i64 ((ai:Int)+1))) u→u.cell? ⟨bs,0,none⟩=some (.slice (some ⟨gF,0,none⟩) N capF)∧u.cell? ⟨bs,1,none⟩=some (.int .i64 i)):=Za (fun u hu=>⟨hu.cell c0,hu.cell c1⟩)
  have hNi:i<N:=by have:=n8.lt;omega
  generalize hs4:Qb (Zf s i ai) (i:Int) (N:Int)=s4 at HPU HRR hl4
  clear hR n1 n2 n3 n4 n5 n6 n7 n8 eF hs4
  go_wp2_with fail
  generalize w2.setCell ⟨g,j*4+1,none⟩ (.int .i64 ((ai:Int)+1))=w3 at *
  clear c0 c1 y0 y1 fzS
  refine Zac 10 (fun u=>u.cell? ⟨bs,0,none⟩=some (.slice (some ⟨gF,0,none⟩) N capF)∧u.cell? ⟨bs,1,none⟩=some (.int .i64 i)) (by kernel_rfl) ?_
  have hHeld:=(un HYS) _ (Zb.refl w3).drew
  refine Zt (i:=0) (v:=?_) rfl (by kernel_rfl) (by kernel_rfl) (by kernel_rfl) (by kernel_rfl) (fun _ _ _ h=>h) (by rfl) (fun u hSu=>?_) hHeld ?_
  rotate_left
  ·((try dsimp only at hSu);go_simp) <;> with_reducible rfl
  try simp only [PS]
  refine Zt (i:=1) (v:=?_) rfl (by kernel_rfl) (by kernel_rfl) (by kernel_rfl) (by kernel_rfl) (fun _ _ _ h=>h) (by rfl) (fun u hSu=>?_) hHeld ?_
  rotate_left
  ·((try dsimp only at hSu);go_simp) <;> with_reducible rfl
  try simp only [PS]
  refine Zt (i:=2) (v:=?_) rfl (by kernel_rfl) (by kernel_rfl) (by kernel_rfl) (by kernel_rfl) (fun _ _ _ h=>h) (by rfl) (fun u hSu=>?_) hHeld ?_
  rotate_left
  ·((try dsimp only at hSu);go_simp) <;> with_reducible rfl
  try simp only [PS]
  refine Zt (i:=3) (v:=?_) rfl (by kernel_rfl) (by kernel_rfl) (by kernel_rfl) (by kernel_rfl) (fun _ _ _ h=>h) (by rfl) (fun u hSu=>?_) hHeld ?_
  rotate_left
  ·((try dsimp only at hSu);go_simp) <;> with_reducible rfl
  try simp only [PS]
  refine Zt (i:=4) (v:=?_) rfl (by kernel_rfl) (by kernel_rfl) (by kernel_rfl) (by kernel_rfl) (fun _ _ _ h=>h) (by rfl) (fun u hSu=>?_) hHeld ?_
  rotate_left
  ·((try dsimp only at hSu);go_simp) <;> with_reducible rfl
  try simp only [PS]
  refine Zt (i:=5) (v:=?_) rfl (by kernel_rfl) (by kernel_rfl) (by kernel_rfl) (by kernel_rfl) (fun _ _ _ h=>h) (by rfl) (fun u hSu=>?_) hHeld ?_
  rotate_left
  ·((try dsimp only at hSu);go_simp) <;> with_reducible rfl
  try simp only [PS]
  refine Zt (i:=6) (v:=?_) rfl (by kernel_rfl) (by kernel_rfl) (by kernel_rfl) (by kernel_rfl) (fun _ _ _ h=>h) (by rfl) (fun u hSu=>?_) hHeld ?_
  rotate_left
  ·((try dsimp only at hSu);go_simp) <;> with_reducible rfl
  try simp only [PS]
  refine Zt (i:=7) (v:=?_) rfl (by kernel_rfl) (by kernel_rfl) (by kernel_rfl) (by kernel_rfl) (fun _ _ _ h=>h) (by rfl) (fun u hSu=>?_) hHeld ?_
  rotate_left
  ·((try dsimp only at hSu);go_simp) <;> with_reducible rfl
  try simp only [PS]
  refine Zt (i:=8) (v:=?_) rfl (by kernel_rfl) (by kernel_rfl) (by kernel_rfl) (by kernel_rfl) (fun _ _ _ h=>h) (by rfl) (fun u hSu=>?_) hHeld ?_
  rotate_left
  ·((try dsimp only at hSu);go_simp) <;> with_reducible rfl
  try simp only [PS]
  refine Zt (i:=9) (v:=?_) rfl (by kernel_rfl) (by kernel_rfl) (by kernel_rfl) (by kernel_rfl) (fun _ _ _ h=>h) (by rfl) (fun u hSu=>?_) hHeld ?_
  rotate_left
  ·((try dsimp only at hSu);go_simp) <;> with_reducible rfl
  try simp only [PS]
  refine Xl (i:=10) rfl (by kernel_rfl) (fun K hK=>?_)
  go_simp
  refine ((un HPU) w3.drew rfl).mono ?_
  rintro _ w4 ⟨⟨rfl,V4,ho4,hb4⟩,hh4⟩
  refine hK.out _ _ (fun h=>absurd rfl h) ?_
  clear hK K
  refine Uj (by kernel_rfl) ?_ _
  clear hHeld
  have LX4:w4.heap[X]?=_:=(hh4 X hlX (un HOXn)).trans (un HLX)
  have z1:=Zd LX4 1
  obtain ⟨gF4,capF4,eF4,_,_,_,_,_⟩:=ho4.own.fib (i:=i) (by rw [hl4];exact hNi)
  obtain ⟨d0,_,_,fz4⟩:=ho4.cells
  rw [eF4,hl4] at d0
  have hb4':=Below.trans (un HB3) (Below.trans (Below.drew (Below.refl _ w3)) hb4)
  have x4:=(un HPF) w4 hb4'
  obtain ⟨v5,w5,hr5,⟨o5,c5,rfl⟩,ho5,hb5,hk5⟩:=Zyz base bs V4 s4 (f2:Int) lo2 w4 ho4 (by rw [hl4];omega) hlo
  rw [eF4,hl4] at hr5
  have hfb4:(V4 .fibers).ownBlock=some gF4:=by rw [eF4];rfl
  have hFbs:gF4≠bs:=fun e=>ho4.off .fibers trivial (by rw [hfb4,e])
  have hFX:gF4≠X:=fun e=>by
   obtain ⟨xs,⟨_,⟨hx0,_⟩ | ⟨gg,cg,cur,hx1,_,hx2,_⟩⟩,_⟩:=ho4.own.piece .fibers trivial
   ·rw [eF4] at hx0;cases hx0
   ·rw [eF4] at hx1
    simp only [Value.slice.injEq,Option.some.injEq,Addr.mk.injEq] at hx1
    rw [← hx1.1.1,e,LX4] at hx2
    simp at hx2
  have erep:((List.replicate lo2 (0:Int)).map (fun z=>Value.int .i64 z)).toArray=Array.replicate lo2 (Value.int .i64 0):=by simp
  rw [erep] at hr5
  rw [hfb4] at hk5
  have hlbs:=Xo d0
  have hlX4:X<w4.heap.size:=(Array.getElem?_eq_some_iff.1 LX4).1
  simp only at hlbs
  have s0:w5.cell? ⟨bs,0,none⟩=some (.slice (some ⟨gF4,0,none⟩) N capF4):=(World.cell?_of_block (w:=w4) (hk5 bs hlbs (fun e=>hFbs (Option.some.inj e)))).trans d0
  have s1:w5.cell? ⟨X,1,none⟩=some (.int .i64 f2):=(World.cell?_of_block (w:=w4) (hk5 X hlX4 (fun e=>hFX (Option.some.inj e)))).trans z1
  have fzb:w5.frozen? ⟨bs,0,none⟩=false:=(World.frozen?_of_block (w:=w4) (hk5 bs hlbs (fun e=>hFbs (Option.some.inj e)))).trans (fz4 0)
  have HY4:Hid (∀ u,Zb w4 u→u.cell? ⟨bs,0,none⟩=some (.slice (some ⟨gF4,0,none⟩) N capF4)∧u.cell? ⟨X,1,none⟩=some (.int .i64 f2)∧u.cell? ⟨bp,op+f2*3+1,none⟩=some (.int .i64 lo2)):=Za (fun u hu=>⟨hu.cell d0,hu.cell z1,hu.cell x4⟩)
  have HS5:Hid (w5.cell? ⟨bs,0,none⟩=some (.slice (some ⟨gF4,0,none⟩) N capF4)∧w5.cell? ⟨X,1,none⟩=some (.int .i64 f2)∧w5.cell? ⟨bp,op+f2*3+1,none⟩=some (.int .i64 lo2)):=Za ⟨s0,s1,(un HPF) w5 (Below.trans hb4' hb5)⟩
  have HR5:=Za hr5
  have HO5:=Za ho5
  have HB5:=Za (Below.trans hb4' hb5)
  have HF5:=Za fzb
  have hmk:=Zbf lo2 (by omega)
  have hf21:(f2:Int)<(n:Int):=by omega
  have hf20:(0:Int)≤(f2:Int):=by omega
  clear ho4 hb4 hh4 LX4 z1 eF4 d0 fz4 hb4' x4 hr5 ho5 hb5 hk5 hfb4 hFbs hFX erep s0 s1 fzb HPU HYS hlX hlX4 hlbs
  go_wp2_with fail
  refine Zac 21 (fun u=>u.cell? ⟨bs,0,none⟩=some (.slice (some ⟨gF4,0,none⟩) N capF4)∧u.cell? ⟨X,1,none⟩=some (.int .i64 f2)∧u.cell? ⟨bp,op+f2*3+1,none⟩=some (.int .i64 lo2)) (by kernel_rfl) ?_
  have hHeld:=(un HY4) _ (Zb.refl w4).drew
  refine Zt (i:=0) (v:=?_) rfl (by kernel_rfl) (by kernel_rfl) (by kernel_rfl) (by kernel_rfl) (fun _ _ _ h=>h) (by rfl) (fun u hSu=>?_) hHeld ?_
  rotate_left
  ·((try dsimp only at hSu);go_simp) <;> with_reducible rfl
  try simp only [PS]
  refine Zt (i:=1) (v:=?_) rfl (by kernel_rfl) (by kernel_rfl) (by kernel_rfl) (by kernel_rfl) (fun _ _ _ h=>h) (by rfl) (fun u hSu=>?_) hHeld ?_
  rotate_left
  ·((try dsimp only at hSu);go_simp) <;> with_reducible rfl
  try simp only [PS]
  refine Zt (i:=2) (v:=?_) rfl (by kernel_rfl) (by kernel_rfl) (by kernel_rfl) (by kernel_rfl) (fun _ _ _ h=>h) (by rfl) (fun u hSu=>?_) hHeld ?_
  rotate_left
  ·((try dsimp only at hSu);go_simp) <;> with_reducible rfl
  try simp only [PS]
  refine Zt (i:=3) (v:=?_) rfl (by kernel_rfl) (by kernel_rfl) (by kernel_rfl) (by kernel_rfl) (fun _ _ _ h=>h) (by rfl) (fun u hSu=>?_) hHeld ?_
  rotate_left
  ·((try dsimp only at hSu);go_simp) <;> with_reducible rfl
  try simp only [PS]
  refine Zt (i:=4) (v:=?_) rfl (by kernel_rfl) (by kernel_rfl) (by kernel_rfl) (by kernel_rfl) (fun _ _ _ h=>h) (by rfl) (fun u hSu=>?_) hHeld ?_
  rotate_left
  ·((try dsimp only at hSu);go_simp) <;> with_reducible rfl
  try simp only [PS]
  refine Zt (i:=5) (v:=?_) rfl (by kernel_rfl) (by kernel_rfl) (by kernel_rfl) (by kernel_rfl) (fun _ _ _ h=>h) (by rfl) (fun u hSu=>?_) hHeld ?_
  rotate_left
  ·((try dsimp only at hSu);go_simp) <;> with_reducible rfl
  try simp only [PS]
  refine Zt (i:=6) (v:=?_) rfl (by kernel_rfl) (by kernel_rfl) (by kernel_rfl) (by kernel_rfl) (fun _ _ _ h=>h) (by rfl) (fun u hSu=>?_) hHeld ?_
  rotate_left
  ·((try dsimp only at hSu);go_simp) <;> with_reducible rfl
  try simp only [PS]
  refine Zt (i:=7) (v:=?_) rfl (by kernel_rfl) (by kernel_rfl) (by kernel_rfl) (by kernel_rfl) (fun _ _ _ h=>h) (by rfl) (fun u hSu=>?_) hHeld ?_
  rotate_left
  ·((try dsimp only at hSu);go_simp) <;> with_reducible rfl
  try simp only [PS]
  refine Zt (i:=8) (v:=?_) rfl (by kernel_rfl) (by kernel_rfl) (by kernel_rfl) (by kernel_rfl) (fun _ _ _ h=>h) (by rfl) (fun u hSu=>?_) hHeld ?_
  rotate_left
  ·((try dsimp only at hSu);go_simp) <;> with_reducible rfl
  try simp only [PS]
  refine Zt (i:=9) (v:=?_) rfl (by kernel_rfl) (by kernel_rfl) (by kernel_rfl) (by kernel_rfl) (fun _ _ _ h=>h) (by rfl) (fun u hSu=>?_) hHeld ?_
  rotate_left
  ·((try dsimp only at hSu);go_simp) <;> with_reducible rfl
  try simp only [PS]
  refine Zt (i:=10) (v:=?_) rfl (by kernel_rfl) (by kernel_rfl) (by kernel_rfl) (by kernel_rfl) (fun _ _ _ h=>h) (by rfl) (fun u hSu=>?_) hHeld ?_
  rotate_left
  ·((try dsimp only at hSu);go_simp) <;> with_reducible rfl
  try simp only [PS]
  refine Zt (i:=11) (v:=?_) rfl (by kernel_rfl) (by kernel_rfl) (by kernel_rfl) (by kernel_rfl) (fun _ _ _ h=>h) (by rfl) (fun u hSu=>?_) hHeld ?_
  rotate_left
  ·((try dsimp only at hSu);go_simp) <;> with_reducible rfl
  try simp only [PS]
  refine Zt (i:=12) (v:=?_) rfl (by kernel_rfl) (by kernel_rfl) (by kernel_rfl) (by kernel_rfl) (fun _ _ _ h=>h) (by rfl) (fun u hSu=>?_) hHeld ?_
  rotate_left
  ·((try dsimp only at hSu);go_simp) <;> with_reducible rfl
  try simp only [PS]
  refine Xl (i:=13) rfl (by kernel_rfl) (fun K hK=>?_)
  go_simp
  refine hK.out _ _ (fun _=>(un HY4) _ (((Zb.refl w4).alloc _).drew)) ?_
  clear hK K
  try simp only [PS]
  refine Xl (i:=14) rfl (by kernel_rfl) (fun K hK=>?_)
  go_simp
  refine hK.out _ _ (fun _=>(un HY4) _ (((Zb.refl w4).alloc _).drew)) ?_
  clear hK K
  try simp only [PS]
  refine Xl (i:=15) rfl (by kernel_rfl) (fun K hK=>?_)
  go_simp
  refine hK.out _ _ (fun _=>(un HY4) _ ((((Zb.refl w4).alloc _).alloc _).drew)) ?_
  clear hK K
  try simp only [PS]
  refine Xl (i:=16) rfl (by kernel_rfl) (fun K hK=>?_)
  go_simp
  refine hK.out _ _ (fun _=>(un HY4) _ ((((Zb.refl w4).alloc _).alloc _).drew)) ?_
  clear hK K
  try simp only [PS]
  refine Xl (i:=17) rfl (by kernel_rfl) (fun K hK=>?_)
  go_simp
  refine hK.out _ _ (fun _=>(un HY4) _ (((((Zb.refl w4).alloc _).alloc _).alloc _).drew)) ?_
  clear hK K
  try simp only [PS]
  refine Xl (i:=18) rfl (by kernel_rfl) (fun K hK=>?_)
  rw [if_pos (by rfl)]
  refine Yp (v:=.slice (some ⟨gF4,0,none⟩) N capF4) (u:=.slice (some ⟨w4.heap.size+1+1,0,none⟩) 1 1) _ _ _ 23 rfl rfl rfl (un HR5) ?_
  refine hK.out _ _ (fun _=>un HS5) ?_
  clear hK K
  try simp only [PS]
  refine Xl (i:=19) rfl (by kernel_rfl) (fun K hK=>?_)
  go_simp
  refine hK.out _ _ (fun _=>un HS5) ?_
  clear hK K
  try simp only [PS]
  refine Xl (i:=20) rfl (by kernel_rfl) (fun K hK=>?_)
  go_simp
  refine hK.out _ _ (fun _=>un HS5) ?_
  clear hK K
  try simp only [PS]
  have t0:=(un HS5).1
  have fz5:=un HF5
  refine Xl (i:=21) rfl (by kernel_rfl) (fun K hK=>?_)
  go_simp
  refine hK.out _ _ (fun h=>absurd rfl h) ?_
  clear hK K hHeld
  refine Uj (by kernel_rfl) ?_ _
  clear t0 fz5
  go_wp2
  go_ret
  obtain ⟨V5,hov⟩:=un HO5
  rw [hl4] at hov
  unfold Jj
  rw [un HRR]
  exact ⟨rfl,Below.setCell (un HB5) (by omega) _,fun _=>⟨V5,hov⟩⟩
end Go.Proofs.YtblihfpigjiahaaDoor
