/- SaveC, SaveD, SaveE, SaveF -/
import Derived.Test.YtblihfpigjiahaaDoorWB41
set_option maxRecDepth 100000
set_option maxHeartbeats 8000000
namespace Go.Proofs.YtblihfpigjiahaaDoor
open Go.RowKit
def Zs (ts:List TypeId) (w w':World):Prop:=∀ (g:Nat) (c:Array Value) (t:TypeId),t∈ts→w.heap[g]?=some (.cells c t)→w'.heap[g]?=some (.cells c t)
def Yw (w:World) (v:Value) (l:List Int):Prop:=∃ g cur,v=.slice (some ⟨g,0,none⟩) l.length l.length∧w.heap[g]?=some (.cells cur 3)∧∀ (i:Nat) z,l[i]?=some z→cur[i]?=some (.int .i64 z)
def Pv (w:World) (v:Value) (l:List Fr):Prop:=∃ g cur,v=.slice (some ⟨g,0,none⟩) l.length l.length∧w.heap[g]?=some (.cells cur 53)∧∀ (i:Nat) x,l[i]?=some x→∃ vl vs,cur[i*4]?=some (.int .i64 x.fn)∧cur[i*4+1]?=some (.int .i64 x.at_)∧cur[i*4+2]?=some vl∧cur[i*4+3]?=some vs∧Yw w vl x.locals∧Yw w vs x.stack
def FbsN (w:World) (v:Value) (l:List Fb):Prop:=∃ g cur,v=.slice (some ⟨g,0,none⟩) l.length l.length∧w.heap[g]?=some (.cells cur 46)∧∀ (i:Nat) x,l[i]?=some x→∃ vf,cur[i*2]?=some vf∧cur[i*2+1]?=some (.int .i64 x.caller)∧Pv w vf x.frames
theorem Yw.stay {w w':World} {v:Value} {l:List Int} (h:Yw w v l) (k:Zs [3] w w'):Yw w' v l:=by
 obtain ⟨g,cur,e,hg,hc⟩:=h
 exact ⟨g,cur,e,k g cur _ (by simp) hg,hc⟩
theorem Zs.sub {ts us:List TypeId} {w w':World} (h:Zs ts w w') (k:∀ t∈us,t∈ts):Zs us w w':=fun g c t ht hg=>h g c t (k t ht) hg
theorem Pv.stay {w w':World} {v:Value} {l:List Fr} (h:Pv w v l) (k:Zs [3,53] w w'):Pv w' v l:=by
 obtain ⟨g,cur,e,hg,hc⟩:=h
 refine ⟨g,cur,e,k g cur _ (by simp) hg,fun i x hx=>?_⟩
 obtain ⟨vl,vs,q1,q2,q3,q4,q5,q6⟩:=hc i x hx
 exact ⟨vl,vs,q1,q2,q3,q4,q5.stay (k.sub (by simp)),q6.stay (k.sub (by simp))⟩
theorem FbsN.stay {w w':World} {v:Value} {l:List Fb} (h:FbsN w v l) (k:Zs [3,53,46] w w'):FbsN w' v l:=by
 obtain ⟨g,cur,e,hg,hc⟩:=h
 refine ⟨g,cur,e,k g cur _ (by simp) hg,fun i x hx=>?_⟩
 obtain ⟨vf,q1,q2,q3⟩:=hc i x hx
 exact ⟨vf,q1,q2,q3.stay (k.sub (by simp))⟩
theorem Zn.stay {w w':World} {B:Nat} {l:List UInt8} (k:Zn B w w') (h:Zu w B l):Zs [3,53,46] w w':=fun g c t ht hg=>k.lays (fun e=>by
 subst e
 rw [Zu,hg] at h
 simp only [Option.some.injEq,Obj.cells.injEq] at h
 simp only [h.2.1,List.mem_cons,List.not_mem_nil,or_false] at ht
 revert ht
 decide) hg
theorem Zs.set {ts:List TypeId} {w:World} {g:Nat} {c:Array Value} {t:TypeId} (hg:w.heap[g]?=some (.cells c t)) (ht:t ∉ ts) (i:Nat) (u:Value):Zs ts w (w.setCell ⟨g,i,none⟩ u):=fun _ _ _ hr hb=>Zbw hg hb (fun e=>ht (e ▸ hr)) i u
theorem Zs.trans {ts:List TypeId} {a b c:World} (h:Zs ts a b) (k:Zs ts b c):Zs ts a c:=fun g d t ht hg=>k g d t ht (h g d t ht hg)
theorem Zs.alloc {ts:List TypeId} {w:World} (ob:Obj):Zs ts w (w.alloc ob):=fun _ _ _ _ hg=>Zr hg ob
theorem Zu.set {w:World} {B g i:Nat} {l:List UInt8} (h:Zu w B l) (hn:B≠g) (u:Value):Zu (w.setCell ⟨g,i,none⟩ u) B l:=Zz h (a:=⟨g,i,none⟩) hn u
theorem Zu.lt {w:World} {B:Nat} {l:List UInt8} (h:Zu w B l):B<w.heap.size:=(Array.getElem?_eq_some_iff.1 h).1
theorem Zcm {α:Type} {f:List UInt8→Option (α × List UInt8)} {n:Nat} {l r:List UInt8} {ys:List α} (h:rdL f (n+1) l=some (ys,r)):∃ x l' xs,f l=some (x,l')∧rdL f n l'=some (xs,r)∧ys=x :: xs:=by
 unfold rdL at h
 cases hf:f l with
 | none=>rw [hf] at h;cases h
 | some p =>
  obtain ⟨x,l'⟩:=p
  rw [hf] at h
  simp only at h
  cases hr:rdL f n l' with
  | none=>rw [hr] at h;cases h
  | some q =>
   obtain ⟨xs,r'⟩:=q
   rw [hr] at h
   simp only [Option.some.injEq,Prod.mk.injEq] at h
   exact ⟨x,l',xs,rfl,by rw [hr,h.2],h.1.symm⟩
theorem Zec {α:Type} {f:List UInt8→Option (α × List UInt8)}:∀ {n:Nat} {l r:List UInt8} {ys:List α},rdL f n l=some (ys,r)→ys.length=n
 | 0,l,r,ys,h=>by simp only [rdL,Option.some.injEq,Prod.mk.injEq] at h;rw [← h.1];rfl
 | n+1,l,r,ys,h=>by
  obtain ⟨x,l',xs,_,h2,rfl⟩:=Zcm h
  rw [List.length_cons,Zec h2]
theorem Zdp {α:Type} {f:List UInt8→Option (α × List UInt8)} {l r:List UInt8} {ys:List α} (h:Xu f l=some (ys,r)):∃ b l',l=b :: l'∧rdL f b.toNat l'=some (ys,r):=by
 unfold Xu at h
 cases hn:rdN l with
 | none=>rw [hn] at h;cases h
 | some p =>
  obtain ⟨n,l'⟩:=p
  rw [hn] at h
  obtain ⟨b,rfl,hb⟩:=Zdz hn
  subst hb
  exact ⟨b,l',rfl,h⟩
theorem Zhf {l r:List UInt8} {x:Fr} (h:rdF l=some (x,r)):∃ a b l',l=a :: b :: l'∧∃ r3,Xu rdV l'=some (x.locals,r3)∧Xu rdV r3=some (x.stack,r)∧x.fn=(a.toNat:Nat)∧x.at_=(b.toNat:Nat):=by
 unfold rdF at h
 split at h
 ·cases h
 ·rename_i a r1 h1
  split at h
  ·cases h
  ·rename_i b r2 h2
   split at h
   ·cases h
   ·rename_i y r3 h3
    split at h
    ·cases h
    ·rename_i z r4 h4
     simp only [Option.some.injEq,Prod.mk.injEq] at h
     obtain ⟨rfl,rfl⟩:=h
     obtain ⟨a',rfl,rfl⟩:=Zdz h1
     obtain ⟨b',rfl,rfl⟩:=Zdz h2
     exact ⟨a',b',r2,rfl,r3,h3,h4,rfl,rfl⟩
theorem Zht {l r:List UInt8} {x:Fb} (h:rdB l=some (x,r)):∃ a l',l=a :: l'∧Xu rdF l'=some (x.frames,r)∧x.caller=(a.toNat:Int) - 1:=by
 unfold rdB at h
 split at h
 ·cases h
 ·rename_i a r1 h1
  split at h
  ·cases h
  ·rename_i y r3 h3
   simp only [Option.some.injEq,Prod.mk.injEq] at h
   obtain ⟨rfl,rfl⟩:=h
   obtain ⟨a',rfl,rfl⟩:=Zdz h1
   exact ⟨a',r1,rfl,h3,rfl⟩
theorem Zhx {l r:List UInt8} {x:St} (h:rdS l=some (x,r)):∃ a l',l=a :: l'∧∃ r3,Xu rdB l'=some (x.fibers,r3)∧Xu rdV r3=some (x.out,r)∧x.now=(a.toNat:Int) - 1:=by
 unfold rdS at h
 split at h
 ·cases h
 ·rename_i a r1 h1
  split at h
  ·cases h
  ·rename_i y r3 h3
   split at h
   ·cases h
   ·rename_i z r4 h4
    simp only [Option.some.injEq,Prod.mk.injEq] at h
    obtain ⟨rfl,rfl⟩:=h
    obtain ⟨a',rfl,rfl⟩:=Zdz h1
    exact ⟨a',r1,rfl,r3,h3,h4,rfl⟩
theorem Zmt:(Tryd.prog.info? 53).map (fun i=>(i.zero,i.size,i.bytes))=some (some (.agg #[.int .i64 0,.int .i64 0,.slice none 0 0,.slice none 0 0]),4,64):=by kernel_rfl
theorem Zkg:(Tryd.prog.info? 46).map (fun i=>(i.zero,i.size,i.bytes))=some (some (.agg #[.slice none 0 0,.int .i64 0]),2,32):=by kernel_rfl
theorem Znh (m:Nat) (hm:m≤1000) (u:World):(Instr.makeSlice 44 (.int .i64 m) (.int .i64 m)).run Tryd.prog u =
  .ok (.slice (some ⟨u.heap.size,0,none⟩) m m) (u.alloc (.cells (madeCells #[.int .i64 0,.int .i64 0,.slice none 0 0,.slice none 0 0] (m*4)) 53)):=by
 obtain ⟨i0,hi,hz0,hz1,hz2⟩:=info_parts Zmt
 have h:=run_make (P:=Tryd.prog) u 44 53 i0 _ Tryd.underlying44 hi hz0 .i64 .i64 (m:Int) (m:Int) (by omega) (Int.le_refl _) (by rw [hz2];omega) (by omega)
 rw [Int.toNat_natCast] at h
 simpa [hz1,Value.cells] using h
theorem Zkz (m:Nat) (hm:m≤1000) (u:World):(Instr.makeSlice 23 (.int .i64 m) (.int .i64 m)).run Tryd.prog u =
  .ok (.slice (some ⟨u.heap.size,0,none⟩) m m) (u.alloc (.cells (madeCells #[.slice none 0 0,.int .i64 0] (m*2)) 46)):=by
 obtain ⟨i0,hi,hz0,hz1,hz2⟩:=info_parts Zkg
 have h:=run_make (P:=Tryd.prog) u 23 46 i0 _ Tryd.underlying23 hi hz0 .i64 .i64 (m:Int) (m:Int) (by omega) (Int.le_refl _) (by rw [hz2];omega) (by omega)
 rw [Int.toNat_natCast] at h
 simpa [hz1,Value.cells] using h
theorem Zfz (z:Array Value) (n:Nat):(madeCells z n).size=n:=by simp [madeCells]
theorem Wz {w:World} {g:Nat} {c:Array Value} {t:TypeId} (h:w.heap[g]?=some (.cells c t)) {i:Nat} (hi:i<c.size):w.cell? ⟨g,i,none⟩=some (c[i]'hi):=(Zd h i).trans (Array.getElem?_eq_getElem hi)
theorem Zew (w:World) (B:Nat) (l r:List UInt8) (xs:List Int) (h:Zu w B l) (hx:Xu rdV l=some (xs,r)) :
  Calls Tryd.prog 67 #[.pointer (some ⟨B,0,none⟩),.func (.func 68) #[.pointer (some ⟨B,0,none⟩)] #[]] w fun en w'=>∃ g,en=.returned (.slice (some ⟨g,0,none⟩) xs.length xs.length)∧Yw w' (.slice (some ⟨g,0,none⟩) xs.length xs.length) xs∧Zu w' B r∧Zn B w w':=by
 obtain ⟨b,l',rfl,hr⟩:=Zdp hx
 have HS:=Za (Yf w B b l' h)
 have hlen:=Zec hr
 have hb:b.toNat<256:=b.toNat_lt
 have HR:=Za hr
 have HB0:=Za h.lt
 rw [hlen]
 generalize hN:b.toNat=n at *
 have HLEN:=Za hlen
 have hmk:=Zbf n (by omega)
 clear hx hr hlen h hN
 go_enter Tryd.func67,Tryd.ntmps67
 go_wp2_with fail
 refine (un HS).mono ?_
 rintro _ w1 ⟨rfl,q1,q2⟩
 have HG:Hid (w1.heap.size≠B∧w.heap.size≤w1.heap.size):=Za ⟨by have:=q1.lt;omega,q2.size⟩
 have H1:Hid (∃ cur,Zu (w1.alloc (.cells (Array.replicate n (Value.int .i64 0)) 3)) B l'∧rdL rdV (n - 0) l'=some (xs.drop 0,r)∧(w1.alloc (.cells (Array.replicate n (Value.int .i64 0)) 3)).heap[w1.heap.size]?=some (.cells cur 3)∧cur.size=n∧(∀ (i:Nat) x,i<0→xs[i]?=some x→cur[i]?=some (.int .i64 x))∧Zn B w (w1.alloc (.cells (Array.replicate n (Value.int .i64 0)) 3))):=Za ⟨_,q1.k ((Zb.refl w1).alloc _),by simpa using un HR,Zg rfl,by simp,fun i x hi=>by omega,q2.alloc _⟩
 clear q1 q2 HS
 go_wp2_with fail
 generalize w1.alloc (.cells (Array.replicate n (Value.int .i64 0)) 3)=wm at H1 ⊢
 generalize w1.heap.size=G at H1 HG ⊢
 go_loopw [12] (fun s12 wr=>∃ k:Nat,k≤n∧s12=.int .i64 k∧Hid (∃ l cur,Zu wr B l∧rdL rdV (n - k) l=some (xs.drop k,r)∧wr.heap[G]?=some (.cells cur 3)∧cur.size=n∧(∀ (i:Nat) x,i<k→xs[i]?=some x→cur[i]?=some (.int .i64 x))∧Zn B w wr)) (fun s12 _=>n - (intOf s12).toNat)
 case atStart =>
  obtain ⟨cur,hh⟩:=un H1
  exact ⟨0,Nat.zero_le _,rfl,Za ⟨l',cur,hh⟩⟩
 case round =>
  obtain ⟨k,hkm,rfl,HW⟩:=hrel
  by_cases hk:k<n
  ·obtain ⟨l2,cur,a1,a2,a3,a4,a5,a6⟩:=un HW
   obtain ⟨m,hm⟩:∃ m,n - k=m+1:=⟨n - k - 1,by omega⟩
   rw [hm] at a2
   obtain ⟨x,l3,ys,b1,b2,b3⟩:=Zcm a2
   have hx:xs[k]?=some x:=by have:=congrArg (fun z=>z[0]?) b3;simpa [List.getElem?_drop] using this
   have hys:ys=xs.drop (k+1):=by have:=congrArg (List.drop 1) b3;simpa [List.drop_drop,Nat.add_comm] using this.symm
   have HC:=Za (Znk wr B l2 l3 x a1 b1)
   have HA:=Za (And.intro a1 (And.intro a3 (And.intro a4 (And.intro a5 a6))))
   have HM:Hid (rdL rdV (n - (k+1)) l3=some (xs.drop (k+1),r)):=Za (by rw [show n - (k+1)=m by omega,← hys];exact b2)
   have HX:=Za hx
   have hk0:(0:Int)≤(k:Int):=by omega
   have hk1:(k:Int)<(n:Int):=by omega
   clear a1 a2 a3 a4 a5 a6 b1 b2 b3 hx hys hm HW
   go_wp2_with fail
   refine (un HC).mono ?_
   rintro _ w2 ⟨rfl,q1,q2⟩
   obtain ⟨a1,a3,a4,a5,a6⟩:=un HA
   have g2:=q2.rd a3 (un HG).1
   obtain ⟨d0,c0⟩:∃ d,w2.cell? ⟨G,k,none⟩=some d:=⟨_,Wz g2 (i:=k) (by omega)⟩
   have f0:=Zk g2 (k)
   have st:=q2.stay a1
   have HN:Hid (∃ l cur,Zu (w2.setCell ⟨G,k,none⟩ (.int .i64 x)) B l∧rdL rdV (n - (k+1)) l=some (xs.drop (k+1),r)∧(w2.setCell ⟨G,k,none⟩ (.int .i64 x)).heap[G]?=some (.cells cur 3)∧cur.size=n∧(∀ (i:Nat) y,i<k+1→xs[i]?=some y→cur[i]?=some (.int .i64 y))∧Zn B w (w2.setCell ⟨G,k,none⟩ (.int .i64 x))):=Za (by
    refine ⟨l3,(cur.setIfInBounds (k) (.int .i64 x)),q1.set (fun e=>(un HG).1 e.symm) _,un HM,Zl g2 k _,by simp [a4],fun i y hi hy=>?_,(a6.trans q2).setCell (p:=⟨G,k,none⟩) (.inr (un HG).2) _⟩
    rw [Array.getElem?_setIfInBounds]
    by_cases hik:i=k
    ·subst hik
     rw [if_pos rfl,if_pos (by omega)]
     rw [un HX] at hy
     cases hy
     rfl
    ·rw [if_neg (fun e=>hik e.symm)]
     exact a5 i y (by omega) hy)
   clear a1 a3 a4 a5 a6 g2 st q1 q2 HA HC
   go_wp2_with fail
   go_roundw
   case rel=>exact ⟨k+1,by omega,by go_num,HN⟩
   case measure=>simp [intOf];omega
  ·obtain rfl:k=n:=by omega
   go_wp2
   go_ret
   obtain ⟨l2,cur,a1,a2,a3,a4,a5,a6⟩:=un HW
   rw [Nat.sub_self] at a2
   have hl2:l2=r:=by simp only [rdL,Option.some.injEq,Prod.mk.injEq] at a2;exact a2.2
   subst hl2
   refine ⟨_,rfl,⟨_,cur,by rw [un HLEN],a3,fun i x hx=>a5 i x (by have:=(List.getElem?_eq_some_iff.1 hx).1;have:=un HLEN;omega) hx⟩,a1,a6⟩
theorem Ztj {c:Array Value} {k:Nat} (h:k*4+3<c.size) (a b d f:Value):((((c.setIfInBounds (k*4) a).setIfInBounds (k*4+1) b).setIfInBounds (k*4+2) d).setIfInBounds (k*4+3) f)[k*4]?=some a∧((((c.setIfInBounds (k*4) a).setIfInBounds (k*4+1) b).setIfInBounds (k*4+2) d).setIfInBounds (k*4+3) f)[k*4+1]?=some b∧((((c.setIfInBounds (k*4) a).setIfInBounds (k*4+1) b).setIfInBounds (k*4+2) d).setIfInBounds (k*4+3) f)[k*4+2]?=some d∧((((c.setIfInBounds (k*4) a).setIfInBounds (k*4+1) b).setIfInBounds (k*4+2) d).setIfInBounds (k*4+3) f)[k*4+3]?=some f:=by
 simp only [Array.getElem?_setIfInBounds,Array.size_setIfInBounds]
 refine ⟨?_,?_,?_,?_⟩ <;> simp <;> omega
theorem Zqi {c:Array Value} {i k:Nat} (h:i≠k) (a b d f:Value):((((c.setIfInBounds (k*4) a).setIfInBounds (k*4+1) b).setIfInBounds (k*4+2) d).setIfInBounds (k*4+3) f)[i*4]?=c[i*4]?∧((((c.setIfInBounds (k*4) a).setIfInBounds (k*4+1) b).setIfInBounds (k*4+2) d).setIfInBounds (k*4+3) f)[i*4+1]?=c[i*4+1]?∧((((c.setIfInBounds (k*4) a).setIfInBounds (k*4+1) b).setIfInBounds (k*4+2) d).setIfInBounds (k*4+3) f)[i*4+2]?=c[i*4+2]?∧((((c.setIfInBounds (k*4) a).setIfInBounds (k*4+1) b).setIfInBounds (k*4+2) d).setIfInBounds (k*4+3) f)[i*4+3]?=c[i*4+3]?:=by
 simp only [Array.getElem?_setIfInBounds]
 refine ⟨?_,?_,?_,?_⟩ <;> (repeat rw [if_neg (by omega)])
theorem Zta {c:Array Value} {k:Nat} (h:k*2+1<c.size) (a b:Value):((c.setIfInBounds (k*2) a).setIfInBounds (k*2+1) b)[k*2]?=some a∧((c.setIfInBounds (k*2) a).setIfInBounds (k*2+1) b)[k*2+1]?=some b:=by
 simp only [Array.getElem?_setIfInBounds,Array.size_setIfInBounds]
 refine ⟨?_,?_⟩ <;> simp <;> omega
theorem Zxl {c:Array Value} {i k:Nat} (h:i≠k) (a b:Value):((c.setIfInBounds (k*2) a).setIfInBounds (k*2+1) b)[i*2]?=c[i*2]?∧((c.setIfInBounds (k*2) a).setIfInBounds (k*2+1) b)[i*2+1]?=c[i*2+1]?:=by
 simp only [Array.getElem?_setIfInBounds]
 refine ⟨?_,?_⟩ <;> (repeat rw [if_neg (by omega)])
theorem Zno (w:World) (B:Nat) (l r:List UInt8) (x:Fr) (h:Zu w B l) (hx:rdF l=some (x,r)) :
  Calls Tryd.prog 84 #[.pointer (some ⟨B,0,none⟩)] w fun en w'=>∃ gl gs,en=.returned (.agg #[.int .i64 x.fn,.int .i64 x.at_,.slice (some ⟨gl,0,none⟩) x.locals.length x.locals.length,.slice (some ⟨gs,0,none⟩) x.stack.length x.stack.length])∧Yw w' (.slice (some ⟨gl,0,none⟩) x.locals.length x.locals.length) x.locals∧Yw w' (.slice (some ⟨gs,0,none⟩) x.stack.length x.stack.length) x.stack∧Zu w' B r∧Zn B w w':=by
 obtain ⟨a,b,l2,rfl,r3,h3,h4,e1,e2⟩:=Zhf hx
 have hB:=h.lt
 have HNE:Hid (B≠w.heap.size∧B≠w.heap.size+1):=Za ⟨by omega,by omega⟩
 have LR:Hid (((w.alloc (.cells #[.int .i64 0,.int .i64 0,.slice none 0 0,.slice none 0 0] 53)).alloc (.cells #[.int .i64 0,.int .i64 0,.slice none 0 0,.slice none 0 0] 53)).heap[w.heap.size]?=some (.cells #[.int .i64 0,.int .i64 0,.slice none 0 0,.slice none 0 0] 53)):=Za (Zr (Zg rfl) _)
 have LX:Hid (((w.alloc (.cells #[.int .i64 0,.int .i64 0,.slice none 0 0,.slice none 0 0] 53)).alloc (.cells #[.int .i64 0,.int .i64 0,.slice none 0 0,.slice none 0 0] 53)).heap[w.heap.size+1]?=some (.cells #[.int .i64 0,.int .i64 0,.slice none 0 0,.slice none 0 0] 53)):=Za (Zg (by simp))
 have HK:Hid (Zn B w ((w.alloc (.cells #[.int .i64 0,.int .i64 0,.slice none 0 0,.slice none 0 0] 53)).alloc (.cells #[.int .i64 0,.int .i64 0,.slice none 0 0,.slice none 0 0] 53))):=Za (((Zn.refl B w).alloc _).alloc _)
 have HC:=Za (Yf _ B a _ ((h.k ((Zb.refl w).alloc (.cells #[.int .i64 0,.int .i64 0,.slice none 0 0,.slice none 0 0] 53))).k ((Zb.refl _).alloc (.cells #[.int .i64 0,.int .i64 0,.slice none 0 0,.slice none 0 0] 53))))
 rw [e1,e2]
 have H3:=Za h3
 have H4:=Za h4
 clear hx h h3 h4 e1 e2 hB
 generalize hla:x.locals.length=la at *
 generalize hls:x.stack.length=ls at *
 have HLA:=Za (And.intro hla hls)
 clear hla hls
 go_enter Tryd.func84,Tryd.ntmps84
 go_wp2_with fail
 generalize (w.alloc (.cells #[.int .i64 0,.int .i64 0,.slice none 0 0,.slice none 0 0] 53)).alloc (.cells #[.int .i64 0,.int .i64 0,.slice none 0 0,.slice none 0 0] 53)=wa at *
 generalize hRR:w.heap.size=R at LR LX HNE ⊢
 have HSZ:Hid (w.heap.size≤R∧w.heap.size≤R+1):=Za ⟨by omega,by omega⟩
 clear hRR
 refine (un HC).mono ?_
 rintro _ w1 ⟨rfl,q1,q2⟩
 replace LR:=Za (q2.rd (un LR) (un HNE).1.symm)
 replace LX:=Za (q2.rd (un LX) (un HNE).2.symm)
 replace HK:=Za ((un HK).trans q2)
 have HQ:=Za q1
 have x0:=Zd (un LX) 0
 have z0:=Zk (un LX) 0
 simp only [List.getElem?_toArray,List.getElem?_cons_zero] at x0
 have HC2:=Za (Yf (w1.setCell ⟨R+1,0,none⟩ (.int .i64 (a.toNat:Nat))) B b l2 (q1.set (un HNE).2 _))
 clear q1 q2 HC
 go_wp2_with fail
 replace LR:=Za (Zz (un LR) (a:=⟨R+1,0,none⟩) (by simp) (.int .i64 (a.toNat:Nat)))
 replace LX:=Za (Zl (un LX) 0 (.int .i64 (a.toNat:Nat)))
 replace HK:=Za ((un HK).setCell (p:=⟨R+1,0,none⟩) (.inr (un HSZ).2) (.int .i64 (a.toNat:Nat)))
 generalize w1.setCell ⟨R+1,0,none⟩ (.int .i64 (a.toNat:Nat))=w2 at *
 clear x0 z0 HQ
 refine (un HC2).mono ?_
 rintro _ w3 ⟨rfl,q1,q2⟩
 replace LR:=Za (q2.rd (un LR) (un HNE).1.symm)
 replace LX:=Za (q2.rd (un LX) (un HNE).2.symm)
 replace HK:=Za ((un HK).trans q2)
 have x1:=Zd (un LX) 1
 have z1:=Zk (un LX) 1
 simp only [List.setIfInBounds_toArray,List.set_cons_zero,List.getElem?_toArray,List.getElem?_cons_zero,List.getElem?_cons_succ] at x1
 have HC:=Za (Zew (w3.setCell ⟨R+1,1,none⟩ (.int .i64 (b.toNat:Nat))) B l2 r3 x.locals (q1.set (un HNE).2 _) (un H3))
 clear q1 q2 HC2
 go_wp2_with fail
 replace LR:=Za (Zz (un LR) (a:=⟨R+1,1,none⟩) (by simp) (.int .i64 (b.toNat:Nat)))
 replace LX:=Za (Zl (un LX) 1 (.int .i64 (b.toNat:Nat)))
 replace HK:=Za ((un HK).setCell (p:=⟨R+1,1,none⟩) (.inr (un HSZ).2) (.int .i64 (b.toNat:Nat)))
 generalize w3.setCell ⟨R+1,1,none⟩ (.int .i64 (b.toNat:Nat))=w4 at *
 clear x1 z1
 refine (un HC).mono ?_
 rintro _ w5 ⟨gl,rfl,i1,q1,q2⟩
 rw [(un HLA).1] at i1 ⊢
 replace LR:=Za (q2.rd (un LR) (un HNE).1.symm)
 replace LX:=Za (q2.rd (un LX) (un HNE).2.symm)
 replace HK:=Za ((un HK).trans q2)
 have I1:=Za (i1.stay (Zs.set (un LX) (by decide) 2 (.slice (some ⟨gl,0,none⟩) la la)))
 have x2:=Zd (un LX) 2
 have z2:=Zk (un LX) 2
 simp only [List.setIfInBounds_toArray,List.set_cons_zero,List.set_cons_succ,List.getElem?_toArray,List.getElem?_cons_zero,List.getElem?_cons_succ] at x2
 have q1':=q1.set (i:=2) (un HNE).2 (.slice (some ⟨gl,0,none⟩) la la)
 have HC2:=Za (Zew (w5.setCell ⟨R+1,2,none⟩ (.slice (some ⟨gl,0,none⟩) la la)) B r3 r x.stack q1' (un H4))
 have HQ:=Za q1'
 clear q1 q2 i1 HC q1'
 go_wp2_with fail
 replace LR:=Za (Zz (un LR) (a:=⟨R+1,2,none⟩) (by simp) (.slice (some ⟨gl,0,none⟩) la la))
 replace LX:=Za (Zl (un LX) 2 (.slice (some ⟨gl,0,none⟩) la la))
 replace HK:=Za ((un HK).setCell (p:=⟨R+1,2,none⟩) (.inr (un HSZ).2) (.slice (some ⟨gl,0,none⟩) la la))
 generalize w5.setCell ⟨R+1,2,none⟩ (.slice (some ⟨gl,0,none⟩) la la)=w6 at *
 clear x2 z2
 refine (un HC2).mono ?_
 rintro _ w7 ⟨gs,rfl,i2,q1,q2⟩
 rw [(un HLA).2] at i2 ⊢
 replace I1:=Za ((un I1).stay ((q2.stay (un HQ)).sub (by simp)))
 replace LR:=Za (q2.rd (un LR) (un HNE).1.symm)
 replace LX:=Za (q2.rd (un LX) (un HNE).2.symm)
 replace HK:=Za ((un HK).trans q2)
 have st:=Zs.set (ts:=[3]) (un LX) (by decide) 3 (.slice (some ⟨gs,0,none⟩) ls ls)
 replace I1:=Za ((un I1).stay st)
 have I2:=Za (i2.stay st)
 have HQ2:=Za (q1.set (i:=3) (un HNE).2 (.slice (some ⟨gs,0,none⟩) ls ls))
 have x3:=Zd (un LX) 3
 have z3:=Zk (un LX) 3
 simp only [List.setIfInBounds_toArray,List.set_cons_zero,List.set_cons_succ,List.getElem?_toArray,List.getElem?_cons_zero,List.getElem?_cons_succ] at x3
 have LR8:=Zz (un LR) (a:=⟨R+1,3,none⟩) (by simp) (.slice (some ⟨gs,0,none⟩) ls ls)
 have LX8:=Zl (un LX) 3 (.slice (some ⟨gs,0,none⟩) ls ls)
 have HK8:=Za ((un HK).setCell (p:=⟨R+1,3,none⟩) (.inr (un HSZ).2) (.slice (some ⟨gs,0,none⟩) ls ls))
 clear q1 q2 i2 st HC2 HQ
 have d0:=Zd LX8 0
 have d1:=Zd LX8 1
 have d2:=Zd LX8 2
 have d3:=Zd LX8 3
 simp only [List.setIfInBounds_toArray,List.set_cons_zero,List.set_cons_succ,List.getElem?_toArray,List.getElem?_cons_zero,List.getElem?_cons_succ] at d0 d1 d2 d3
 have v0:=Zd LR8 0
 have v1:=Zd LR8 1
 have v2:=Zd LR8 2
 have v3:=Zd LR8 3
 simp only [List.getElem?_toArray,List.getElem?_cons_zero,List.getElem?_cons_succ] at v0 v1 v2 v3
 have y0:=Zk LR8 0
 have y1:=Zk LR8 1
 have y2:=Zk LR8 2
 have y3:=Zk LR8 3
 have HLR8:=Za LR8
 clear LR8 LX8
 go_wp2_with fail
 have k1:=Zl (Zl (Zl (Zl (un HLR8) 0 (.int .i64 (a.toNat:Nat))) 1 (.int .i64 (b.toNat:Nat))) 2 (.slice (some ⟨gl,0,none⟩) la la)) 3 (.slice (some ⟨gs,0,none⟩) ls ls)
 have t0:=Zd k1 0
 have t1:=Zd k1 1
 have t2:=Zd k1 2
 have t3:=Zd k1 3
 simp only [Array.setIfInBounds,List.size_toArray,List.length_cons,List.length_nil] at t0 t1 t2 t3
 refine bodyPost_ret (v:=.agg #[.int .i64 (a.toNat:Nat),.int .i64 (b.toNat:Nat),.slice (some ⟨gl,0,none⟩) la la,.slice (some ⟨gs,0,none⟩) ls ls]) (by simp [results,Tryd.results84,go_sem,t0,t1,t2,t3]) rfl ?_
 have g1:=Zl (un HLR8) 0 (.int .i64 (a.toNat:Nat))
 have g2:=Zl g1 1 (.int .i64 (b.toNat:Nat))
 have g3:=Zl g2 2 (.slice (some ⟨gl,0,none⟩) la la)
 have st4:=(((Zs.set (ts:=[3]) (un HLR8) (by decide) 0 (.int .i64 (a.toNat:Nat))).trans (Zs.set g1 (by decide) 1 (.int .i64 (b.toNat:Nat)))).trans (Zs.set g2 (by decide) 2 (.slice (some ⟨gl,0,none⟩) la la))).trans (Zs.set g3 (by decide) 3 (.slice (some ⟨gs,0,none⟩) ls ls))
 refine ⟨gl,gs,rfl,(un I1).stay st4,(un I2).stay st4,((((un HQ2).set (un HNE).1 _).set (un HNE).1 _).set (un HNE).1 _).set (un HNE).1 _,?_⟩
 exact ((((un HK8).setCell (p:=⟨R,0,none⟩) (.inr (un HSZ).1) _).setCell (p:=⟨R,1,none⟩) (.inr (un HSZ).1) _).setCell (p:=⟨R,2,none⟩) (.inr (un HSZ).1) _).setCell (p:=⟨R,3,none⟩) (.inr (un HSZ).1) _
theorem Zxx (w:World) (B:Nat) (l r:List UInt8) (xs:List Fr) (h:Zu w B l) (hx:Xu rdF l=some (xs,r)) :
  Calls Tryd.prog 83 #[.pointer (some ⟨B,0,none⟩),.func (.func 84) #[.pointer (some ⟨B,0,none⟩)] #[]] w fun en w'=>∃ g,en=.returned (.slice (some ⟨g,0,none⟩) xs.length xs.length)∧Pv w' (.slice (some ⟨g,0,none⟩) xs.length xs.length) xs∧Zu w' B r∧Zn B w w':=by
 obtain ⟨b,l',rfl,hr⟩:=Zdp hx
 have HS:=Za (Yf w B b l' h)
 have hlen:=Zec hr
 have hb:b.toNat<256:=b.toNat_lt
 have HR:=Za hr
 have HB0:=Za h.lt
 rw [hlen]
 generalize hN:b.toNat=n at *
 have HLEN:=Za hlen
 have hmk:=Znh n (by omega)
 clear hx hr hlen h hN
 go_enter Tryd.func83,Tryd.ntmps83
 go_wp2_with fail
 refine (un HS).mono ?_
 rintro _ w1 ⟨rfl,q1,q2⟩
 have HG:Hid (w1.heap.size≠B∧w.heap.size≤w1.heap.size):=Za ⟨by have:=q1.lt;omega,q2.size⟩
 have H1:Hid (∃ cur,Zu (w1.alloc (.cells (madeCells #[.int .i64 0,.int .i64 0,.slice none 0 0,.slice none 0 0] (n*4)) 53)) B l'∧rdL rdF (n - 0) l'=some (xs.drop 0,r)∧(w1.alloc (.cells (madeCells #[.int .i64 0,.int .i64 0,.slice none 0 0,.slice none 0 0] (n*4)) 53)).heap[w1.heap.size]?=some (.cells cur 53)∧cur.size=n*4∧(∀ (i:Nat) x,i<0→xs[i]?=some x→∃ vl vs,cur[i*4]?=some (.int .i64 x.fn)∧cur[i*4+1]?=some (.int .i64 x.at_)∧cur[i*4+2]?=some vl∧cur[i*4+3]?=some vs∧Yw (w1.alloc (.cells (madeCells #[.int .i64 0,.int .i64 0,.slice none 0 0,.slice none 0 0] (n*4)) 53)) vl x.locals∧Yw (w1.alloc (.cells (madeCells #[.int .i64 0,.int .i64 0,.slice none 0 0,.slice none 0 0] (n*4)) 53)) vs x.stack)∧Zn B w (w1.alloc (.cells (madeCells #[.int .i64 0,.int .i64 0,.slice none 0 0,.slice none 0 0] (n*4)) 53))):=Za ⟨_,q1.k ((Zb.refl w1).alloc _),by simpa using un HR,Zg rfl,by simp [Zfz],fun i x hi=>by omega,q2.alloc _⟩
 clear q1 q2 HS
 go_wp2_with fail
 generalize w1.alloc (.cells (madeCells #[.int .i64 0,.int .i64 0,.slice none 0 0,.slice none 0 0] (n*4)) 53)=wm at H1 ⊢
 generalize w1.heap.size=G at H1 HG ⊢
 go_loopw [12] (fun s12 wr=>∃ k:Nat,k≤n∧s12=.int .i64 k∧Hid (∃ l cur,Zu wr B l∧rdL rdF (n - k) l=some (xs.drop k,r)∧wr.heap[G]?=some (.cells cur 53)∧cur.size=n*4∧(∀ (i:Nat) x,i<k→xs[i]?=some x→∃ vl vs,cur[i*4]?=some (.int .i64 x.fn)∧cur[i*4+1]?=some (.int .i64 x.at_)∧cur[i*4+2]?=some vl∧cur[i*4+3]?=some vs∧Yw wr vl x.locals∧Yw wr vs x.stack)∧Zn B w wr)) (fun s12 _=>n - (intOf s12).toNat)
 case atStart =>
  obtain ⟨cur,hh⟩:=un H1
  exact ⟨0,Nat.zero_le _,rfl,Za ⟨l',cur,hh⟩⟩
 case round =>
  obtain ⟨k,hkm,rfl,HW⟩:=hrel
  by_cases hk:k<n
  ·obtain ⟨l2,cur,a1,a2,a3,a4,a5,a6⟩:=un HW
   obtain ⟨m,hm⟩:∃ m,n - k=m+1:=⟨n - k - 1,by omega⟩
   rw [hm] at a2
   obtain ⟨x,l3,ys,b1,b2,b3⟩:=Zcm a2
   have hx:xs[k]?=some x:=by have:=congrArg (fun z=>z[0]?) b3;simpa [List.getElem?_drop] using this
   have hys:ys=xs.drop (k+1):=by have:=congrArg (List.drop 1) b3;simpa [List.drop_drop,Nat.add_comm] using this.symm
   have HC:=Za (Zno wr B l2 l3 x a1 b1)
   have HA:=Za (And.intro a1 (And.intro a3 (And.intro a4 (And.intro a5 a6))))
   have HM:Hid (rdL rdF (n - (k+1)) l3=some (xs.drop (k+1),r)):=Za (by rw [show n - (k+1)=m by omega,← hys];exact b2)
   have HX:=Za hx
   have hk0:(0:Int)≤(k:Int):=by omega
   have hk1:(k:Int)<(n:Int):=by omega
   clear a1 a2 a3 a4 a5 a6 b1 b2 b3 hx hys hm HW
   go_wp2_with fail
   refine (un HC).mono ?_
   rintro _ w2 ⟨gl,gs,rfl,i1,i2,q1,q2⟩
   obtain ⟨a1,a3,a4,a5,a6⟩:=un HA
   have g2:=q2.rd a3 (un HG).1
   obtain ⟨d0,c0⟩:∃ d,w2.cell? ⟨G,k*4,none⟩=some d:=⟨_,Wz g2 (i:=k*4) (by omega)⟩
   have f0:=Zk g2 (k*4)
   obtain ⟨d1,c1⟩:∃ d,w2.cell? ⟨G,k*4+1,none⟩=some d:=⟨_,Wz g2 (i:=k*4+1) (by omega)⟩
   have f1:=Zk g2 (k*4+1)
   obtain ⟨d2,c2⟩:∃ d,w2.cell? ⟨G,k*4+2,none⟩=some d:=⟨_,Wz g2 (i:=k*4+2) (by omega)⟩
   have f2:=Zk g2 (k*4+2)
   obtain ⟨d3,c3⟩:∃ d,w2.cell? ⟨G,k*4+3,none⟩=some d:=⟨_,Wz g2 (i:=k*4+3) (by omega)⟩
   have f3:=Zk g2 (k*4+3)
   have st:=q2.stay a1
   have HN:Hid (∃ l cur,Zu ((((w2.setCell ⟨G,k*4,none⟩ (.int .i64 x.fn)).setCell ⟨G,k*4+1,none⟩ (.int .i64 x.at_)).setCell ⟨G,k*4+2,none⟩ (.slice (some ⟨gl,0,none⟩) x.locals.length x.locals.length)).setCell ⟨G,k*4+3,none⟩ (.slice (some ⟨gs,0,none⟩) x.stack.length x.stack.length)) B l∧rdL rdF (n - (k+1)) l=some (xs.drop (k+1),r)∧((((w2.setCell ⟨G,k*4,none⟩ (.int .i64 x.fn)).setCell ⟨G,k*4+1,none⟩ (.int .i64 x.at_)).setCell ⟨G,k*4+2,none⟩ (.slice (some ⟨gl,0,none⟩) x.locals.length x.locals.length)).setCell ⟨G,k*4+3,none⟩ (.slice (some ⟨gs,0,none⟩) x.stack.length x.stack.length)).heap[G]?=some (.cells cur 53)∧cur.size=n*4∧(∀ (i:Nat) y,i<k+1→xs[i]?=some y→∃ vl vs,cur[i*4]?=some (.int .i64 y.fn)∧cur[i*4+1]?=some (.int .i64 y.at_)∧cur[i*4+2]?=some vl∧cur[i*4+3]?=some vs∧Yw ((((w2.setCell ⟨G,k*4,none⟩ (.int .i64 x.fn)).setCell ⟨G,k*4+1,none⟩ (.int .i64 x.at_)).setCell ⟨G,k*4+2,none⟩ (.slice (some ⟨gl,0,none⟩) x.locals.length x.locals.length)).setCell ⟨G,k*4+3,none⟩ (.slice (some ⟨gs,0,none⟩) x.stack.length x.stack.length)) vl y.locals∧Yw ((((w2.setCell ⟨G,k*4,none⟩ (.int .i64 x.fn)).setCell ⟨G,k*4+1,none⟩ (.int .i64 x.at_)).setCell ⟨G,k*4+2,none⟩ (.slice (some ⟨gl,0,none⟩) x.locals.length x.locals.length)).setCell ⟨G,k*4+3,none⟩ (.slice (some ⟨gs,0,none⟩) x.stack.length x.stack.length)) vs y.stack)∧Zn B w ((((w2.setCell ⟨G,k*4,none⟩ (.int .i64 x.fn)).setCell ⟨G,k*4+1,none⟩ (.int .i64 x.at_)).setCell ⟨G,k*4+2,none⟩ (.slice (some ⟨gl,0,none⟩) x.locals.length x.locals.length)).setCell ⟨G,k*4+3,none⟩ (.slice (some ⟨gs,0,none⟩) x.stack.length x.stack.length))):=Za (by
    refine ⟨l3,((((cur.setIfInBounds (k*4) (.int .i64 x.fn)).setIfInBounds (k*4+1) (.int .i64 x.at_)).setIfInBounds (k*4+2) (.slice (some ⟨gl,0,none⟩) x.locals.length x.locals.length)).setIfInBounds (k*4+3) (.slice (some ⟨gs,0,none⟩) x.stack.length x.stack.length)),((((q1.set (fun e=>(un HG).1 e.symm) _).set (fun e=>(un HG).1 e.symm) _).set (fun e=>(un HG).1 e.symm) _).set (fun e=>(un HG).1 e.symm) _),un HM,(Zl (Zl (Zl (Zl g2 (k*4) _) (k*4+1) _) (k*4+2) _) (k*4+3) _),by simp [a4],fun i y hi hy=>?_,(((((a6.trans q2).setCell (p:=⟨G,k*4,none⟩) (.inr (un HG).2) _).setCell (p:=⟨G,k*4+1,none⟩) (.inr (un HG).2) _).setCell (p:=⟨G,k*4+2,none⟩) (.inr (un HG).2) _).setCell (p:=⟨G,k*4+3,none⟩) (.inr (un HG).2) _)⟩
    have l1:=Zl g2 (k*4) (.int .i64 x.fn)
    have l2:=Zl l1 (k*4+1) (.int .i64 x.at_)
    have l3:=Zl l2 (k*4+2) (.slice (some ⟨gl,0,none⟩) x.locals.length x.locals.length)
    have s4:=(((Zs.set (ts:=[3]) g2 (by decide) (k*4) (.int .i64 x.fn)).trans (Zs.set l1 (by decide) (k*4+1) (.int .i64 x.at_))).trans (Zs.set l2 (by decide) (k*4+2) (.slice (some ⟨gl,0,none⟩) x.locals.length x.locals.length))).trans (Zs.set l3 (by decide) (k*4+3) (.slice (some ⟨gs,0,none⟩) x.stack.length x.stack.length))
    by_cases hik:i=k
    ·subst hik
     rw [un HX] at hy
     cases hy
     obtain ⟨p1,p2,p3,p4⟩:=Ztj (c:=cur) (k:=i) (by omega) (.int .i64 x.fn) (.int .i64 x.at_) (.slice (some ⟨gl,0,none⟩) x.locals.length x.locals.length) (.slice (some ⟨gs,0,none⟩) x.stack.length x.stack.length)
     exact ⟨_,_,p1,p2,p3,p4,i1.stay s4,i2.stay s4⟩
    ·obtain ⟨vl,vs,e1,e2,e3,e4,j1,j2⟩:=a5 i y (by omega) hy
     obtain ⟨p1,p2,p3,p4⟩:=Zqi (c:=cur) hik (.int .i64 x.fn) (.int .i64 x.at_) (.slice (some ⟨gl,0,none⟩) x.locals.length x.locals.length) (.slice (some ⟨gs,0,none⟩) x.stack.length x.stack.length)
     exact ⟨vl,vs,p1.trans e1,p2.trans e2,p3.trans e3,p4.trans e4,(j1.stay (st.sub (by simp))).stay s4,(j2.stay (st.sub (by simp))).stay s4⟩)
   clear a1 a3 a4 a5 a6 g2 st q1 q2 i1 i2 HA HC
   go_wp2_with fail
   go_roundw
   case rel=>exact ⟨k+1,by omega,by go_num,HN⟩
   case measure=>simp [intOf];omega
  ·obtain rfl:k=n:=by omega
   go_wp2
   go_ret
   obtain ⟨l2,cur,a1,a2,a3,a4,a5,a6⟩:=un HW
   rw [Nat.sub_self] at a2
   have hl2:l2=r:=by simp only [rdL,Option.some.injEq,Prod.mk.injEq] at a2;exact a2.2
   subst hl2
   refine ⟨_,rfl,⟨_,cur,by rw [un HLEN],a3,fun i x hx=>a5 i x (by have:=(List.getElem?_eq_some_iff.1 hx).1;have:=un HLEN;omega) hx⟩,a1,a6⟩
theorem Zmd (w:World) (B:Nat) (l r:List UInt8) (x:Fb) (h:Zu w B l) (hx:rdB l=some (x,r)) :
  Calls Tryd.prog 66 #[.pointer (some ⟨B,0,none⟩)] w fun en w'=>∃ gf,en=.returned (.agg #[.slice (some ⟨gf,0,none⟩) x.frames.length x.frames.length,.int .i64 x.caller])∧Pv w' (.slice (some ⟨gf,0,none⟩) x.frames.length x.frames.length) x.frames∧Zu w' B r∧Zn B w w':=by
 obtain ⟨a,l2,rfl,h3,e1⟩:=Zht hx
 have hB:=h.lt
 have HNE:Hid (B≠w.heap.size∧B≠w.heap.size+1):=Za ⟨by omega,by omega⟩
 have LR:Hid (((w.alloc (.cells #[.slice none 0 0,.int .i64 0] 46)).alloc (.cells #[.slice none 0 0,.int .i64 0] 46)).heap[w.heap.size]?=some (.cells #[.slice none 0 0,.int .i64 0] 46)):=Za (Zr (Zg rfl) _)
 have LX:Hid (((w.alloc (.cells #[.slice none 0 0,.int .i64 0] 46)).alloc (.cells #[.slice none 0 0,.int .i64 0] 46)).heap[w.heap.size+1]?=some (.cells #[.slice none 0 0,.int .i64 0] 46)):=Za (Zg (by simp))
 have HK:Hid (Zn B w ((w.alloc (.cells #[.slice none 0 0,.int .i64 0] 46)).alloc (.cells #[.slice none 0 0,.int .i64 0] 46))):=Za (((Zn.refl B w).alloc _).alloc _)
 have HC:=Za (Yf _ B a _ ((h.k ((Zb.refl w).alloc (.cells #[.slice none 0 0,.int .i64 0] 46))).k ((Zb.refl _).alloc (.cells #[.slice none 0 0,.int .i64 0] 46))))
 rw [e1]
 have H3:=Za h3
 have ha:a.toNat<256:=a.toNat_lt
 clear hx h h3 e1 hB
 generalize hla:x.frames.length=la at *
 have HLA:=Za hla
 clear hla
 go_enter Tryd.func66,Tryd.ntmps66
 go_wp2_with fail
 generalize (w.alloc (.cells #[.slice none 0 0,.int .i64 0] 46)).alloc (.cells #[.slice none 0 0,.int .i64 0] 46)=wa at *
 generalize hRR:w.heap.size=R at LR LX HNE ⊢
 have HSZ:Hid (w.heap.size≤R∧w.heap.size≤R+1):=Za ⟨by omega,by omega⟩
 clear hRR
 refine (un HC).mono ?_
 rintro _ w1 ⟨rfl,q1,q2⟩
 replace LR:=Za (q2.rd (un LR) (un HNE).1.symm)
 replace LX:=Za (q2.rd (un LX) (un HNE).2.symm)
 replace HK:=Za ((un HK).trans q2)
 have x1:=Zd (un LX) 1
 have z1:=Zk (un LX) 1
 simp only [List.getElem?_toArray,List.getElem?_cons_zero,List.getElem?_cons_succ] at x1
 have HC2:=Za (Zxx (w1.setCell ⟨R+1,1,none⟩ (.int .i64 ((a.toNat:Int) - 1))) B l2 r x.frames (q1.set (un HNE).2 _) (un H3))
 clear q1 q2 HC
 go_wp2_with fail
 replace LR:=Za (Zz (un LR) (a:=⟨R+1,1,none⟩) (by simp) (.int .i64 ((a.toNat:Int) - 1)))
 replace LX:=Za (Zl (un LX) 1 (.int .i64 ((a.toNat:Int) - 1)))
 replace HK:=Za ((un HK).setCell (p:=⟨R+1,1,none⟩) (.inr (un HSZ).2) (.int .i64 ((a.toNat:Int) - 1)))
 generalize w1.setCell ⟨R+1,1,none⟩ (.int .i64 ((a.toNat:Int) - 1))=w2 at *
 clear x1 z1
 refine (un HC2).mono ?_
 rintro _ w3 ⟨gf,rfl,i1,q1,q2⟩
 rw [un HLA] at i1 ⊢
 replace LR:=Za (q2.rd (un LR) (un HNE).1.symm)
 replace LX:=Za (q2.rd (un LX) (un HNE).2.symm)
 replace HK:=Za ((un HK).trans q2)
 have I1:=Za (i1.stay (Zs.set (un LX) (by decide) 0 (.slice (some ⟨gf,0,none⟩) la la)))
 have HQ2:=Za (q1.set (i:=0) (un HNE).2 (.slice (some ⟨gf,0,none⟩) la la))
 have x0:=Zd (un LX) 0
 have z0:=Zk (un LX) 0
 simp only [List.setIfInBounds_toArray,List.set_cons_zero,List.set_cons_succ,List.getElem?_toArray,List.getElem?_cons_zero] at x0
 have LR8:=Zz (un LR) (a:=⟨R+1,0,none⟩) (by simp) (.slice (some ⟨gf,0,none⟩) la la)
 have LX8:=Zl (un LX) 0 (.slice (some ⟨gf,0,none⟩) la la)
 have HK8:=Za ((un HK).setCell (p:=⟨R+1,0,none⟩) (.inr (un HSZ).2) (.slice (some ⟨gf,0,none⟩) la la))
 clear q1 q2 i1 HC2
 have d0:=Zd LX8 0
 have d1:=Zd LX8 1
 simp only [List.setIfInBounds_toArray,List.set_cons_zero,List.set_cons_succ,List.getElem?_toArray,List.getElem?_cons_zero,List.getElem?_cons_succ] at d0 d1
 have v0:=Zd LR8 0
 have v1:=Zd LR8 1
 simp only [List.getElem?_toArray,List.getElem?_cons_zero,List.getElem?_cons_succ] at v0 v1
 have y0:=Zk LR8 0
 have y1:=Zk LR8 1
 have HLR8:=Za LR8
 clear LR8 LX8
 go_wp2_with fail
 have k1:=Zl (Zl (un HLR8) 0 (.slice (some ⟨gf,0,none⟩) la la)) 1 (.int .i64 ((a.toNat:Int) - 1))
 have t0:=Zd k1 0
 have t1:=Zd k1 1
 simp only [Array.setIfInBounds,List.size_toArray,List.length_cons,List.length_nil] at t0 t1
 refine bodyPost_ret (v:=.agg #[.slice (some ⟨gf,0,none⟩) la la,.int .i64 ((a.toNat:Int) - 1)]) (by simp [results,Tryd.results66,go_sem,t0,t1]) rfl ?_
 have g1:=Zl (un HLR8) 0 (.slice (some ⟨gf,0,none⟩) la la)
 have st4:=(Zs.set (ts:=[3,53]) (un HLR8) (by decide) 0 (.slice (some ⟨gf,0,none⟩) la la)).trans (Zs.set g1 (by decide) 1 (.int .i64 ((a.toNat:Int) - 1)))
 exact ⟨gf,rfl,(un I1).stay st4,((un HQ2).set (un HNE).1 _).set (un HNE).1 _,((un HK8).setCell (p:=⟨R,0,none⟩) (.inr (un HSZ).1) _).setCell (p:=⟨R,1,none⟩) (.inr (un HSZ).1) _⟩
theorem Znm (w:World) (B:Nat) (l r:List UInt8) (xs:List Fb) (h:Zu w B l) (hx:Xu rdB l=some (xs,r)) :
  Calls Tryd.prog 65 #[.pointer (some ⟨B,0,none⟩),.func (.func 66) #[.pointer (some ⟨B,0,none⟩)] #[]] w fun en w'=>∃ g,en=.returned (.slice (some ⟨g,0,none⟩) xs.length xs.length)∧FbsN w' (.slice (some ⟨g,0,none⟩) xs.length xs.length) xs∧Zu w' B r∧Zn B w w':=by
 obtain ⟨b,l',rfl,hr⟩:=Zdp hx
 have HS:=Za (Yf w B b l' h)
 have hlen:=Zec hr
 have hb:b.toNat<256:=b.toNat_lt
 have HR:=Za hr
 have HB0:=Za h.lt
 rw [hlen]
 generalize hN:b.toNat=n at *
 have HLEN:=Za hlen
 have hmk:=Zkz n (by omega)
 clear hx hr hlen h hN
 go_enter Tryd.func65,Tryd.ntmps65
 go_wp2_with fail
 refine (un HS).mono ?_
 rintro _ w1 ⟨rfl,q1,q2⟩
 have HG:Hid (w1.heap.size≠B∧w.heap.size≤w1.heap.size):=Za ⟨by have:=q1.lt;omega,q2.size⟩
 have H1:Hid (∃ cur,Zu (w1.alloc (.cells (madeCells #[.slice none 0 0,.int .i64 0] (n*2)) 46)) B l'∧rdL rdB (n - 0) l'=some (xs.drop 0,r)∧(w1.alloc (.cells (madeCells #[.slice none 0 0,.int .i64 0] (n*2)) 46)).heap[w1.heap.size]?=some (.cells cur 46)∧cur.size=n*2∧(∀ (i:Nat) x,i<0→xs[i]?=some x→∃ vf,cur[i*2]?=some vf∧cur[i*2+1]?=some (.int .i64 x.caller)∧Pv (w1.alloc (.cells (madeCells #[.slice none 0 0,.int .i64 0] (n*2)) 46)) vf x.frames)∧Zn B w (w1.alloc (.cells (madeCells #[.slice none 0 0,.int .i64 0] (n*2)) 46))):=Za ⟨_,q1.k ((Zb.refl w1).alloc _),by simpa using un HR,Zg rfl,by simp [Zfz],fun i x hi=>by omega,q2.alloc _⟩
 clear q1 q2 HS
 go_wp2_with fail
 generalize w1.alloc (.cells (madeCells #[.slice none 0 0,.int .i64 0] (n*2)) 46)=wm at H1 ⊢
 generalize w1.heap.size=G at H1 HG ⊢
 go_loopw [12] (fun s12 wr=>∃ k:Nat,k≤n∧s12=.int .i64 k∧Hid (∃ l cur,Zu wr B l∧rdL rdB (n - k) l=some (xs.drop k,r)∧wr.heap[G]?=some (.cells cur 46)∧cur.size=n*2∧(∀ (i:Nat) x,i<k→xs[i]?=some x→∃ vf,cur[i*2]?=some vf∧cur[i*2+1]?=some (.int .i64 x.caller)∧Pv wr vf x.frames)∧Zn B w wr)) (fun s12 _=>n - (intOf s12).toNat)
 case atStart =>
  obtain ⟨cur,hh⟩:=un H1
  exact ⟨0,Nat.zero_le _,rfl,Za ⟨l',cur,hh⟩⟩
 case round =>
  obtain ⟨k,hkm,rfl,HW⟩:=hrel
  by_cases hk:k<n
  ·obtain ⟨l2,cur,a1,a2,a3,a4,a5,a6⟩:=un HW
   obtain ⟨m,hm⟩:∃ m,n - k=m+1:=⟨n - k - 1,by omega⟩
   rw [hm] at a2
   obtain ⟨x,l3,ys,b1,b2,b3⟩:=Zcm a2
   have hx:xs[k]?=some x:=by have:=congrArg (fun z=>z[0]?) b3;simpa [List.getElem?_drop] using this
   have hys:ys=xs.drop (k+1):=by have:=congrArg (List.drop 1) b3;simpa [List.drop_drop,Nat.add_comm] using this.symm
   have HC:=Za (Zmd wr B l2 l3 x a1 b1)
   have HA:=Za (And.intro a1 (And.intro a3 (And.intro a4 (And.intro a5 a6))))
   have HM:Hid (rdL rdB (n - (k+1)) l3=some (xs.drop (k+1),r)):=Za (by rw [show n - (k+1)=m by omega,← hys];exact b2)
   have HX:=Za hx
   have hk0:(0:Int)≤(k:Int):=by omega
   have hk1:(k:Int)<(n:Int):=by omega
   clear a1 a2 a3 a4 a5 a6 b1 b2 b3 hx hys hm HW
   go_wp2_with fail
   refine (un HC).mono ?_
   rintro _ w2 ⟨gf,rfl,i1,q1,q2⟩
   obtain ⟨a1,a3,a4,a5,a6⟩:=un HA
   have g2:=q2.rd a3 (un HG).1
   obtain ⟨d0,c0⟩:∃ d,w2.cell? ⟨G,k*2,none⟩=some d:=⟨_,Wz g2 (i:=k*2) (by omega)⟩
   have f0:=Zk g2 (k*2)
   obtain ⟨d1,c1⟩:∃ d,w2.cell? ⟨G,k*2+1,none⟩=some d:=⟨_,Wz g2 (i:=k*2+1) (by omega)⟩
   have f1:=Zk g2 (k*2+1)
   have st:=q2.stay a1
   have HN:Hid (∃ l cur,Zu ((w2.setCell ⟨G,k*2,none⟩ (.slice (some ⟨gf,0,none⟩) x.frames.length x.frames.length)).setCell ⟨G,k*2+1,none⟩ (.int .i64 x.caller)) B l∧rdL rdB (n - (k+1)) l=some (xs.drop (k+1),r)∧((w2.setCell ⟨G,k*2,none⟩ (.slice (some ⟨gf,0,none⟩) x.frames.length x.frames.length)).setCell ⟨G,k*2+1,none⟩ (.int .i64 x.caller)).heap[G]?=some (.cells cur 46)∧cur.size=n*2∧(∀ (i:Nat) y,i<k+1→xs[i]?=some y→∃ vf,cur[i*2]?=some vf∧cur[i*2+1]?=some (.int .i64 y.caller)∧Pv ((w2.setCell ⟨G,k*2,none⟩ (.slice (some ⟨gf,0,none⟩) x.frames.length x.frames.length)).setCell ⟨G,k*2+1,none⟩ (.int .i64 x.caller)) vf y.frames)∧Zn B w ((w2.setCell ⟨G,k*2,none⟩ (.slice (some ⟨gf,0,none⟩) x.frames.length x.frames.length)).setCell ⟨G,k*2+1,none⟩ (.int .i64 x.caller))):=Za (by
    refine ⟨l3,((cur.setIfInBounds (k*2) (.slice (some ⟨gf,0,none⟩) x.frames.length x.frames.length)).setIfInBounds (k*2+1) (.int .i64 x.caller)),((q1.set (fun e=>(un HG).1 e.symm) _).set (fun e=>(un HG).1 e.symm) _),un HM,(Zl (Zl g2 (k*2) _) (k*2+1) _),by simp [a4],fun i y hi hy=>?_,(((a6.trans q2).setCell (p:=⟨G,k*2,none⟩) (.inr (un HG).2) _).setCell (p:=⟨G,k*2+1,none⟩) (.inr (un HG).2) _)⟩
    have l1:=Zl g2 (k*2) (.slice (some ⟨gf,0,none⟩) x.frames.length x.frames.length)
    have s4:=(Zs.set (ts:=[3,53]) g2 (by decide) (k*2) (.slice (some ⟨gf,0,none⟩) x.frames.length x.frames.length)).trans (Zs.set l1 (by decide) (k*2+1) (.int .i64 x.caller))
    by_cases hik:i=k
    ·subst hik
     rw [un HX] at hy
     cases hy
     obtain ⟨p1,p2⟩:=Zta (c:=cur) (k:=i) (by omega) (.slice (some ⟨gf,0,none⟩) x.frames.length x.frames.length) (.int .i64 x.caller)
     exact ⟨_,p1,p2,i1.stay s4⟩
    ·obtain ⟨vf,e1,e2,j1⟩:=a5 i y (by omega) hy
     obtain ⟨p1,p2⟩:=Zxl (c:=cur) hik (.slice (some ⟨gf,0,none⟩) x.frames.length x.frames.length) (.int .i64 x.caller)
     exact ⟨vf,p1.trans e1,p2.trans e2,(j1.stay (st.sub (by simp))).stay s4⟩)
   clear a1 a3 a4 a5 a6 g2 st q1 q2 i1 HA HC
   go_wp2_with fail
   go_roundw
   case rel=>exact ⟨k+1,by omega,by go_num,HN⟩
   case measure=>simp [intOf];omega
  ·obtain rfl:k=n:=by omega
   go_wp2
   go_ret
   obtain ⟨l2,cur,a1,a2,a3,a4,a5,a6⟩:=un HW
   rw [Nat.sub_self] at a2
   have hl2:l2=r:=by simp only [rdL,Option.some.injEq,Prod.mk.injEq] at a2;exact a2.2
   subst hl2
   refine ⟨_,rfl,⟨_,cur,by rw [un HLEN],a3,fun i x hx=>a5 i x (by have:=(List.getElem?_eq_some_iff.1 hx).1;have:=un HLEN;omega) hx⟩,a1,a6⟩
end Go.Proofs.YtblihfpigjiahaaDoor
