import Derived.Test.YtokhibfenccijaaGreatDoorQB38
set_option maxRecDepth 100000
set_option maxHeartbeats 8000000
namespace Go.Proofs.YtokhibfenccijaaGreatDoor
open Go.Proofs.Tryz
open Go.RowKit Go.Maps
def pJ(s:St)(w:World)(e:Ending)(w':World):Prop:=∃g d b a h f c,e=.returned (.agg #[.slice g d b,.int .i64 a,.slice h f c])∧eX w.heap.size w' (.agg #[.slice g d b,.int .i64 a,.slice h f c]) s∧J w w'
theorem GI(b o n l lo:Nat)(w:World)(k:w.cell? ⟨b,o+1,none⟩=some (.int .i64 lo))(x:0<n)(p:lo≤1000):Calls prog 22 #[.slice (some ⟨b,o,none⟩) n l] w (pJ ⟨[⟨[⟨0,0,List.replicate lo 0,[]⟩],-1⟩],0,[]⟩ w):=by
 have u:=jB lo (by omega);have y:(0:Int)<(n:Int):=by omega
 have t:=bJ k;simp only at t;go_enter func22,ntmps22;go_wp2;generalize e:w.heap.size=a at*;have q:Array.replicate lo (Value.int .i64 0)=(ints (List.replicate lo 0)).toArray:=by simp[ints]
 rw[q];generalize d:(((w.alloc (.cells #[.slice (some ⟨a+1+1+1,0,none⟩) 1 1,.int .i64 0,.slice none 0 0] 44)).alloc (.cells (ints (List.replicate lo 0)).toArray 3)).alloc (.cells #[.int .i64 0,.int .i64 0,.slice (some ⟨a+1,0,none⟩) lo lo,.slice none 0 0] 92)).alloc (.cells #[.slice (some ⟨a+1+1,0,none⟩) 1 1,.int .i64 (-1)] 95)=c;have f:c.heap[a]?=some (.cells #[.slice (some ⟨a+1+1+1,0,none⟩) 1 1,.int .i64 0,.slice none 0 0] 44):=by rw[←d];exact au (au (au (ah e) _) _) _
 have h:c.heap[a+1]?=some (.cells (ints (List.replicate lo 0)).toArray 3):=by rw[←d];exact au (au (ah (by simp[e])) _) _
 have i:c.heap[a+1+1]?=some (.cells #[.int .i64 0,.int .i64 0,.slice (some ⟨a+1,0,none⟩) lo lo,.slice none 0 0] 92):=by rw[←d];exact au (ah (by simp[e])) _
 have j:c.heap[a+1+1+1]?=some (.cells #[.slice (some ⟨a+1+1,0,none⟩) 1 1,.int .i64 (-1)] 95):=by rw[←d];exact ah (by simp[e])
 have m:J w c:=by rw[←d];exact((((J.refl w).alloc _).alloc _).alloc _).alloc _
 have k0:c.cell? ⟨a,0,none⟩=some (.slice (some ⟨a+1+1+1,0,none⟩) 1 1):=aE f rfl;have r:c.cell? ⟨a,1,none⟩=some (.int .i64 0):=aE f rfl;have s:c.cell? ⟨a,2,none⟩=some (.slice none 0 0):=aE f rfl;refine bodyPost_ret (v:=.agg #[.slice (some ⟨a+1+1+1,0,none⟩) 1 1,.int .i64 0,.slice none 0 0]) (by simp[results,results22,go_sem,k0,r,s]) rfl ?_;exact⟨_,_,_,_,_,_,_,rfl,fun z g=>sV (g _ _ _ (by omega) (by unfold ed;decide) h) (g _ _ _ (by omega) (by unfold ed;decide) i) (g _ _ _ (by omega) (by unfold ed;decide) j) p,m⟩
theorem wu(p:List Fn)(d:Value)(w:World)(j:aK w d p)(m:aL p=0):Calls prog 22 #[d] w (pJ (aS p) w):=by
 obtain⟨_,a,h⟩:=fO m;obtain⟨s,f,rfl,_,g⟩:=id j;obtain⟨e,o,q,rfl,_,c,_,_⟩:=g 0 _ (aD p 0 Fn.zero a);have l:0≤(p.getD 0 Fn.zero).locals∧(p.getD 0 Fn.zero).locals≤4:=by
  obtain⟨n,r,_,_,k,_⟩:=gN (h 0 a);obtain rfl:n=0:=by omega
  have:=fg.1 k;omega
 obtain⟨b,i⟩:∃b:Nat,(p.getD 0 Fn.zero).locals=b:=⟨(p.getD 0 Fn.zero).locals.toNat,by omega⟩;unfold aS;rw[i]at c l⊢;rw[Int.toNat_natCast];exact GI e o _ f b w (by simpa using c) a (by omega)
theorem GJ(p:List Fn)(s:St)(c d:Value)(n:Int)(w:World)(e:0≤n)(g:n≤500)(i:aK w c p)(j:cy w d s)(a:fG p s):Calls prog 53 #[c,d,.int .i64 n] w (hU (be p s n).1 [.int .i64 ((be p s n).2.1:Int),.int .i64 (be p s n).2.2] w):=by
 obtain⟨b,rfl⟩:=Int.eq_ofNat_of_zero_le e;have h:be p s (b:Int)=cC p b s:=by unfold be;rw[if_pos (fM e g),if_pos a.1,Int.toNat_natCast]
 rw[h];exact(Hd p s c d b w i j (jH a.1) (by omega) (wJ _ a.1)).mono fun _ _ f=>vP (jH (oU _ a.1)) f
