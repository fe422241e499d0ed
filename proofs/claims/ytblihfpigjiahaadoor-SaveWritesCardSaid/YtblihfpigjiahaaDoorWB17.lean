/- OpI -/
import Derived.Test.YtblihfpigjiahaaDoorWB11
import Derived.Test.YtblihfpigjiahaaDoorWB01
import Derived.Test.YtblihfpigjiahaaDoorWB08
set_option maxRecDepth 100000
set_option maxHeartbeats 8000000
namespace Go.Proofs.YtblihfpigjiahaaDoor
open Go.RowKit
theorem Zbh (a l:Int) (c:Value) (w:World) :
  Calls Tryd.prog 43 #[.agg #[.int .i64 a,.int .i64 l,c]] w fun e w'=>e=.returned (.bool (!Qn a l))∧w'=w.alloc (.cells #[.int .i64 a,.int .i64 l,c] 58):=by
 by_cases h1:0≤a
 ·by_cases h2:a≤l
  ·by_cases h3:l≤4
   ·rw [show Qn a l=true from by rw [Ws];exact ⟨h1,h2,h3⟩]
    have g1:decide (a<0)=false:=by simpa using h1
    have g2:decide (l<a)=false:=by simpa using h2
    have g3:decide (4<l)=false:=by simpa using h3
    go_enter Tryd.func43,Tryd.ntmps43
    go_wp2
    go_ret
    exact ⟨rfl,rfl⟩
   ·rw [show Qn a l=false from by rw [← Bool.not_eq_true,Ws];omega]
    go_enter Tryd.func43,Tryd.ntmps43
    go_wp2
    go_ret
    exact ⟨rfl,rfl⟩
  ·rw [show Qn a l=false from by rw [← Bool.not_eq_true,Ws];omega]
   go_enter Tryd.func43,Tryd.ntmps43
   go_wp2
   go_ret
   exact ⟨rfl,rfl⟩
 ·rw [show Qn a l=false from by rw [← Bool.not_eq_true,Ws];omega]
  go_enter Tryd.func43,Tryd.ntmps43
  go_wp2
  go_ret
  exact ⟨rfl,rfl⟩
theorem Zxy (kd a fi:Int) (v:Value) (w:World) (hb:inB kd 0 16=false) (h0:(kd == 0)=false) (h2:(kd == 2)=false) (h3:(kd == 3)=false) (h9:(kd == 9)=false) (h10:(kd == 10)=false) (h11:(kd == 11)=false) (h13:(kd == 13)=false) :
  Calls Tryd.prog 44 #[v,.int .i64 fi,.agg #[.int .i64 kd,.int .i64 a]] w fun e w'=>e=.returned (.int .i64 4)∧Zb w w':=by
 go_enter Tryd.func44,Tryd.ntmps44
 go_wp2_with (go_at_call 15;refine (Xm _ _ _ _).mono ?_;rintro e w' ⟨rfl,rfl⟩)
 go_ret
 exact ⟨rfl,(Zb.refl _).alloc _⟩
theorem Zrg (a:Int) (fi:Int) (v:Value) (w:World) (hb:inB a 0 999=false) :
  Calls Tryd.prog 44 #[v,.int .i64 fi,.agg #[.int .i64 0,.int .i64 a]] w fun e w'=>e=.returned (.int .i64 3)∧Zb w w':=by
 have hk:inB 0 0 16=true:=rfl
 go_enter Tryd.func44,Tryd.ntmps44
 go_wp2_with (go_at_call 15;refine (Xm _ _ _ _).mono ?_;rintro e w' ⟨rfl,rfl⟩)
 go_ret
 exact ⟨rfl,(Zb.refl _).alloc _⟩
theorem Zye (a:Int) (fi:Int) (v:Value) (w:World) (hb:inB a 0 999=true) :
  Calls Tryd.prog 44 #[v,.int .i64 fi,.agg #[.int .i64 0,.int .i64 a]] w fun e w'=>e=.returned (.int .i64 0)∧Zb w w':=by
 have hk:inB 0 0 16=true:=rfl
 go_enter Tryd.func44,Tryd.ntmps44
 go_wp2_with (go_at_call 15;refine (Xm _ _ _ _).mono ?_;rintro e w' ⟨rfl,rfl⟩)
 go_ret
 exact ⟨rfl,(Zb.refl _).alloc _⟩
theorem Zyi (a:Int) (fi:Int) (v:Value) (w:World) (hb:inB a 0 0=false) :
  Calls Tryd.prog 44 #[v,.int .i64 fi,.agg #[.int .i64 1,.int .i64 a]] w fun e w'=>e=.returned (.int .i64 3)∧Zb w w':=by
 have hk:inB 1 0 16=true:=rfl
 go_enter Tryd.func44,Tryd.ntmps44
 go_wp2_with (go_at_call 15;refine (Xm _ _ _ _).mono ?_;rintro e w' ⟨rfl,rfl⟩)
 go_ret
 exact ⟨rfl,(Zb.refl _).alloc _⟩
theorem Xcg (a:Int) (fi:Int) (v:Value) (w:World) (hb:inB a 0 0=true) :
  Calls Tryd.prog 44 #[v,.int .i64 fi,.agg #[.int .i64 1,.int .i64 a]] w fun e w'=>e=.returned (.int .i64 0)∧Zb w w':=by
 have hk:inB 1 0 16=true:=rfl
 go_enter Tryd.func44,Tryd.ntmps44
 go_wp2_with (go_at_call 15;refine (Xm _ _ _ _).mono ?_;rintro e w' ⟨rfl,rfl⟩)
 go_ret
 exact ⟨rfl,(Zb.refl _).alloc _⟩
theorem Zwd (a:Int) (i b o n cap:Nat) (lo:Int) (w:World) (hi:i<n) (hlo:0≤lo) (hl4:lo≤4) (c1:w.cell? ⟨b,o+i*3+1,none⟩=some (.int .i64 lo)) (hb:inB a 0 (lo - 1)=false) :
  Calls Tryd.prog 44 #[.slice (some ⟨b,o,none⟩) n cap,.int .i64 i,.agg #[.int .i64 2,.int .i64 a]] w fun e w'=>e=.returned (.int .i64 3)∧Zb w w':=by
 have hk:inB 2 0 16=true:=rfl
 have d1:=((Zb.refl w).alloc (.cells #[.int .i64 2,.int .i64 a] 86)).cell c1
 clear c1
 go_enter Tryd.func44,Tryd.ntmps44
 go_wp2_with (go_at_call 15;refine (Xm _ _ _ _).mono ?_;rintro e w' ⟨rfl,rfl⟩)
 go_ret
 exact ⟨rfl,(Zb.refl _).alloc _⟩
theorem Zoh (a:Int) (i b o n cap:Nat) (lo:Int) (w:World) (hi:i<n) (hlo:0≤lo) (hl4:lo≤4) (c1:w.cell? ⟨b,o+i*3+1,none⟩=some (.int .i64 lo)) (hb:inB a 0 (lo - 1)=true) :
  Calls Tryd.prog 44 #[.slice (some ⟨b,o,none⟩) n cap,.int .i64 i,.agg #[.int .i64 2,.int .i64 a]] w fun e w'=>e=.returned (.int .i64 0)∧Zb w w':=by
 have hk:inB 2 0 16=true:=rfl
 have d1:=((Zb.refl w).alloc (.cells #[.int .i64 2,.int .i64 a] 86)).cell c1
 clear c1
 go_enter Tryd.func44,Tryd.ntmps44
 go_wp2_with (go_at_call 15;refine (Xm _ _ _ _).mono ?_;rintro e w' ⟨rfl,rfl⟩)
 go_ret
 exact ⟨rfl,(Zb.refl _).alloc _⟩
theorem Xay (a:Int) (i b o n cap:Nat) (lo:Int) (w:World) (hi:i<n) (hlo:0≤lo) (hl4:lo≤4) (c1:w.cell? ⟨b,o+i*3+1,none⟩=some (.int .i64 lo)) (hb:inB a 0 (lo - 1)=false) :
  Calls Tryd.prog 44 #[.slice (some ⟨b,o,none⟩) n cap,.int .i64 i,.agg #[.int .i64 3,.int .i64 a]] w fun e w'=>e=.returned (.int .i64 3)∧Zb w w':=by
 have hk:inB 3 0 16=true:=rfl
 have d1:=((Zb.refl w).alloc (.cells #[.int .i64 3,.int .i64 a] 86)).cell c1
 clear c1
 go_enter Tryd.func44,Tryd.ntmps44
 go_wp2_with (go_at_call 15;refine (Xm _ _ _ _).mono ?_;rintro e w' ⟨rfl,rfl⟩)
 go_ret
 exact ⟨rfl,(Zb.refl _).alloc _⟩
theorem Zst (a:Int) (i b o n cap:Nat) (lo:Int) (w:World) (hi:i<n) (hlo:0≤lo) (hl4:lo≤4) (c1:w.cell? ⟨b,o+i*3+1,none⟩=some (.int .i64 lo)) (hb:inB a 0 (lo - 1)=true) :
  Calls Tryd.prog 44 #[.slice (some ⟨b,o,none⟩) n cap,.int .i64 i,.agg #[.int .i64 3,.int .i64 a]] w fun e w'=>e=.returned (.int .i64 0)∧Zb w w':=by
 have hk:inB 3 0 16=true:=rfl
 have d1:=((Zb.refl w).alloc (.cells #[.int .i64 3,.int .i64 a] 86)).cell c1
 clear c1
 go_enter Tryd.func44,Tryd.ntmps44
 go_wp2_with (go_at_call 15;refine (Xm _ _ _ _).mono ?_;rintro e w' ⟨rfl,rfl⟩)
 go_ret
 exact ⟨rfl,(Zb.refl _).alloc _⟩
theorem Ztc (a:Int) (fi:Int) (v:Value) (w:World) (hb:inB a 0 0=false) :
  Calls Tryd.prog 44 #[v,.int .i64 fi,.agg #[.int .i64 4,.int .i64 a]] w fun e w'=>e=.returned (.int .i64 3)∧Zb w w':=by
 have hk:inB 4 0 16=true:=rfl
 go_enter Tryd.func44,Tryd.ntmps44
 go_wp2_with (go_at_call 15;refine (Xm _ _ _ _).mono ?_;rintro e w' ⟨rfl,rfl⟩)
 go_ret
 exact ⟨rfl,(Zb.refl _).alloc _⟩
theorem Xbx (a:Int) (fi:Int) (v:Value) (w:World) (hb:inB a 0 0=true) :
  Calls Tryd.prog 44 #[v,.int .i64 fi,.agg #[.int .i64 4,.int .i64 a]] w fun e w'=>e=.returned (.int .i64 0)∧Zb w w':=by
 have hk:inB 4 0 16=true:=rfl
 go_enter Tryd.func44,Tryd.ntmps44
 go_wp2_with (go_at_call 15;refine (Xm _ _ _ _).mono ?_;rintro e w' ⟨rfl,rfl⟩)
 go_ret
 exact ⟨rfl,(Zb.refl _).alloc _⟩
theorem Zvt (a:Int) (fi:Int) (v:Value) (w:World) (hb:inB a 0 0=false) :
  Calls Tryd.prog 44 #[v,.int .i64 fi,.agg #[.int .i64 5,.int .i64 a]] w fun e w'=>e=.returned (.int .i64 3)∧Zb w w':=by
 have hk:inB 5 0 16=true:=rfl
 go_enter Tryd.func44,Tryd.ntmps44
 go_wp2_with (go_at_call 15;refine (Xm _ _ _ _).mono ?_;rintro e w' ⟨rfl,rfl⟩)
 go_ret
 exact ⟨rfl,(Zb.refl _).alloc _⟩
theorem Zsu (a:Int) (fi:Int) (v:Value) (w:World) (hb:inB a 0 0=true) :
  Calls Tryd.prog 44 #[v,.int .i64 fi,.agg #[.int .i64 5,.int .i64 a]] w fun e w'=>e=.returned (.int .i64 0)∧Zb w w':=by
 have hk:inB 5 0 16=true:=rfl
 go_enter Tryd.func44,Tryd.ntmps44
 go_wp2_with (go_at_call 15;refine (Xm _ _ _ _).mono ?_;rintro e w' ⟨rfl,rfl⟩)
 go_ret
 exact ⟨rfl,(Zb.refl _).alloc _⟩
theorem Zqp (a:Int) (fi:Int) (v:Value) (w:World) (hb:inB a 0 0=false) :
  Calls Tryd.prog 44 #[v,.int .i64 fi,.agg #[.int .i64 6,.int .i64 a]] w fun e w'=>e=.returned (.int .i64 3)∧Zb w w':=by
 have hk:inB 6 0 16=true:=rfl
 go_enter Tryd.func44,Tryd.ntmps44
 go_wp2_with (go_at_call 15;refine (Xm _ _ _ _).mono ?_;rintro e w' ⟨rfl,rfl⟩)
 go_ret
 exact ⟨rfl,(Zb.refl _).alloc _⟩
theorem Xce (a:Int) (fi:Int) (v:Value) (w:World) (hb:inB a 0 0=true) :
  Calls Tryd.prog 44 #[v,.int .i64 fi,.agg #[.int .i64 6,.int .i64 a]] w fun e w'=>e=.returned (.int .i64 0)∧Zb w w':=by
 have hk:inB 6 0 16=true:=rfl
 go_enter Tryd.func44,Tryd.ntmps44
 go_wp2_with (go_at_call 15;refine (Xm _ _ _ _).mono ?_;rintro e w' ⟨rfl,rfl⟩)
 go_ret
 exact ⟨rfl,(Zb.refl _).alloc _⟩
theorem Zsr (a:Int) (fi:Int) (v:Value) (w:World) (hb:inB a 0 0=false) :
  Calls Tryd.prog 44 #[v,.int .i64 fi,.agg #[.int .i64 7,.int .i64 a]] w fun e w'=>e=.returned (.int .i64 3)∧Zb w w':=by
 have hk:inB 7 0 16=true:=rfl
 go_enter Tryd.func44,Tryd.ntmps44
 go_wp2_with (go_at_call 15;refine (Xm _ _ _ _).mono ?_;rintro e w' ⟨rfl,rfl⟩)
 go_ret
 exact ⟨rfl,(Zb.refl _).alloc _⟩
theorem Zwt (a:Int) (fi:Int) (v:Value) (w:World) (hb:inB a 0 0=true) :
  Calls Tryd.prog 44 #[v,.int .i64 fi,.agg #[.int .i64 7,.int .i64 a]] w fun e w'=>e=.returned (.int .i64 0)∧Zb w w':=by
 have hk:inB 7 0 16=true:=rfl
 go_enter Tryd.func44,Tryd.ntmps44
 go_wp2_with (go_at_call 15;refine (Xm _ _ _ _).mono ?_;rintro e w' ⟨rfl,rfl⟩)
 go_ret
 exact ⟨rfl,(Zb.refl _).alloc _⟩
theorem Zvq (a:Int) (fi:Int) (v:Value) (w:World) (hb:inB a 0 0=false) :
  Calls Tryd.prog 44 #[v,.int .i64 fi,.agg #[.int .i64 8,.int .i64 a]] w fun e w'=>e=.returned (.int .i64 3)∧Zb w w':=by
 have hk:inB 8 0 16=true:=rfl
 go_enter Tryd.func44,Tryd.ntmps44
 go_wp2_with (go_at_call 15;refine (Xm _ _ _ _).mono ?_;rintro e w' ⟨rfl,rfl⟩)
 go_ret
 exact ⟨rfl,(Zb.refl _).alloc _⟩
theorem Zxa (a:Int) (fi:Int) (v:Value) (w:World) (hb:inB a 0 0=true) :
  Calls Tryd.prog 44 #[v,.int .i64 fi,.agg #[.int .i64 8,.int .i64 a]] w fun e w'=>e=.returned (.int .i64 0)∧Zb w w':=by
 have hk:inB 8 0 16=true:=rfl
 go_enter Tryd.func44,Tryd.ntmps44
 go_wp2_with (go_at_call 15;refine (Xm _ _ _ _).mono ?_;rintro e w' ⟨rfl,rfl⟩)
 go_ret
 exact ⟨rfl,(Zb.refl _).alloc _⟩
theorem Zrh (a:Int) (i b o n cap:Nat) (oc:Option Addr) (m cc:Nat) (w:World) (hi:i<n) (hm:m≤8796093022208) (c2:w.cell? ⟨b,o+i*3+2,none⟩=some (.slice oc m cc)) (hb:inB a 0 ((m:Int) - 1)=false) :
  Calls Tryd.prog 44 #[.slice (some ⟨b,o,none⟩) n cap,.int .i64 i,.agg #[.int .i64 9,.int .i64 a]] w fun e w'=>e=.returned (.int .i64 3)∧Zb w w':=by
 have hk:inB 9 0 16=true:=rfl
 have d2:=((Zb.refl w).alloc (.cells #[.int .i64 9,.int .i64 a] 86)).cell c2
 clear c2
 go_enter Tryd.func44,Tryd.ntmps44
 go_wp2_with (go_at_call 15;refine (Xm _ _ _ _).mono ?_;rintro e w' ⟨rfl,rfl⟩)
 go_ret
 exact ⟨rfl,(Zb.refl _).alloc _⟩
theorem Zqu (a:Int) (i b o n cap:Nat) (oc:Option Addr) (m cc:Nat) (w:World) (hi:i<n) (hm:m≤8796093022208) (c2:w.cell? ⟨b,o+i*3+2,none⟩=some (.slice oc m cc)) (hb:inB a 0 ((m:Int) - 1)=true) :
  Calls Tryd.prog 44 #[.slice (some ⟨b,o,none⟩) n cap,.int .i64 i,.agg #[.int .i64 9,.int .i64 a]] w fun e w'=>e=.returned (.int .i64 0)∧Zb w w':=by
 have hk:inB 9 0 16=true:=rfl
 have d2:=((Zb.refl w).alloc (.cells #[.int .i64 9,.int .i64 a] 86)).cell c2
 clear c2
 go_enter Tryd.func44,Tryd.ntmps44
 go_wp2_with (go_at_call 15;refine (Xm _ _ _ _).mono ?_;rintro e w' ⟨rfl,rfl⟩)
 go_ret
 exact ⟨rfl,(Zb.refl _).alloc _⟩
theorem Zuj (a:Int) (i b o n cap:Nat) (oc:Option Addr) (m cc:Nat) (w:World) (hi:i<n) (hm:m≤8796093022208) (c2:w.cell? ⟨b,o+i*3+2,none⟩=some (.slice oc m cc)) (hb:inB a 0 ((m:Int) - 1)=false) :
  Calls Tryd.prog 44 #[.slice (some ⟨b,o,none⟩) n cap,.int .i64 i,.agg #[.int .i64 10,.int .i64 a]] w fun e w'=>e=.returned (.int .i64 3)∧Zb w w':=by
 have hk:inB 10 0 16=true:=rfl
 have d2:=((Zb.refl w).alloc (.cells #[.int .i64 10,.int .i64 a] 86)).cell c2
 clear c2
 go_enter Tryd.func44,Tryd.ntmps44
 go_wp2_with (go_at_call 15;refine (Xm _ _ _ _).mono ?_;rintro e w' ⟨rfl,rfl⟩)
 go_ret
 exact ⟨rfl,(Zb.refl _).alloc _⟩
theorem Zwa (a:Int) (i b o n cap:Nat) (oc:Option Addr) (m cc:Nat) (w:World) (hi:i<n) (hm:m≤8796093022208) (c2:w.cell? ⟨b,o+i*3+2,none⟩=some (.slice oc m cc)) (hb:inB a 0 ((m:Int) - 1)=true) :
  Calls Tryd.prog 44 #[.slice (some ⟨b,o,none⟩) n cap,.int .i64 i,.agg #[.int .i64 10,.int .i64 a]] w fun e w'=>e=.returned (.int .i64 0)∧Zb w w':=by
 have hk:inB 10 0 16=true:=rfl
 have d2:=((Zb.refl w).alloc (.cells #[.int .i64 10,.int .i64 a] 86)).cell c2
 clear c2
 go_enter Tryd.func44,Tryd.ntmps44
 go_wp2_with (go_at_call 15;refine (Xm _ _ _ _).mono ?_;rintro e w' ⟨rfl,rfl⟩)
 go_ret
 exact ⟨rfl,(Zb.refl _).alloc _⟩
theorem Zzi (a:Int) (fi:Int) (v:Value) (w:World) (hb:inB a 0 0=false) :
  Calls Tryd.prog 44 #[v,.int .i64 fi,.agg #[.int .i64 12,.int .i64 a]] w fun e w'=>e=.returned (.int .i64 3)∧Zb w w':=by
 have hk:inB 12 0 16=true:=rfl
 go_enter Tryd.func44,Tryd.ntmps44
 go_wp2_with (go_at_call 15;refine (Xm _ _ _ _).mono ?_;rintro e w' ⟨rfl,rfl⟩)
 go_ret
 exact ⟨rfl,(Zb.refl _).alloc _⟩
theorem Zyj (a:Int) (fi:Int) (v:Value) (w:World) (hb:inB a 0 0=true) :
  Calls Tryd.prog 44 #[v,.int .i64 fi,.agg #[.int .i64 12,.int .i64 a]] w fun e w'=>e=.returned (.int .i64 0)∧Zb w w':=by
 have hk:inB 12 0 16=true:=rfl
 go_enter Tryd.func44,Tryd.ntmps44
 go_wp2_with (go_at_call 15;refine (Xm _ _ _ _).mono ?_;rintro e w' ⟨rfl,rfl⟩)
 go_ret
 exact ⟨rfl,(Zb.refl _).alloc _⟩
theorem Zxn (a:Int) (fi:Int) (v:Value) (w:World) (hb:inB a 0 0=false) :
  Calls Tryd.prog 44 #[v,.int .i64 fi,.agg #[.int .i64 14,.int .i64 a]] w fun e w'=>e=.returned (.int .i64 3)∧Zb w w':=by
 have hk:inB 14 0 16=true:=rfl
 go_enter Tryd.func44,Tryd.ntmps44
 go_wp2_with (go_at_call 15;refine (Xm _ _ _ _).mono ?_;rintro e w' ⟨rfl,rfl⟩)
 go_ret
 exact ⟨rfl,(Zb.refl _).alloc _⟩
theorem Xap (a:Int) (fi:Int) (v:Value) (w:World) (hb:inB a 0 0=true) :
  Calls Tryd.prog 44 #[v,.int .i64 fi,.agg #[.int .i64 14,.int .i64 a]] w fun e w'=>e=.returned (.int .i64 0)∧Zb w w':=by
 have hk:inB 14 0 16=true:=rfl
 go_enter Tryd.func44,Tryd.ntmps44
 go_wp2_with (go_at_call 15;refine (Xm _ _ _ _).mono ?_;rintro e w' ⟨rfl,rfl⟩)
 go_ret
 exact ⟨rfl,(Zb.refl _).alloc _⟩
theorem Zxc (a:Int) (fi:Int) (v:Value) (w:World) (hb:inB a 0 0=false) :
  Calls Tryd.prog 44 #[v,.int .i64 fi,.agg #[.int .i64 15,.int .i64 a]] w fun e w'=>e=.returned (.int .i64 3)∧Zb w w':=by
 have hk:inB 15 0 16=true:=rfl
 go_enter Tryd.func44,Tryd.ntmps44
 go_wp2_with (go_at_call 15;refine (Xm _ _ _ _).mono ?_;rintro e w' ⟨rfl,rfl⟩)
 go_ret
 exact ⟨rfl,(Zb.refl _).alloc _⟩
theorem Xbz (a:Int) (fi:Int) (v:Value) (w:World) (hb:inB a 0 0=true) :
  Calls Tryd.prog 44 #[v,.int .i64 fi,.agg #[.int .i64 15,.int .i64 a]] w fun e w'=>e=.returned (.int .i64 0)∧Zb w w':=by
 have hk:inB 15 0 16=true:=rfl
 go_enter Tryd.func44,Tryd.ntmps44
 go_wp2_with (go_at_call 15;refine (Xm _ _ _ _).mono ?_;rintro e w' ⟨rfl,rfl⟩)
 go_ret
 exact ⟨rfl,(Zb.refl _).alloc _⟩
theorem Zsp (a:Int) (fi:Int) (v:Value) (w:World) (hb:inB a 0 0=false) :
  Calls Tryd.prog 44 #[v,.int .i64 fi,.agg #[.int .i64 16,.int .i64 a]] w fun e w'=>e=.returned (.int .i64 3)∧Zb w w':=by
 have hk:inB 16 0 16=true:=rfl
 go_enter Tryd.func44,Tryd.ntmps44
 go_wp2_with (go_at_call 15;refine (Xm _ _ _ _).mono ?_;rintro e w' ⟨rfl,rfl⟩)
 go_ret
 exact ⟨rfl,(Zb.refl _).alloc _⟩
theorem Xbg (a:Int) (fi:Int) (v:Value) (w:World) (hb:inB a 0 0=true) :
  Calls Tryd.prog 44 #[v,.int .i64 fi,.agg #[.int .i64 16,.int .i64 a]] w fun e w'=>e=.returned (.int .i64 0)∧Zb w w':=by
 have hk:inB 16 0 16=true:=rfl
 go_enter Tryd.func44,Tryd.ntmps44
 go_wp2_with (go_at_call 15;refine (Xm _ _ _ _).mono ?_;rintro e w' ⟨rfl,rfl⟩)
 go_ret
 exact ⟨rfl,(Zb.refl _).alloc _⟩
theorem Zou (a fi:Int) (oa:Option Addr) (n cap:Nat) (w:World) (hn:n≤8796093022208) (hb:inB a 0 ((n:Int) - 1)=false) :
  Calls Tryd.prog 44 #[.slice oa n cap,.int .i64 fi,.agg #[.int .i64 11,.int .i64 a]] w fun e w'=>e=.returned (.int .i64 3)∧Zb w w':=by
 have hk:inB 11 0 16=true:=rfl
 go_enter Tryd.func44,Tryd.ntmps44
 go_wp2_with (go_at_call 15;refine (Xm _ _ _ _).mono ?_;rintro e w' ⟨rfl,rfl⟩)
 go_ret
 exact ⟨rfl,(Zb.refl _).alloc _⟩
theorem Xak (fi:Int) (j b o n cap:Nat) (ar lo:Int) (cv:Value) (w:World) (hn:n≤8796093022208) (hj:j<n) (c0:w.cell? ⟨b,o+j*3,none⟩=some (.int .i64 ar)) (c1:w.cell? ⟨b,o+j*3+1,none⟩=some (.int .i64 lo)) (c2:w.cell? ⟨b,o+j*3+2,none⟩=some cv) (hr:Qn ar lo=false) :
  Calls Tryd.prog 44 #[.slice (some ⟨b,o,none⟩) n cap,.int .i64 fi,.agg #[.int .i64 11,.int .i64 j]] w fun e w'=>e=.returned (.int .i64 3)∧Zb w w':=by
 have hk:inB 11 0 16=true:=rfl
 have hb:inB j 0 ((n:Int) - 1)=true:=Wl (by omega) (by omega)
 have d0:=((Zb.refl w).alloc (.cells #[.int .i64 11,.int .i64 j] 86)).cell c0
 have d1:=((Zb.refl w).alloc (.cells #[.int .i64 11,.int .i64 j] 86)).cell c1
 have d2:=((Zb.refl w).alloc (.cells #[.int .i64 11,.int .i64 j] 86)).cell c2
 have d3:=(((Zb.refl w).alloc (.cells #[.int .i64 11,.int .i64 j] 86)).alloc (.cells #[.int .i64 ar,.int .i64 lo,cv] 58)).cell c0
 clear c0 c1 c2
 go_enter Tryd.func44,Tryd.ntmps44
 go_wp2_with (first | (go_at_call 15;refine (Xm _ _ _ _).mono ?_;rintro e w' ⟨rfl,rfl⟩) | (go_at_call 43;refine (Zbh _ _ _ _).mono ?_;rintro e w' ⟨rfl,rfl⟩))
 go_ret
 exact ⟨rfl,((Zb.refl _).alloc _).alloc _⟩
theorem Zom (fi:Int) (j b o n cap:Nat) (ar lo:Int) (cv:Value) (w:World) (hn:n≤8796093022208) (hj:j<n) (c0:w.cell? ⟨b,o+j*3,none⟩=some (.int .i64 ar)) (c1:w.cell? ⟨b,o+j*3+1,none⟩=some (.int .i64 lo)) (c2:w.cell? ⟨b,o+j*3+2,none⟩=some cv) (hr:Qn ar lo=true) :
  Calls Tryd.prog 44 #[.slice (some ⟨b,o,none⟩) n cap,.int .i64 fi,.agg #[.int .i64 11,.int .i64 j]] w fun e w'=>e=.returned (.int .i64 0)∧Zb w w':=by
 have hk:inB 11 0 16=true:=rfl
 have hb:inB j 0 ((n:Int) - 1)=true:=Wl (by omega) (by omega)
 have d0:=((Zb.refl w).alloc (.cells #[.int .i64 11,.int .i64 j] 86)).cell c0
 have d1:=((Zb.refl w).alloc (.cells #[.int .i64 11,.int .i64 j] 86)).cell c1
 have d2:=((Zb.refl w).alloc (.cells #[.int .i64 11,.int .i64 j] 86)).cell c2
 have d3:=(((Zb.refl w).alloc (.cells #[.int .i64 11,.int .i64 j] 86)).alloc (.cells #[.int .i64 ar,.int .i64 lo,cv] 58)).cell c0
 clear c0 c1 c2
 go_enter Tryd.func44,Tryd.ntmps44
 go_wp2_with (first | (go_at_call 15;refine (Xm _ _ _ _).mono ?_;rintro e w' ⟨rfl,rfl⟩) | (go_at_call 43;refine (Zbh _ _ _ _).mono ?_;rintro e w' ⟨rfl,rfl⟩))
 go_ret
 exact ⟨rfl,((Zb.refl _).alloc _).alloc _⟩
theorem Zxr (a fi:Int) (oa:Option Addr) (n cap:Nat) (w:World) (hn:n≤8796093022208) (hb:inB a 0 ((n:Int) - 1)=false) :
  Calls Tryd.prog 44 #[.slice oa n cap,.int .i64 fi,.agg #[.int .i64 13,.int .i64 a]] w fun e w'=>e=.returned (.int .i64 3)∧Zb w w':=by
 have hk:inB 13 0 16=true:=rfl
 go_enter Tryd.func44,Tryd.ntmps44
 go_wp2_with (go_at_call 15;refine (Xm _ _ _ _).mono ?_;rintro e w' ⟨rfl,rfl⟩)
 go_ret
 exact ⟨rfl,(Zb.refl _).alloc _⟩
theorem Xbu (fi:Int) (j b o n cap:Nat) (ar lo:Int) (cv:Value) (w:World) (hn:n≤8796093022208) (hj:j<n) (c0:w.cell? ⟨b,o+j*3,none⟩=some (.int .i64 ar)) (c1:w.cell? ⟨b,o+j*3+1,none⟩=some (.int .i64 lo)) (c2:w.cell? ⟨b,o+j*3+2,none⟩=some cv) (hr:Qn ar lo=false) :
  Calls Tryd.prog 44 #[.slice (some ⟨b,o,none⟩) n cap,.int .i64 fi,.agg #[.int .i64 13,.int .i64 j]] w fun e w'=>e=.returned (.int .i64 3)∧Zb w w':=by
 have hk:inB 13 0 16=true:=rfl
 have hb:inB j 0 ((n:Int) - 1)=true:=Wl (by omega) (by omega)
 have d0:=((Zb.refl w).alloc (.cells #[.int .i64 13,.int .i64 j] 86)).cell c0
 have d1:=((Zb.refl w).alloc (.cells #[.int .i64 13,.int .i64 j] 86)).cell c1
 have d2:=((Zb.refl w).alloc (.cells #[.int .i64 13,.int .i64 j] 86)).cell c2
 have d3:=(((Zb.refl w).alloc (.cells #[.int .i64 13,.int .i64 j] 86)).alloc (.cells #[.int .i64 ar,.int .i64 lo,cv] 58)).cell c0
 clear c0 c1 c2
 go_enter Tryd.func44,Tryd.ntmps44
 go_wp2_with (first | (go_at_call 15;refine (Xm _ _ _ _).mono ?_;rintro e w' ⟨rfl,rfl⟩) | (go_at_call 43;refine (Zbh _ _ _ _).mono ?_;rintro e w' ⟨rfl,rfl⟩))
 go_ret
 exact ⟨rfl,((Zb.refl _).alloc _).alloc _⟩
theorem Zxt (fi:Int) (j b o n cap:Nat) (ar lo:Int) (cv:Value) (w:World) (hn:n≤8796093022208) (hj:j<n) (c0:w.cell? ⟨b,o+j*3,none⟩=some (.int .i64 ar)) (c1:w.cell? ⟨b,o+j*3+1,none⟩=some (.int .i64 lo)) (c2:w.cell? ⟨b,o+j*3+2,none⟩=some cv) (hr:Qn ar lo=true) (hne:(ar != 1)=true) :
  Calls Tryd.prog 44 #[.slice (some ⟨b,o,none⟩) n cap,.int .i64 fi,.agg #[.int .i64 13,.int .i64 j]] w fun e w'=>e=.returned (.int .i64 1)∧Zb w w':=by
 have hk:inB 13 0 16=true:=rfl
 have hb:inB j 0 ((n:Int) - 1)=true:=Wl (by omega) (by omega)
 have d0:=((Zb.refl w).alloc (.cells #[.int .i64 13,.int .i64 j] 86)).cell c0
 have d1:=((Zb.refl w).alloc (.cells #[.int .i64 13,.int .i64 j] 86)).cell c1
 have d2:=((Zb.refl w).alloc (.cells #[.int .i64 13,.int .i64 j] 86)).cell c2
 have d3:=(((Zb.refl w).alloc (.cells #[.int .i64 13,.int .i64 j] 86)).alloc (.cells #[.int .i64 ar,.int .i64 lo,cv] 58)).cell c0
 clear c0 c1 c2
 go_enter Tryd.func44,Tryd.ntmps44
 go_wp2_with (first | (go_at_call 15;refine (Xm _ _ _ _).mono ?_;rintro e w' ⟨rfl,rfl⟩) | (go_at_call 43;refine (Zbh _ _ _ _).mono ?_;rintro e w' ⟨rfl,rfl⟩))
 go_ret
 exact ⟨rfl,((Zb.refl _).alloc _).alloc _⟩
theorem Zrd (fi:Int) (j b o n cap:Nat) (ar lo:Int) (cv:Value) (w:World) (hn:n≤8796093022208) (hj:j<n) (c0:w.cell? ⟨b,o+j*3,none⟩=some (.int .i64 ar)) (c1:w.cell? ⟨b,o+j*3+1,none⟩=some (.int .i64 lo)) (c2:w.cell? ⟨b,o+j*3+2,none⟩=some cv) (hr:Qn ar lo=true) (hne:(ar != 1)=false) :
  Calls Tryd.prog 44 #[.slice (some ⟨b,o,none⟩) n cap,.int .i64 fi,.agg #[.int .i64 13,.int .i64 j]] w fun e w'=>e=.returned (.int .i64 0)∧Zb w w':=by
 have hk:inB 13 0 16=true:=rfl
 have hb:inB j 0 ((n:Int) - 1)=true:=Wl (by omega) (by omega)
 have d0:=((Zb.refl w).alloc (.cells #[.int .i64 13,.int .i64 j] 86)).cell c0
 have d1:=((Zb.refl w).alloc (.cells #[.int .i64 13,.int .i64 j] 86)).cell c1
 have d2:=((Zb.refl w).alloc (.cells #[.int .i64 13,.int .i64 j] 86)).cell c2
 have d3:=(((Zb.refl w).alloc (.cells #[.int .i64 13,.int .i64 j] 86)).alloc (.cells #[.int .i64 ar,.int .i64 lo,cv] 58)).cell c0
 clear c0 c1 c2
 go_enter Tryd.func44,Tryd.ntmps44
 go_wp2_with (first | (go_at_call 15;refine (Xm _ _ _ _).mono ?_;rintro e w' ⟨rfl,rfl⟩) | (go_at_call 43;refine (Zbh _ _ _ _).mono ?_;rintro e w' ⟨rfl,rfl⟩))
 go_ret
 exact ⟨rfl,((Zb.refl _).alloc _).alloc _⟩
end Go.Proofs.YtblihfpigjiahaaDoor
