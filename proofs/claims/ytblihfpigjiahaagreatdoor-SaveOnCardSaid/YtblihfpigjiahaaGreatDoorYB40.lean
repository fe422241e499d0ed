/- OpI -/
import Derived.Test.YtblihfpigjiahaaGreatDoorYB29
import Derived.Test.YtblihfpigjiahaaGreatDoorYB01
import Derived.Test.YtblihfpigjiahaaGreatDoorYB08
set_option maxRecDepth 100000
set_option maxHeartbeats 8000000
namespace Go.Proofs.YtblihfpigjiahaaGreatDoor
open Go.RowKit
theorem Zby (a l:Int) (c:Value) (w:World) :
  Calls Tryz.prog 83 #[.agg #[.int .i64 a,.int .i64 l,c]] w fun e w'=>e=.returned (.bool (!Qh a l))∧w'=w.alloc (.cells #[.int .i64 a,.int .i64 l,c] 70):=by
 by_cases h1:0≤a
 ·by_cases h2:a≤l
  ·by_cases h3:l≤4
   ·rw [show Qh a l=true from by rw [Wz];exact ⟨h1,h2,h3⟩]
    have g1:decide (a<0)=false:=by simpa using h1
    have g2:decide (l<a)=false:=by simpa using h2
    have g3:decide (4<l)=false:=by simpa using h3
    go_enter Tryz.func83,Tryz.ntmps83
    go_wp2
    go_ret
    exact ⟨rfl,rfl⟩
   ·rw [show Qh a l=false from by rw [← Bool.not_eq_true,Wz];omega]
    go_enter Tryz.func83,Tryz.ntmps83
    go_wp2
    go_ret
    exact ⟨rfl,rfl⟩
  ·rw [show Qh a l=false from by rw [← Bool.not_eq_true,Wz];omega]
   go_enter Tryz.func83,Tryz.ntmps83
   go_wp2
   go_ret
   exact ⟨rfl,rfl⟩
 ·rw [show Qh a l=false from by rw [← Bool.not_eq_true,Wz];omega]
  go_enter Tryz.func83,Tryz.ntmps83
  go_wp2
  go_ret
  exact ⟨rfl,rfl⟩
theorem Zqj (kd a fi:Int) (v:Value) (w:World) (hb:inB kd 0 16=false) (h0:(kd == 0)=false) (h2:(kd == 2)=false) (h3:(kd == 3)=false) (h9:(kd == 9)=false) (h10:(kd == 10)=false) (h11:(kd == 11)=false) (h13:(kd == 13)=false) :
  Calls Tryz.prog 84 #[v,.int .i64 fi,.agg #[.int .i64 kd,.int .i64 a]] w fun e w'=>e=.returned (.int .i64 4)∧Za w w':=by
 go_enter Tryz.func84,Tryz.ntmps84
 go_wp2_with (go_at_call 30;refine (Xl _ _ _ _).mono ?_;rintro e w' ⟨rfl,rfl⟩)
 go_ret
 exact ⟨rfl,(Za.refl _).alloc _⟩
theorem Zwq (a:Int) (fi:Int) (v:Value) (w:World) (hb:inB a 0 999=false) :
  Calls Tryz.prog 84 #[v,.int .i64 fi,.agg #[.int .i64 0,.int .i64 a]] w fun e w'=>e=.returned (.int .i64 3)∧Za w w':=by
 have hk:inB 0 0 16=true:=rfl
 go_enter Tryz.func84,Tryz.ntmps84
 go_wp2_with (go_at_call 30;refine (Xl _ _ _ _).mono ?_;rintro e w' ⟨rfl,rfl⟩)
 go_ret
 exact ⟨rfl,(Za.refl _).alloc _⟩
theorem Zrs (a:Int) (fi:Int) (v:Value) (w:World) (hb:inB a 0 999=true) :
  Calls Tryz.prog 84 #[v,.int .i64 fi,.agg #[.int .i64 0,.int .i64 a]] w fun e w'=>e=.returned (.int .i64 0)∧Za w w':=by
 have hk:inB 0 0 16=true:=rfl
 go_enter Tryz.func84,Tryz.ntmps84
 go_wp2_with (go_at_call 30;refine (Xl _ _ _ _).mono ?_;rintro e w' ⟨rfl,rfl⟩)
 go_ret
 exact ⟨rfl,(Za.refl _).alloc _⟩
theorem Zzi (a:Int) (fi:Int) (v:Value) (w:World) (hb:inB a 0 0=false) :
  Calls Tryz.prog 84 #[v,.int .i64 fi,.agg #[.int .i64 1,.int .i64 a]] w fun e w'=>e=.returned (.int .i64 3)∧Za w w':=by
 have hk:inB 1 0 16=true:=rfl
 go_enter Tryz.func84,Tryz.ntmps84
 go_wp2_with (go_at_call 30;refine (Xl _ _ _ _).mono ?_;rintro e w' ⟨rfl,rfl⟩)
 go_ret
 exact ⟨rfl,(Za.refl _).alloc _⟩
theorem Zva (a:Int) (fi:Int) (v:Value) (w:World) (hb:inB a 0 0=true) :
  Calls Tryz.prog 84 #[v,.int .i64 fi,.agg #[.int .i64 1,.int .i64 a]] w fun e w'=>e=.returned (.int .i64 0)∧Za w w':=by
 have hk:inB 1 0 16=true:=rfl
 go_enter Tryz.func84,Tryz.ntmps84
 go_wp2_with (go_at_call 30;refine (Xl _ _ _ _).mono ?_;rintro e w' ⟨rfl,rfl⟩)
 go_ret
 exact ⟨rfl,(Za.refl _).alloc _⟩
theorem Zrz (a:Int) (i b o n cap:Nat) (lo:Int) (w:World) (hi:i<n) (hlo:0≤lo) (hl4:lo≤4) (c1:w.cell? ⟨b,o+i*3+1,none⟩=some (.int .i64 lo)) (hb:inB a 0 (lo - 1)=false) :
  Calls Tryz.prog 84 #[.slice (some ⟨b,o,none⟩) n cap,.int .i64 i,.agg #[.int .i64 2,.int .i64 a]] w fun e w'=>e=.returned (.int .i64 3)∧Za w w':=by
 have hk:inB 2 0 16=true:=rfl
 have d1:=((Za.refl w).alloc (.cells #[.int .i64 2,.int .i64 a] 66)).cell c1
 clear c1
 go_enter Tryz.func84,Tryz.ntmps84
 go_wp2_with (go_at_call 30;refine (Xl _ _ _ _).mono ?_;rintro e w' ⟨rfl,rfl⟩)
 go_ret
 exact ⟨rfl,(Za.refl _).alloc _⟩
theorem Zwv (a:Int) (i b o n cap:Nat) (lo:Int) (w:World) (hi:i<n) (hlo:0≤lo) (hl4:lo≤4) (c1:w.cell? ⟨b,o+i*3+1,none⟩=some (.int .i64 lo)) (hb:inB a 0 (lo - 1)=true) :
  Calls Tryz.prog 84 #[.slice (some ⟨b,o,none⟩) n cap,.int .i64 i,.agg #[.int .i64 2,.int .i64 a]] w fun e w'=>e=.returned (.int .i64 0)∧Za w w':=by
 have hk:inB 2 0 16=true:=rfl
 have d1:=((Za.refl w).alloc (.cells #[.int .i64 2,.int .i64 a] 66)).cell c1
 clear c1
 go_enter Tryz.func84,Tryz.ntmps84
 go_wp2_with (go_at_call 30;refine (Xl _ _ _ _).mono ?_;rintro e w' ⟨rfl,rfl⟩)
 go_ret
 exact ⟨rfl,(Za.refl _).alloc _⟩
theorem Zps (a:Int) (i b o n cap:Nat) (lo:Int) (w:World) (hi:i<n) (hlo:0≤lo) (hl4:lo≤4) (c1:w.cell? ⟨b,o+i*3+1,none⟩=some (.int .i64 lo)) (hb:inB a 0 (lo - 1)=false) :
  Calls Tryz.prog 84 #[.slice (some ⟨b,o,none⟩) n cap,.int .i64 i,.agg #[.int .i64 3,.int .i64 a]] w fun e w'=>e=.returned (.int .i64 3)∧Za w w':=by
 have hk:inB 3 0 16=true:=rfl
 have d1:=((Za.refl w).alloc (.cells #[.int .i64 3,.int .i64 a] 66)).cell c1
 clear c1
 go_enter Tryz.func84,Tryz.ntmps84
 go_wp2_with (go_at_call 30;refine (Xl _ _ _ _).mono ?_;rintro e w' ⟨rfl,rfl⟩)
 go_ret
 exact ⟨rfl,(Za.refl _).alloc _⟩
theorem Xab (a:Int) (i b o n cap:Nat) (lo:Int) (w:World) (hi:i<n) (hlo:0≤lo) (hl4:lo≤4) (c1:w.cell? ⟨b,o+i*3+1,none⟩=some (.int .i64 lo)) (hb:inB a 0 (lo - 1)=true) :
  Calls Tryz.prog 84 #[.slice (some ⟨b,o,none⟩) n cap,.int .i64 i,.agg #[.int .i64 3,.int .i64 a]] w fun e w'=>e=.returned (.int .i64 0)∧Za w w':=by
 have hk:inB 3 0 16=true:=rfl
 have d1:=((Za.refl w).alloc (.cells #[.int .i64 3,.int .i64 a] 66)).cell c1
 clear c1
 go_enter Tryz.func84,Tryz.ntmps84
 go_wp2_with (go_at_call 30;refine (Xl _ _ _ _).mono ?_;rintro e w' ⟨rfl,rfl⟩)
 go_ret
 exact ⟨rfl,(Za.refl _).alloc _⟩
theorem Zvj (a:Int) (fi:Int) (v:Value) (w:World) (hb:inB a 0 0=false) :
  Calls Tryz.prog 84 #[v,.int .i64 fi,.agg #[.int .i64 4,.int .i64 a]] w fun e w'=>e=.returned (.int .i64 3)∧Za w w':=by
 have hk:inB 4 0 16=true:=rfl
 go_enter Tryz.func84,Tryz.ntmps84
 go_wp2_with (go_at_call 30;refine (Xl _ _ _ _).mono ?_;rintro e w' ⟨rfl,rfl⟩)
 go_ret
 exact ⟨rfl,(Za.refl _).alloc _⟩
theorem Zyl (a:Int) (fi:Int) (v:Value) (w:World) (hb:inB a 0 0=true) :
  Calls Tryz.prog 84 #[v,.int .i64 fi,.agg #[.int .i64 4,.int .i64 a]] w fun e w'=>e=.returned (.int .i64 0)∧Za w w':=by
 have hk:inB 4 0 16=true:=rfl
 go_enter Tryz.func84,Tryz.ntmps84
 go_wp2_with (go_at_call 30;refine (Xl _ _ _ _).mono ?_;rintro e w' ⟨rfl,rfl⟩)
 go_ret
 exact ⟨rfl,(Za.refl _).alloc _⟩
theorem Xbs (a:Int) (fi:Int) (v:Value) (w:World) (hb:inB a 0 0=false) :
  Calls Tryz.prog 84 #[v,.int .i64 fi,.agg #[.int .i64 5,.int .i64 a]] w fun e w'=>e=.returned (.int .i64 3)∧Za w w':=by
 have hk:inB 5 0 16=true:=rfl
 go_enter Tryz.func84,Tryz.ntmps84
 go_wp2_with (go_at_call 30;refine (Xl _ _ _ _).mono ?_;rintro e w' ⟨rfl,rfl⟩)
 go_ret
 exact ⟨rfl,(Za.refl _).alloc _⟩
theorem Zsx (a:Int) (fi:Int) (v:Value) (w:World) (hb:inB a 0 0=true) :
  Calls Tryz.prog 84 #[v,.int .i64 fi,.agg #[.int .i64 5,.int .i64 a]] w fun e w'=>e=.returned (.int .i64 0)∧Za w w':=by
 have hk:inB 5 0 16=true:=rfl
 go_enter Tryz.func84,Tryz.ntmps84
 go_wp2_with (go_at_call 30;refine (Xl _ _ _ _).mono ?_;rintro e w' ⟨rfl,rfl⟩)
 go_ret
 exact ⟨rfl,(Za.refl _).alloc _⟩
theorem Zwy (a:Int) (fi:Int) (v:Value) (w:World) (hb:inB a 0 0=false) :
  Calls Tryz.prog 84 #[v,.int .i64 fi,.agg #[.int .i64 6,.int .i64 a]] w fun e w'=>e=.returned (.int .i64 3)∧Za w w':=by
 have hk:inB 6 0 16=true:=rfl
 go_enter Tryz.func84,Tryz.ntmps84
 go_wp2_with (go_at_call 30;refine (Xl _ _ _ _).mono ?_;rintro e w' ⟨rfl,rfl⟩)
 go_ret
 exact ⟨rfl,(Za.refl _).alloc _⟩
theorem Zrf (a:Int) (fi:Int) (v:Value) (w:World) (hb:inB a 0 0=true) :
  Calls Tryz.prog 84 #[v,.int .i64 fi,.agg #[.int .i64 6,.int .i64 a]] w fun e w'=>e=.returned (.int .i64 0)∧Za w w':=by
 have hk:inB 6 0 16=true:=rfl
 go_enter Tryz.func84,Tryz.ntmps84
 go_wp2_with (go_at_call 30;refine (Xl _ _ _ _).mono ?_;rintro e w' ⟨rfl,rfl⟩)
 go_ret
 exact ⟨rfl,(Za.refl _).alloc _⟩
theorem Zsv (a:Int) (fi:Int) (v:Value) (w:World) (hb:inB a 0 0=false) :
  Calls Tryz.prog 84 #[v,.int .i64 fi,.agg #[.int .i64 7,.int .i64 a]] w fun e w'=>e=.returned (.int .i64 3)∧Za w w':=by
 have hk:inB 7 0 16=true:=rfl
 go_enter Tryz.func84,Tryz.ntmps84
 go_wp2_with (go_at_call 30;refine (Xl _ _ _ _).mono ?_;rintro e w' ⟨rfl,rfl⟩)
 go_ret
 exact ⟨rfl,(Za.refl _).alloc _⟩
theorem Zxv (a:Int) (fi:Int) (v:Value) (w:World) (hb:inB a 0 0=true) :
  Calls Tryz.prog 84 #[v,.int .i64 fi,.agg #[.int .i64 7,.int .i64 a]] w fun e w'=>e=.returned (.int .i64 0)∧Za w w':=by
 have hk:inB 7 0 16=true:=rfl
 go_enter Tryz.func84,Tryz.ntmps84
 go_wp2_with (go_at_call 30;refine (Xl _ _ _ _).mono ?_;rintro e w' ⟨rfl,rfl⟩)
 go_ret
 exact ⟨rfl,(Za.refl _).alloc _⟩
theorem Zqr (a:Int) (fi:Int) (v:Value) (w:World) (hb:inB a 0 0=false) :
  Calls Tryz.prog 84 #[v,.int .i64 fi,.agg #[.int .i64 8,.int .i64 a]] w fun e w'=>e=.returned (.int .i64 3)∧Za w w':=by
 have hk:inB 8 0 16=true:=rfl
 go_enter Tryz.func84,Tryz.ntmps84
 go_wp2_with (go_at_call 30;refine (Xl _ _ _ _).mono ?_;rintro e w' ⟨rfl,rfl⟩)
 go_ret
 exact ⟨rfl,(Za.refl _).alloc _⟩
theorem Xdr (a:Int) (fi:Int) (v:Value) (w:World) (hb:inB a 0 0=true) :
  Calls Tryz.prog 84 #[v,.int .i64 fi,.agg #[.int .i64 8,.int .i64 a]] w fun e w'=>e=.returned (.int .i64 0)∧Za w w':=by
 have hk:inB 8 0 16=true:=rfl
 go_enter Tryz.func84,Tryz.ntmps84
 go_wp2_with (go_at_call 30;refine (Xl _ _ _ _).mono ?_;rintro e w' ⟨rfl,rfl⟩)
 go_ret
 exact ⟨rfl,(Za.refl _).alloc _⟩
theorem Zxh (a:Int) (i b o n cap:Nat) (oc:Option Addr) (m cc:Nat) (w:World) (hi:i<n) (hm:m≤8796093022208) (c2:w.cell? ⟨b,o+i*3+2,none⟩=some (.slice oc m cc)) (hb:inB a 0 ((m:Int) - 1)=false) :
  Calls Tryz.prog 84 #[.slice (some ⟨b,o,none⟩) n cap,.int .i64 i,.agg #[.int .i64 9,.int .i64 a]] w fun e w'=>e=.returned (.int .i64 3)∧Za w w':=by
 have hk:inB 9 0 16=true:=rfl
 have d2:=((Za.refl w).alloc (.cells #[.int .i64 9,.int .i64 a] 66)).cell c2
 clear c2
 go_enter Tryz.func84,Tryz.ntmps84
 go_wp2_with (go_at_call 30;refine (Xl _ _ _ _).mono ?_;rintro e w' ⟨rfl,rfl⟩)
 go_ret
 exact ⟨rfl,(Za.refl _).alloc _⟩
theorem Zry (a:Int) (i b o n cap:Nat) (oc:Option Addr) (m cc:Nat) (w:World) (hi:i<n) (hm:m≤8796093022208) (c2:w.cell? ⟨b,o+i*3+2,none⟩=some (.slice oc m cc)) (hb:inB a 0 ((m:Int) - 1)=true) :
  Calls Tryz.prog 84 #[.slice (some ⟨b,o,none⟩) n cap,.int .i64 i,.agg #[.int .i64 9,.int .i64 a]] w fun e w'=>e=.returned (.int .i64 0)∧Za w w':=by
 have hk:inB 9 0 16=true:=rfl
 have d2:=((Za.refl w).alloc (.cells #[.int .i64 9,.int .i64 a] 66)).cell c2
 clear c2
 go_enter Tryz.func84,Tryz.ntmps84
 go_wp2_with (go_at_call 30;refine (Xl _ _ _ _).mono ?_;rintro e w' ⟨rfl,rfl⟩)
 go_ret
 exact ⟨rfl,(Za.refl _).alloc _⟩
theorem Zzx (a:Int) (i b o n cap:Nat) (oc:Option Addr) (m cc:Nat) (w:World) (hi:i<n) (hm:m≤8796093022208) (c2:w.cell? ⟨b,o+i*3+2,none⟩=some (.slice oc m cc)) (hb:inB a 0 ((m:Int) - 1)=false) :
  Calls Tryz.prog 84 #[.slice (some ⟨b,o,none⟩) n cap,.int .i64 i,.agg #[.int .i64 10,.int .i64 a]] w fun e w'=>e=.returned (.int .i64 3)∧Za w w':=by
 have hk:inB 10 0 16=true:=rfl
 have d2:=((Za.refl w).alloc (.cells #[.int .i64 10,.int .i64 a] 66)).cell c2
 clear c2
 go_enter Tryz.func84,Tryz.ntmps84
 go_wp2_with (go_at_call 30;refine (Xl _ _ _ _).mono ?_;rintro e w' ⟨rfl,rfl⟩)
 go_ret
 exact ⟨rfl,(Za.refl _).alloc _⟩
theorem Zse (a:Int) (i b o n cap:Nat) (oc:Option Addr) (m cc:Nat) (w:World) (hi:i<n) (hm:m≤8796093022208) (c2:w.cell? ⟨b,o+i*3+2,none⟩=some (.slice oc m cc)) (hb:inB a 0 ((m:Int) - 1)=true) :
  Calls Tryz.prog 84 #[.slice (some ⟨b,o,none⟩) n cap,.int .i64 i,.agg #[.int .i64 10,.int .i64 a]] w fun e w'=>e=.returned (.int .i64 0)∧Za w w':=by
 have hk:inB 10 0 16=true:=rfl
 have d2:=((Za.refl w).alloc (.cells #[.int .i64 10,.int .i64 a] 66)).cell c2
 clear c2
 go_enter Tryz.func84,Tryz.ntmps84
 go_wp2_with (go_at_call 30;refine (Xl _ _ _ _).mono ?_;rintro e w' ⟨rfl,rfl⟩)
 go_ret
 exact ⟨rfl,(Za.refl _).alloc _⟩
theorem Zxq (a:Int) (fi:Int) (v:Value) (w:World) (hb:inB a 0 0=false) :
  Calls Tryz.prog 84 #[v,.int .i64 fi,.agg #[.int .i64 12,.int .i64 a]] w fun e w'=>e=.returned (.int .i64 3)∧Za w w':=by
 have hk:inB 12 0 16=true:=rfl
 go_enter Tryz.func84,Tryz.ntmps84
 go_wp2_with (go_at_call 30;refine (Xl _ _ _ _).mono ?_;rintro e w' ⟨rfl,rfl⟩)
 go_ret
 exact ⟨rfl,(Za.refl _).alloc _⟩
theorem Zxc (a:Int) (fi:Int) (v:Value) (w:World) (hb:inB a 0 0=true) :
  Calls Tryz.prog 84 #[v,.int .i64 fi,.agg #[.int .i64 12,.int .i64 a]] w fun e w'=>e=.returned (.int .i64 0)∧Za w w':=by
 have hk:inB 12 0 16=true:=rfl
 go_enter Tryz.func84,Tryz.ntmps84
 go_wp2_with (go_at_call 30;refine (Xl _ _ _ _).mono ?_;rintro e w' ⟨rfl,rfl⟩)
 go_ret
 exact ⟨rfl,(Za.refl _).alloc _⟩
theorem Zvn (a:Int) (fi:Int) (v:Value) (w:World) (hb:inB a 0 0=false) :
  Calls Tryz.prog 84 #[v,.int .i64 fi,.agg #[.int .i64 14,.int .i64 a]] w fun e w'=>e=.returned (.int .i64 3)∧Za w w':=by
 have hk:inB 14 0 16=true:=rfl
 go_enter Tryz.func84,Tryz.ntmps84
 go_wp2_with (go_at_call 30;refine (Xl _ _ _ _).mono ?_;rintro e w' ⟨rfl,rfl⟩)
 go_ret
 exact ⟨rfl,(Za.refl _).alloc _⟩
theorem Xaf (a:Int) (fi:Int) (v:Value) (w:World) (hb:inB a 0 0=true) :
  Calls Tryz.prog 84 #[v,.int .i64 fi,.agg #[.int .i64 14,.int .i64 a]] w fun e w'=>e=.returned (.int .i64 0)∧Za w w':=by
 have hk:inB 14 0 16=true:=rfl
 go_enter Tryz.func84,Tryz.ntmps84
 go_wp2_with (go_at_call 30;refine (Xl _ _ _ _).mono ?_;rintro e w' ⟨rfl,rfl⟩)
 go_ret
 exact ⟨rfl,(Za.refl _).alloc _⟩
theorem Xci (a:Int) (fi:Int) (v:Value) (w:World) (hb:inB a 0 0=false) :
  Calls Tryz.prog 84 #[v,.int .i64 fi,.agg #[.int .i64 15,.int .i64 a]] w fun e w'=>e=.returned (.int .i64 3)∧Za w w':=by
 have hk:inB 15 0 16=true:=rfl
 go_enter Tryz.func84,Tryz.ntmps84
 go_wp2_with (go_at_call 30;refine (Xl _ _ _ _).mono ?_;rintro e w' ⟨rfl,rfl⟩)
 go_ret
 exact ⟨rfl,(Za.refl _).alloc _⟩
theorem Xac (a:Int) (fi:Int) (v:Value) (w:World) (hb:inB a 0 0=true) :
  Calls Tryz.prog 84 #[v,.int .i64 fi,.agg #[.int .i64 15,.int .i64 a]] w fun e w'=>e=.returned (.int .i64 0)∧Za w w':=by
 have hk:inB 15 0 16=true:=rfl
 go_enter Tryz.func84,Tryz.ntmps84
 go_wp2_with (go_at_call 30;refine (Xl _ _ _ _).mono ?_;rintro e w' ⟨rfl,rfl⟩)
 go_ret
 exact ⟨rfl,(Za.refl _).alloc _⟩
theorem Xaq (a:Int) (fi:Int) (v:Value) (w:World) (hb:inB a 0 0=false) :
  Calls Tryz.prog 84 #[v,.int .i64 fi,.agg #[.int .i64 16,.int .i64 a]] w fun e w'=>e=.returned (.int .i64 3)∧Za w w':=by
 have hk:inB 16 0 16=true:=rfl
 go_enter Tryz.func84,Tryz.ntmps84
 go_wp2_with (go_at_call 30;refine (Xl _ _ _ _).mono ?_;rintro e w' ⟨rfl,rfl⟩)
 go_ret
 exact ⟨rfl,(Za.refl _).alloc _⟩
theorem Zyg (a:Int) (fi:Int) (v:Value) (w:World) (hb:inB a 0 0=true) :
  Calls Tryz.prog 84 #[v,.int .i64 fi,.agg #[.int .i64 16,.int .i64 a]] w fun e w'=>e=.returned (.int .i64 0)∧Za w w':=by
 have hk:inB 16 0 16=true:=rfl
 go_enter Tryz.func84,Tryz.ntmps84
 go_wp2_with (go_at_call 30;refine (Xl _ _ _ _).mono ?_;rintro e w' ⟨rfl,rfl⟩)
 go_ret
 exact ⟨rfl,(Za.refl _).alloc _⟩
theorem Zxi (a fi:Int) (oa:Option Addr) (n cap:Nat) (w:World) (hn:n≤8796093022208) (hb:inB a 0 ((n:Int) - 1)=false) :
  Calls Tryz.prog 84 #[.slice oa n cap,.int .i64 fi,.agg #[.int .i64 11,.int .i64 a]] w fun e w'=>e=.returned (.int .i64 3)∧Za w w':=by
 have hk:inB 11 0 16=true:=rfl
 go_enter Tryz.func84,Tryz.ntmps84
 go_wp2_with (go_at_call 30;refine (Xl _ _ _ _).mono ?_;rintro e w' ⟨rfl,rfl⟩)
 go_ret
 exact ⟨rfl,(Za.refl _).alloc _⟩
theorem Zqv (fi:Int) (j b o n cap:Nat) (ar lo:Int) (cv:Value) (w:World) (hn:n≤8796093022208) (hj:j<n) (c0:w.cell? ⟨b,o+j*3,none⟩=some (.int .i64 ar)) (c1:w.cell? ⟨b,o+j*3+1,none⟩=some (.int .i64 lo)) (c2:w.cell? ⟨b,o+j*3+2,none⟩=some cv) (hr:Qh ar lo=false) :
  Calls Tryz.prog 84 #[.slice (some ⟨b,o,none⟩) n cap,.int .i64 fi,.agg #[.int .i64 11,.int .i64 j]] w fun e w'=>e=.returned (.int .i64 3)∧Za w w':=by
 have hk:inB 11 0 16=true:=rfl
 have hb:inB j 0 ((n:Int) - 1)=true:=Yu (by omega) (by omega)
 have d0:=((Za.refl w).alloc (.cells #[.int .i64 11,.int .i64 j] 66)).cell c0
 have d1:=((Za.refl w).alloc (.cells #[.int .i64 11,.int .i64 j] 66)).cell c1
 have d2:=((Za.refl w).alloc (.cells #[.int .i64 11,.int .i64 j] 66)).cell c2
 have d3:=(((Za.refl w).alloc (.cells #[.int .i64 11,.int .i64 j] 66)).alloc (.cells #[.int .i64 ar,.int .i64 lo,cv] 70)).cell c0
 clear c0 c1 c2
 go_enter Tryz.func84,Tryz.ntmps84
 go_wp2_with (first | (go_at_call 30;refine (Xl _ _ _ _).mono ?_;rintro e w' ⟨rfl,rfl⟩) | (go_at_call 83;refine (Zby _ _ _ _).mono ?_;rintro e w' ⟨rfl,rfl⟩))
 go_ret
 exact ⟨rfl,((Za.refl _).alloc _).alloc _⟩
theorem Xcj (fi:Int) (j b o n cap:Nat) (ar lo:Int) (cv:Value) (w:World) (hn:n≤8796093022208) (hj:j<n) (c0:w.cell? ⟨b,o+j*3,none⟩=some (.int .i64 ar)) (c1:w.cell? ⟨b,o+j*3+1,none⟩=some (.int .i64 lo)) (c2:w.cell? ⟨b,o+j*3+2,none⟩=some cv) (hr:Qh ar lo=true) :
  Calls Tryz.prog 84 #[.slice (some ⟨b,o,none⟩) n cap,.int .i64 fi,.agg #[.int .i64 11,.int .i64 j]] w fun e w'=>e=.returned (.int .i64 0)∧Za w w':=by
 have hk:inB 11 0 16=true:=rfl
 have hb:inB j 0 ((n:Int) - 1)=true:=Yu (by omega) (by omega)
 have d0:=((Za.refl w).alloc (.cells #[.int .i64 11,.int .i64 j] 66)).cell c0
 have d1:=((Za.refl w).alloc (.cells #[.int .i64 11,.int .i64 j] 66)).cell c1
 have d2:=((Za.refl w).alloc (.cells #[.int .i64 11,.int .i64 j] 66)).cell c2
 have d3:=(((Za.refl w).alloc (.cells #[.int .i64 11,.int .i64 j] 66)).alloc (.cells #[.int .i64 ar,.int .i64 lo,cv] 70)).cell c0
 clear c0 c1 c2
 go_enter Tryz.func84,Tryz.ntmps84
 go_wp2_with (first | (go_at_call 30;refine (Xl _ _ _ _).mono ?_;rintro e w' ⟨rfl,rfl⟩) | (go_at_call 83;refine (Zby _ _ _ _).mono ?_;rintro e w' ⟨rfl,rfl⟩))
 go_ret
 exact ⟨rfl,((Za.refl _).alloc _).alloc _⟩
theorem Xbw (a fi:Int) (oa:Option Addr) (n cap:Nat) (w:World) (hn:n≤8796093022208) (hb:inB a 0 ((n:Int) - 1)=false) :
  Calls Tryz.prog 84 #[.slice oa n cap,.int .i64 fi,.agg #[.int .i64 13,.int .i64 a]] w fun e w'=>e=.returned (.int .i64 3)∧Za w w':=by
 have hk:inB 13 0 16=true:=rfl
 go_enter Tryz.func84,Tryz.ntmps84
 go_wp2_with (go_at_call 30;refine (Xl _ _ _ _).mono ?_;rintro e w' ⟨rfl,rfl⟩)
 go_ret
 exact ⟨rfl,(Za.refl _).alloc _⟩
theorem Ztu (fi:Int) (j b o n cap:Nat) (ar lo:Int) (cv:Value) (w:World) (hn:n≤8796093022208) (hj:j<n) (c0:w.cell? ⟨b,o+j*3,none⟩=some (.int .i64 ar)) (c1:w.cell? ⟨b,o+j*3+1,none⟩=some (.int .i64 lo)) (c2:w.cell? ⟨b,o+j*3+2,none⟩=some cv) (hr:Qh ar lo=false) :
  Calls Tryz.prog 84 #[.slice (some ⟨b,o,none⟩) n cap,.int .i64 fi,.agg #[.int .i64 13,.int .i64 j]] w fun e w'=>e=.returned (.int .i64 3)∧Za w w':=by
 have hk:inB 13 0 16=true:=rfl
 have hb:inB j 0 ((n:Int) - 1)=true:=Yu (by omega) (by omega)
 have d0:=((Za.refl w).alloc (.cells #[.int .i64 13,.int .i64 j] 66)).cell c0
 have d1:=((Za.refl w).alloc (.cells #[.int .i64 13,.int .i64 j] 66)).cell c1
 have d2:=((Za.refl w).alloc (.cells #[.int .i64 13,.int .i64 j] 66)).cell c2
 have d3:=(((Za.refl w).alloc (.cells #[.int .i64 13,.int .i64 j] 66)).alloc (.cells #[.int .i64 ar,.int .i64 lo,cv] 70)).cell c0
 clear c0 c1 c2
 go_enter Tryz.func84,Tryz.ntmps84
 go_wp2_with (first | (go_at_call 30;refine (Xl _ _ _ _).mono ?_;rintro e w' ⟨rfl,rfl⟩) | (go_at_call 83;refine (Zby _ _ _ _).mono ?_;rintro e w' ⟨rfl,rfl⟩))
 go_ret
 exact ⟨rfl,((Za.refl _).alloc _).alloc _⟩
theorem Xbj (fi:Int) (j b o n cap:Nat) (ar lo:Int) (cv:Value) (w:World) (hn:n≤8796093022208) (hj:j<n) (c0:w.cell? ⟨b,o+j*3,none⟩=some (.int .i64 ar)) (c1:w.cell? ⟨b,o+j*3+1,none⟩=some (.int .i64 lo)) (c2:w.cell? ⟨b,o+j*3+2,none⟩=some cv) (hr:Qh ar lo=true) (hne:(ar != 1)=true) :
  Calls Tryz.prog 84 #[.slice (some ⟨b,o,none⟩) n cap,.int .i64 fi,.agg #[.int .i64 13,.int .i64 j]] w fun e w'=>e=.returned (.int .i64 1)∧Za w w':=by
 have hk:inB 13 0 16=true:=rfl
 have hb:inB j 0 ((n:Int) - 1)=true:=Yu (by omega) (by omega)
 have d0:=((Za.refl w).alloc (.cells #[.int .i64 13,.int .i64 j] 66)).cell c0
 have d1:=((Za.refl w).alloc (.cells #[.int .i64 13,.int .i64 j] 66)).cell c1
 have d2:=((Za.refl w).alloc (.cells #[.int .i64 13,.int .i64 j] 66)).cell c2
 have d3:=(((Za.refl w).alloc (.cells #[.int .i64 13,.int .i64 j] 66)).alloc (.cells #[.int .i64 ar,.int .i64 lo,cv] 70)).cell c0
 clear c0 c1 c2
 go_enter Tryz.func84,Tryz.ntmps84
 go_wp2_with (first | (go_at_call 30;refine (Xl _ _ _ _).mono ?_;rintro e w' ⟨rfl,rfl⟩) | (go_at_call 83;refine (Zby _ _ _ _).mono ?_;rintro e w' ⟨rfl,rfl⟩))
 go_ret
 exact ⟨rfl,((Za.refl _).alloc _).alloc _⟩
theorem Zyf (fi:Int) (j b o n cap:Nat) (ar lo:Int) (cv:Value) (w:World) (hn:n≤8796093022208) (hj:j<n) (c0:w.cell? ⟨b,o+j*3,none⟩=some (.int .i64 ar)) (c1:w.cell? ⟨b,o+j*3+1,none⟩=some (.int .i64 lo)) (c2:w.cell? ⟨b,o+j*3+2,none⟩=some cv) (hr:Qh ar lo=true) (hne:(ar != 1)=false) :
  Calls Tryz.prog 84 #[.slice (some ⟨b,o,none⟩) n cap,.int .i64 fi,.agg #[.int .i64 13,.int .i64 j]] w fun e w'=>e=.returned (.int .i64 0)∧Za w w':=by
 have hk:inB 13 0 16=true:=rfl
 have hb:inB j 0 ((n:Int) - 1)=true:=Yu (by omega) (by omega)
 have d0:=((Za.refl w).alloc (.cells #[.int .i64 13,.int .i64 j] 66)).cell c0
 have d1:=((Za.refl w).alloc (.cells #[.int .i64 13,.int .i64 j] 66)).cell c1
 have d2:=((Za.refl w).alloc (.cells #[.int .i64 13,.int .i64 j] 66)).cell c2
 have d3:=(((Za.refl w).alloc (.cells #[.int .i64 13,.int .i64 j] 66)).alloc (.cells #[.int .i64 ar,.int .i64 lo,cv] 70)).cell c0
 clear c0 c1 c2
 go_enter Tryz.func84,Tryz.ntmps84
 go_wp2_with (first | (go_at_call 30;refine (Xl _ _ _ _).mono ?_;rintro e w' ⟨rfl,rfl⟩) | (go_at_call 83;refine (Zby _ _ _ _).mono ?_;rintro e w' ⟨rfl,rfl⟩))
 go_ret
 exact ⟨rfl,((Za.refl _).alloc _).alloc _⟩
end Go.Proofs.YtblihfpigjiahaaGreatDoor
