/- StateBc -/
import Derived.Test.YtohlefnljgkdcabDoorST38
import Derived.Test.YtohlefnljgkdcabDoorST42
import Derived.Deep.DeepCutAuto
namespace Go.Proofs.YtohlefnljgkdcabDoor
open Go.RowKit
set_option maxRecDepth 100000 in
set_option maxHeartbeats 4000000 in
theorem stateBegun_any (w : World) (hk : KindsAt w) : Calls Tryd.prog 29 #[] w fun e w' => e = .returned (.bool true) ∧ Kept w w' := by
  have HK := hide hk
  clear hk
  go_enter Tryd.func29, Tryd.ntmps29
  go_wp2_with fail
  refine (count_any _).mono ?_
  rintro _ w1 ⟨v1, rfl, hc1, hk1⟩
  have HC := hide (stBegin_any cntL v1 w1 hc1.prog ((unhide HK).kept hk1))
  have H1 := hide hk1
  clear hc1 hk1
  go_wp2_with fail
  refine (unhide HC).mono ?_
  unfold BegPost
  rw [cnt_right, if_pos rfl]
  rintro _ w2 ⟨vb, rfl, hst2, hk2⟩
  obtain ⟨vf, vo, rfl, hF, hO⟩ := id hst2
  obtain ⟨oF, cF, rfl, _, _⟩ := hF
  obtain ⟨oO, cO, rfl, _, _⟩ := hO
  have H2 := hide ((unhide H1).trans hk2)
  go_upto_region 2 with fail
  generalize hw : w2.alloc (.cells #[.slice oF (beginS cntL).fibers.length cF, .int .i64 (beginS cntL).now, .slice oO (beginS cntL).out.length cO] 54) = w3
  have HA : Hid (StVar w3 w2.heap.size (beginS cntL)) := hide ⟨oF, cF, oO, cO, by rw [← hw]; exact lays_new rfl, by rw [← hw]; exact hst2.kept ((Kept.refl w2).alloc _)⟩
  have H3 : Hid (Kept w w3) := hide (by rw [← hw]; exact (unhide H2).alloc _)
  generalize w2.heap.size = B1 at HA ⊢
  clear hw hst2 hk2 H1 H2 HC
  go_wp2_with fail
  refine (count_any _).mono ?_
  rintro _ aX ⟨vX, rfl, hcX, hkX⟩
  have HCX := hide (afterCnt vX 6 aX hcX (by omega) cnt_6)
  have KX := hide ((unhide H3).trans hkX)
  have OX := hide hkX
  clear hcX hkX
  go_wp2_with fail
  refine (unhide HCX).mono ?_
  rintro _ bX ⟨VX, rfl, hoX, hkbX⟩
  obtain ⟨xsX, hrX, _⟩ := hoX.piece .fibers trivial
  obtain ⟨oFX, cFX, hVfX, _⟩ := row_slice hrX
  have hroX : _ := hoX.piece .out trivial
  obtain ⟨oOX, cOX, hVoX, _⟩ := row_slice hroX
  have hovX := own_stored hoX hkbX.size hVfX hVoX
  rw [hVfX, hVoX]
  go_upto_region 3 with fail
  have hkcX : Kept w3 (bX.alloc (.cells #[.slice oFX (cs 6).fibers.length cFX, .int .i64 (cs 6).now, .slice oOX (cs 6).out.length cOX] 54)) := ((unhide OX).trans hkbX).alloc _
  have hbsX : w3.heap.size ≤ bX.heap.size := Nat.le_trans (unhide OX).size hkbX.size
  have hNwX : w3.heap.size ≤ aX.heap.size := (unhide OX).size
  generalize bX.alloc (.cells #[.slice oFX (cs 6).fibers.length cFX, .int .i64 (cs 6).now, .slice oOX (cs 6).out.length cOX] 54) = cX at hovX hkcX ⊢
  generalize bX.heap.size = BX at hovX hbsX ⊢
  clear hoX hkbX hrX hroX hVfX hVoX HCX KX OX
  have VSX : Hid (StVar cX BX (cs 6)) := hide (hovX.read cs_small6)
  have H4 : Hid (Kept w cX) := hide ((unhide H3).trans (hkcX))
  have HA' := hide ((unhide HA).kept (hkcX))
  clear HA
  have HA := HA'
  clear HA'
  clear hovX hkcX hbsX hNwX H3
  go_wp2_with fail
  refine (count_any _).mono ?_
  rintro _ aY ⟨vY, rfl, hcY, hkY⟩
  have HCY := hide (afterCnt vY 6 aY hcY (by omega) cnt_6)
  have KY := hide ((unhide H4).trans hkY)
  have OY := hide hkY
  clear hcY hkY
  go_wp2_with fail
  refine (unhide HCY).mono ?_
  rintro _ bY ⟨VY, rfl, hoY, hkbY⟩
  obtain ⟨xsY, hrY, _⟩ := hoY.piece .fibers trivial
  obtain ⟨oFY, cFY, hVfY, _⟩ := row_slice hrY
  have hroY : _ := hoY.piece .out trivial
  obtain ⟨oOY, cOY, hVoY, _⟩ := row_slice hroY
  have hovY := own_stored hoY hkbY.size hVfY hVoY
  rw [hVfY, hVoY]
  go_upto_region 4 with fail
  have hkcY : Kept cX (bY.alloc (.cells #[.slice oFY (cs 6).fibers.length cFY, .int .i64 (cs 6).now, .slice oOY (cs 6).out.length cOY] 54)) := ((unhide OY).trans hkbY).alloc _
  have hbsY : cX.heap.size ≤ bY.heap.size := Nat.le_trans (unhide OY).size hkbY.size
  have hNwY : cX.heap.size ≤ aY.heap.size := (unhide OY).size
  generalize bY.alloc (.cells #[.slice oFY (cs 6).fibers.length cFY, .int .i64 (cs 6).now, .slice oOY (cs 6).out.length cOY] 54) = cY at hovY hkcY ⊢
  generalize bY.heap.size = BY at hovY hbsY ⊢
  clear hoY hkbY hrY hroY hVfY hVoY HCY KY OY
  obtain ⟨_, y1, _, yf⟩ := hovY.cells
  have y1f := yf 1
  have hoY := hovY.setNow 0
  have hkY : Kept cX (cY.setCell ⟨BY, 1, none⟩ (.int .i64 0)) := hkcY.setCell (p := ⟨BY, 1, none⟩) hbsY _
  have HOY := hide hoY
  have HKY := hide hkY
  clear hoY hkY yf hovY hkcY hbsY hNwY
  go_upto_region 5 with fail
  generalize cY.setCell ⟨BY, 1, none⟩ (.int .i64 0) = dY at HOY HKY ⊢
  clear y1 y1f
  have VSY : Hid (StVar dY BY csY) := hide ((unhide HOY).read small_y)
  have H5 : Hid (Kept w dY) := hide ((unhide H4).trans (unhide HKY))
  have HA' := hide ((unhide HA).kept (unhide HKY))
  clear HA
  have HA := HA'
  clear HA'
  have VSX' := hide ((unhide VSX).kept (unhide HKY))
  clear VSX
  have VSX := VSX'
  clear VSX'
  clear HOY HKY H4
  go_wp2_with fail
  refine (count_any _).mono ?_
  rintro _ aZ ⟨vZ, rfl, hcZ, hkZ⟩
  have HCZ := hide (afterCnt vZ 7 aZ hcZ (by omega) cnt_7)
  have KZ := hide ((unhide H5).trans hkZ)
  have OZ := hide hkZ
  clear hcZ hkZ
  go_wp2_with fail
  refine (unhide HCZ).mono ?_
  rintro _ bZ ⟨VZ, rfl, hoZ, hkbZ⟩
  obtain ⟨xsZ, hrZ, _⟩ := hoZ.piece .fibers trivial
  obtain ⟨oFZ, cFZ, hVfZ, _⟩ := row_slice hrZ
  have hroZ : _ := hoZ.piece .out trivial
  obtain ⟨oOZ, cOZ, hVoZ, _⟩ := row_slice hroZ
  have hovZ := own_stored hoZ hkbZ.size hVfZ hVoZ
  rw [hVfZ, hVoZ]
  go_upto_region 6 with fail
  have hkcZ : Kept dY (bZ.alloc (.cells #[.slice oFZ (cs 7).fibers.length cFZ, .int .i64 (cs 7).now, .slice oOZ (cs 7).out.length cOZ] 54)) := ((unhide OZ).trans hkbZ).alloc _
  have hbsZ : dY.heap.size ≤ bZ.heap.size := Nat.le_trans (unhide OZ).size hkbZ.size
  have hNwZ : dY.heap.size ≤ aZ.heap.size := (unhide OZ).size
  generalize bZ.alloc (.cells #[.slice oFZ (cs 7).fibers.length cFZ, .int .i64 (cs 7).now, .slice oOZ (cs 7).out.length cOZ] 54) = cZ at hovZ hkcZ ⊢
  generalize bZ.heap.size = BZ at hovZ hbsZ ⊢
  clear hoZ hkbZ hrZ hroZ hVfZ hVoZ HCZ KZ OZ
  obtain ⟨gFZ, cGZ, gZ, cZ', xZ, z0, z1, z2, z3, ⟨VZ', hoZ⟩, hgZ⟩ := write_stack hovZ (by have := lt_of_block hovZ.var; have := hovZ.low; omega) len_7
  have hkZ : Kept dY ((cZ.alloc (.cells #[.int .i64 1] 3)).setCell ⟨gZ, 3, none⟩ (.slice (some ⟨cZ.heap.size, 0, none⟩) 1 1)) := (hkcZ.alloc _).setCell (p := ⟨gZ, 3, none⟩) (Nat.le_trans hNwZ hgZ) _
  have HOZ := hide hoZ
  have HKZ := hide hkZ
  clear hoZ hkZ hovZ hkcZ hbsZ hNwZ hgZ
  go_upto_region 7 with fail
  generalize (cZ.alloc (.cells #[.int .i64 1] 3)).setCell ⟨gZ, 3, none⟩ (.slice (some ⟨cZ.heap.size, 0, none⟩) 1 1) = dZ at HOZ HKZ ⊢
  clear z0 z1 z2 z3
  have VSZ : Hid (StVar dZ BZ csZ) := hide ((unhide HOZ).read small_z)
  have H6 : Hid (Kept w dZ) := hide ((unhide H5).trans (unhide HKZ))
  have HA' := hide ((unhide HA).kept (unhide HKZ))
  clear HA
  have HA := HA'
  clear HA'
  have VSX' := hide ((unhide VSX).kept (unhide HKZ))
  clear VSX
  have VSX := VSX'
  clear VSX'
  have VSY' := hide ((unhide VSY).kept (unhide HKZ))
  clear VSY
  have VSY := VSY'
  clear VSY'
  clear HOZ HKZ H5
  go_wp2_with fail
  refine (count_any _).mono ?_
  rintro _ aU ⟨vU, rfl, hcU, hkU⟩
  have HCU := hide (afterCnt vU 1 aU hcU (by omega) cnt_1)
  have KU := hide ((unhide H6).trans hkU)
  have OU := hide hkU
  clear hcU hkU
  go_wp2_with fail
  refine (unhide HCU).mono ?_
  rintro _ bU ⟨VU, rfl, hoU, hkbU⟩
  obtain ⟨xsU, hrU, _⟩ := hoU.piece .fibers trivial
  obtain ⟨oFU, cFU, hVfU, _⟩ := row_slice hrU
  have hroU : _ := hoU.piece .out trivial
  obtain ⟨oOU, cOU, hVoU, _⟩ := row_slice hroU
  have hovU := own_stored hoU hkbU.size hVfU hVoU
  rw [hVfU, hVoU]
  go_upto_region 8 with fail
  have hkcU : Kept dZ (bU.alloc (.cells #[.slice oFU (cs 1).fibers.length cFU, .int .i64 (cs 1).now, .slice oOU (cs 1).out.length cOU] 54)) := ((unhide OU).trans hkbU).alloc _
  have hbsU : dZ.heap.size ≤ bU.heap.size := Nat.le_trans (unhide OU).size hkbU.size
  have hNwU : dZ.heap.size ≤ aU.heap.size := (unhide OU).size
  generalize bU.alloc (.cells #[.slice oFU (cs 1).fibers.length cFU, .int .i64 (cs 1).now, .slice oOU (cs 1).out.length cOU] 54) = cU at hovU hkcU ⊢
  generalize bU.heap.size = BU at hovU hbsU ⊢
  clear hoU hkbU hrU hroU hVfU hVoU HCU KU OU
  obtain ⟨gFU, cGU, gU, cU', glU, clU, xU, z0, z1, z2, z3, z4, hoU, hgU⟩ := write_local hovU len_1
  have hkU : Kept dZ (cU.setCell ⟨glU, 0, none⟩ (.int .i64 1)) := hkcU.setCell (p := ⟨glU, 0, none⟩) (Nat.le_trans hNwU hgU) _
  have HOU := hide hoU
  have HKU := hide hkU
  clear hoU hkU hovU hkcU hbsU hNwU hgU
  go_upto_region 9 with fail
  generalize cU.setCell ⟨glU, 0, none⟩ (.int .i64 1) = dU at HOU HKU ⊢
  clear z0 z1 z2 z3 z4
  have VSU : Hid (StVar dU BU csU) := hide ((unhide HOU).read small_u)
  have H7 : Hid (Kept w dU) := hide ((unhide H6).trans (unhide HKU))
  have HA' := hide ((unhide HA).kept (unhide HKU))
  clear HA
  have HA := HA'
  clear HA'
  have VSX' := hide ((unhide VSX).kept (unhide HKU))
  clear VSX
  have VSX := VSX'
  clear VSX'
  have VSY' := hide ((unhide VSY).kept (unhide HKU))
  clear VSY
  have VSY := VSY'
  clear VSY'
  have VSZ' := hide ((unhide VSZ).kept (unhide HKU))
  clear VSZ
  have VSZ := VSZ'
  clear VSZ'
  clear HOU HKU H6
  go_wp2_with fail
  refine (count_any _).mono ?_
  rintro _ aV ⟨vV, rfl, hcV, hkV⟩
  have HCV := hide (afterCnt vV 7 aV hcV (by omega) cnt_7)
  have KV := hide ((unhide H7).trans hkV)
  have OV := hide hkV
  clear hcV hkV
  go_wp2_with fail
  refine (unhide HCV).mono ?_
  rintro _ bV ⟨VV, rfl, hoV, hkbV⟩
  obtain ⟨xsV, hrV, _⟩ := hoV.piece .fibers trivial
  obtain ⟨oFV, cFV, hVfV, _⟩ := row_slice hrV
  have hroV : _ := hoV.piece .out trivial
  obtain ⟨oOV, cOV, hVoV, _⟩ := row_slice hroV
  have hovV := own_stored hoV hkbV.size hVfV hVoV
  rw [hVfV, hVoV]
  go_upto_region 10 with fail
  have hkcV : Kept dU (bV.alloc (.cells #[.slice oFV (cs 7).fibers.length cFV, .int .i64 (cs 7).now, .slice oOV (cs 7).out.length cOV] 54)) := ((unhide OV).trans hkbV).alloc _
  have hbsV : dU.heap.size ≤ bV.heap.size := Nat.le_trans (unhide OV).size hkbV.size
  have hNwV : dU.heap.size ≤ aV.heap.size := (unhide OV).size
  generalize bV.alloc (.cells #[.slice oFV (cs 7).fibers.length cFV, .int .i64 (cs 7).now, .slice oOV (cs 7).out.length cOV] 54) = cV at hovV hkcV ⊢
  generalize bV.heap.size = BV at hovV hbsV ⊢
  clear hoV hkbV hrV hroV hVfV hVoV HCV KV OV
  obtain ⟨gFV, cGV, gV, cV', glV, clV, xV, z0, z1, z2, z3, z4, hoV, hgV⟩ := write_local hovV len_7
  have hkV : Kept dU (cV.setCell ⟨glV, 0, none⟩ (.int .i64 1)) := hkcV.setCell (p := ⟨glV, 0, none⟩) (Nat.le_trans hNwV hgV) _
  have HOV := hide hoV
  have HKV := hide hkV
  clear hoV hkV hovV hkcV hbsV hNwV hgV
  go_upto_region 11 with fail
  generalize cV.setCell ⟨glV, 0, none⟩ (.int .i64 1) = dV at HOV HKV ⊢
  clear z0 z1 z2 z3 z4
  have VSV : Hid (StVar dV BV csV) := hide ((unhide HOV).read small_v)
  have H8 : Hid (Kept w dV) := hide ((unhide H7).trans (unhide HKV))
  have HA' := hide ((unhide HA).kept (unhide HKV))
  clear HA
  have HA := HA'
  clear HA'
  have VSX' := hide ((unhide VSX).kept (unhide HKV))
  clear VSX
  have VSX := VSX'
  clear VSX'
  have VSY' := hide ((unhide VSY).kept (unhide HKV))
  clear VSY
  have VSY := VSY'
  clear VSY'
  have VSZ' := hide ((unhide VSZ).kept (unhide HKV))
  clear VSZ
  have VSZ := VSZ'
  clear VSZ'
  have VSU' := hide ((unhide VSU).kept (unhide HKV))
  clear VSU
  have VSU := VSU'
  clear VSU'
  clear HOV HKV H7
  obtain ⟨pFA, qFA, pOA, qOA, LA, SA⟩ := unhide HA
  have TA := hide SA
  have mA0 := cell_lays LA 0
  have mA1 := cell_lays LA 1
  have mA2 := cell_lays LA 2
  clear SA LA HA
  obtain ⟨pFX, qFX, pOX, qOX, LX, SX⟩ := unhide VSX
  have TX := hide SX
  have mX0 := cell_lays LX 0
  have mX1 := cell_lays LX 1
  have mX2 := cell_lays LX 2
  clear SX LX VSX
  obtain ⟨pFY, qFY, pOY, qOY, LY, SY⟩ := unhide VSY
  have TY := hide SY
  have mY0 := cell_lays LY 0
  have mY1 := cell_lays LY 1
  have mY2 := cell_lays LY 2
  clear SY LY VSY
  obtain ⟨pFZ, qFZ, pOZ, qOZ, LZ, SZ⟩ := unhide VSZ
  have TZ := hide SZ
  have mZ0 := cell_lays LZ 0
  have mZ1 := cell_lays LZ 1
  have mZ2 := cell_lays LZ 2
  clear SZ LZ VSZ
  obtain ⟨pFU, qFU, pOU, qOU, LU, SU⟩ := unhide VSU
  have TU := hide SU
  have mU0 := cell_lays LU 0
  have mU1 := cell_lays LU 1
  have mU2 := cell_lays LU 2
  clear SU LU VSU
  obtain ⟨pFV, qFV, pOV, qOV, LV, SV⟩ := unhide VSV
  have TV := hide SV
  have mV0 := cell_lays LV 0
  have mV1 := cell_lays LV 1
  have mV2 := cell_lays LV 2
  clear SV LV VSV
  have HYS : Hid (∀ u, Kept dV u → u.cell? ⟨B1, 0, none⟩ = some (.slice pFA (beginS cntL).fibers.length qFA) ∧ u.cell? ⟨B1, 1, none⟩ = some (.int .i64 (beginS cntL).now) ∧ u.cell? ⟨B1, 2, none⟩ = some (.slice pOA (beginS cntL).out.length qOA) ∧ u.cell? ⟨BX, 0, none⟩ = some (.slice pFX (cs 6).fibers.length qFX) ∧ u.cell? ⟨BX, 1, none⟩ = some (.int .i64 (cs 6).now) ∧ u.cell? ⟨BX, 2, none⟩ = some (.slice pOX (cs 6).out.length qOX) ∧ u.cell? ⟨BY, 0, none⟩ = some (.slice pFY csY.fibers.length qFY) ∧ u.cell? ⟨BY, 1, none⟩ = some (.int .i64 csY.now) ∧ u.cell? ⟨BY, 2, none⟩ = some (.slice pOY csY.out.length qOY) ∧ u.cell? ⟨BZ, 0, none⟩ = some (.slice pFZ csZ.fibers.length qFZ) ∧ u.cell? ⟨BZ, 1, none⟩ = some (.int .i64 csZ.now) ∧ u.cell? ⟨BZ, 2, none⟩ = some (.slice pOZ csZ.out.length qOZ) ∧ u.cell? ⟨BU, 0, none⟩ = some (.slice pFU csU.fibers.length qFU) ∧ u.cell? ⟨BU, 1, none⟩ = some (.int .i64 csU.now) ∧ u.cell? ⟨BU, 2, none⟩ = some (.slice pOU csU.out.length qOU) ∧ u.cell? ⟨BV, 0, none⟩ = some (.slice pFV csV.fibers.length qFV) ∧ u.cell? ⟨BV, 1, none⟩ = some (.int .i64 csV.now) ∧ u.cell? ⟨BV, 2, none⟩ = some (.slice pOV csV.out.length qOV)) := hide (fun u hu => ⟨hu.cell mA0, hu.cell mA1, hu.cell mA2, hu.cell mX0, hu.cell mX1, hu.cell mX2, hu.cell mY0, hu.cell mY1, hu.cell mY2, hu.cell mZ0, hu.cell mZ1, hu.cell mZ2, hu.cell mU0, hu.cell mU1, hu.cell mU2, hu.cell mV0, hu.cell mV1, hu.cell mV2⟩)
  clear mA0 mA1 mA2 mX0 mX1 mX2 mY0 mY1 mY2 mZ0 mZ1 mZ2 mU0 mU1 mU2 mV0 mV1 mV2
  have HKD := hide ((unhide HK).kept (unhide H8))
  refine wp_region_held_drew (S := (fun u => u.cell? ⟨B1, 0, none⟩ = some (.slice pFA (beginS cntL).fibers.length qFA) ∧ u.cell? ⟨B1, 1, none⟩ = some (.int .i64 (beginS cntL).now) ∧ u.cell? ⟨B1, 2, none⟩ = some (.slice pOA (beginS cntL).out.length qOA) ∧ u.cell? ⟨BX, 0, none⟩ = some (.slice pFX (cs 6).fibers.length qFX) ∧ u.cell? ⟨BX, 1, none⟩ = some (.int .i64 (cs 6).now) ∧ u.cell? ⟨BX, 2, none⟩ = some (.slice pOX (cs 6).out.length qOX) ∧ u.cell? ⟨BY, 0, none⟩ = some (.slice pFY csY.fibers.length qFY) ∧ u.cell? ⟨BY, 1, none⟩ = some (.int .i64 csY.now) ∧ u.cell? ⟨BY, 2, none⟩ = some (.slice pOY csY.out.length qOY) ∧ u.cell? ⟨BZ, 0, none⟩ = some (.slice pFZ csZ.fibers.length qFZ) ∧ u.cell? ⟨BZ, 1, none⟩ = some (.int .i64 csZ.now) ∧ u.cell? ⟨BZ, 2, none⟩ = some (.slice pOZ csZ.out.length qOZ) ∧ u.cell? ⟨BU, 0, none⟩ = some (.slice pFU csU.fibers.length qFU) ∧ u.cell? ⟨BU, 1, none⟩ = some (.int .i64 csU.now) ∧ u.cell? ⟨BU, 2, none⟩ = some (.slice pOU csU.out.length qOU) ∧ u.cell? ⟨BV, 0, none⟩ = some (.slice pFV csV.fibers.length qFV) ∧ u.cell? ⟨BV, 1, none⟩ = some (.int .i64 csV.now) ∧ u.cell? ⟨BV, 2, none⟩ = some (.slice pOV csV.out.length qOV))) (by kernel_rfl) ((unhide HYS) _ (Kept.drew (Kept.refl _))) (fun hHeld => ?_)
  refine take_yes (i := 0) (v := ?_) rfl (by kernel_rfl) (by kernel_rfl) (by kernel_rfl) (fun _ _ _ h => h) (by rfl) (fun u hSu => ?_) hHeld ?_
  rotate_left
  · ((try dsimp only at hSu); go_simp) <;> with_reducible rfl
  try simp only [Act.put, List.setIfInBounds_toArray, List.set_cons_zero, List.set_cons_succ]
  refine take_yes (i := 1) (v := ?_) rfl (by kernel_rfl) (by kernel_rfl) (by kernel_rfl) (fun _ _ _ h => h) (by rfl) (fun u hSu => ?_) hHeld ?_
  rotate_left
  · ((try dsimp only at hSu); go_simp) <;> with_reducible rfl
  try simp only [Act.put, List.setIfInBounds_toArray, List.set_cons_zero, List.set_cons_succ]
  refine take_yes (i := 2) (v := ?_) rfl (by kernel_rfl) (by kernel_rfl) (by kernel_rfl) (fun _ _ _ h => h) (by rfl) (fun u hSu => ?_) hHeld ?_
  rotate_left
  · ((try dsimp only at hSu); go_simp) <;> with_reducible rfl
  try simp only [Act.put, List.setIfInBounds_toArray, List.set_cons_zero, List.set_cons_succ]
  refine take_yes (i := 3) (v := ?_) rfl (by kernel_rfl) (by kernel_rfl) (by kernel_rfl) (fun _ _ _ h => h) (by rfl) (fun u hSu => ?_) hHeld ?_
  rotate_left
  · ((try dsimp only at hSu); go_simp) <;> with_reducible rfl
  try simp only [Act.put, List.setIfInBounds_toArray, List.set_cons_zero, List.set_cons_succ]
  refine take_one (i := 4) rfl (by kernel_rfl) (fun K hK => ?_)
  go_simp
  refine (count_any _).mono ?_
  rintro _ m1 ⟨c0, rfl, hc0, hq1⟩
  have j1 : Kept dV m1 := Kept.trans (Kept.drew (Kept.refl dV)) hq1
  refine hK.out _ _ ((unhide HYS) _ j1) (fun hHeld => ?_)
  clear hK K
  try simp only [Act.put, List.setIfInBounds_toArray, List.set_cons_zero, List.set_cons_succ]
  refine take_one (i := 5) rfl (by kernel_rfl) (fun K hK => ?_)
  go_simp
  refine (beginOf_any cntL c0 m1 hc0.prog cnt_right).mono ?_
  rintro _ m2 ⟨vb2, rfl, hsb2, hq2⟩
  have j2 : Kept dV m2 := Kept.trans j1 hq2
  refine hK.out _ _ ((unhide HYS) _ j2) (fun hHeld => ?_)
  clear hK K
  try simp only [Act.put, List.setIfInBounds_toArray, List.set_cons_zero, List.set_cons_succ]
  refine take_one (i := 6) rfl (by kernel_rfl) (fun K hK => ?_)
  go_simp
  refine (sameStates_same (beginS cntL) _ _ m2 ((unhide TA).kept j2) hsb2).mono ?_
  rintro _ m3 ⟨rfl, hq3⟩
  have j3 : Kept dV m3 := Kept.trans j2 hq3
  refine hK.out _ _ ((unhide HYS) _ j3) (fun hHeld => ?_)
  clear hK K
  try simp only [Act.put, List.setIfInBounds_toArray, List.set_cons_zero, List.set_cons_succ]
  refine take_yes (i := 7) (v := ?_) rfl (by kernel_rfl) (by kernel_rfl) (by kernel_rfl) (fun _ _ _ h => h) (by rfl) (fun u hSu => ?_) hHeld ?_
  rotate_left
  · ((try dsimp only at hSu); go_simp) <;> with_reducible rfl
  try simp only [Act.put, List.setIfInBounds_toArray, List.set_cons_zero, List.set_cons_succ]
  refine take_yes (i := 8) (v := ?_) rfl (by kernel_rfl) (by kernel_rfl) (by kernel_rfl) (fun _ _ _ h => h) (by rfl) (fun u hSu => ?_) hHeld ?_
  rotate_left
  · ((try dsimp only at hSu); go_simp) <;> with_reducible rfl
  try simp only [Act.put, List.setIfInBounds_toArray, List.set_cons_zero, List.set_cons_succ]
  refine take_yes (i := 10) (v := ?_) rfl (by kernel_rfl) (by kernel_rfl) (by kernel_rfl) (fun _ _ _ h => h) (by rfl) (fun u hSu => ?_) hHeld ?_
  rotate_left
  · ((try dsimp only at hSu); go_simp) <;> with_reducible rfl
  try simp only [Act.put, List.setIfInBounds_toArray, List.set_cons_zero, List.set_cons_succ]
  refine take_one (i := 9) rfl (by kernel_rfl) (fun K hK => ?_)
  go_simp
  refine (count_any _).mono ?_
  rintro _ m4 ⟨c9, rfl, hc9, hq4⟩
  have j4 : Kept dV m4 := Kept.trans j3 hq4
  refine hK.out _ _ ((unhide HYS) _ j4) (fun hHeld => ?_)
  clear hK K
  try simp only [Act.put, List.setIfInBounds_toArray, List.set_cons_zero, List.set_cons_succ]
  have hchk11 := stCheck_any cntL (beginS cntL) c9 _ m4 hc9.prog ((unhide TA).kept j4) ((unhide HKD).kept j4)
  rw [cnt_begin] at hchk11
  have HCH11 := hide hchk11
  clear hchk11
  refine take_one (i := 11) rfl (by kernel_rfl) (fun K hK => ?_)
  go_simp
  refine (unhide HCH11).mono ?_
  rintro _ m5 ⟨rfl, hq5⟩
  have j5 : Kept dV m5 := Kept.trans j4 hq5
  refine hK.out _ _ ((unhide HYS) _ j5) (fun hHeld => ?_)
  clear hK K
  try simp only [Act.put, List.setIfInBounds_toArray, List.set_cons_zero, List.set_cons_succ]
  refine take_yes (i := 12) (v := ?_) rfl (by kernel_rfl) (by kernel_rfl) (by kernel_rfl) (fun _ _ _ h => h) (by rfl) (fun u hSu => ?_) hHeld ?_
  rotate_left
  · ((try dsimp only at hSu); go_simp) <;> with_reducible rfl
  try simp only [Act.put, List.setIfInBounds_toArray, List.set_cons_zero, List.set_cons_succ]
  refine take_yes (i := 13) (v := ?_) rfl (by kernel_rfl) (by kernel_rfl) (by kernel_rfl) (fun _ _ _ h => h) (by rfl) (fun u hSu => ?_) hHeld ?_
  rotate_left
  · ((try dsimp only at hSu); go_simp) <;> with_reducible rfl
  try simp only [Act.put, List.setIfInBounds_toArray, List.set_cons_zero, List.set_cons_succ]
  refine take_yes (i := 14) (v := ?_) rfl (by kernel_rfl) (by kernel_rfl) (by kernel_rfl) (fun _ _ _ h => h) (by rfl) (fun u hSu => ?_) hHeld ?_
  rotate_left
  · ((try dsimp only at hSu); go_simp) <;> with_reducible rfl
  try simp only [Act.put, List.setIfInBounds_toArray, List.set_cons_zero, List.set_cons_succ]
  refine take_yes (i := 16) (v := ?_) rfl (by kernel_rfl) (by kernel_rfl) (by kernel_rfl) (fun _ _ _ h => h) (by rfl) (fun u hSu => ?_) hHeld ?_
  rotate_left
  · ((try dsimp only at hSu); go_simp) <;> with_reducible rfl
  try simp only [Act.put, List.setIfInBounds_toArray, List.set_cons_zero, List.set_cons_succ]
  refine take_one (i := 15) rfl (by kernel_rfl) (fun K hK => ?_)
  go_simp
  refine (count_any _).mono ?_
  rintro _ m6 ⟨c15, rfl, hc15, hq6⟩
  have j6 : Kept dV m6 := Kept.trans j5 hq6
  refine hK.out _ _ ((unhide HYS) _ j6) (fun hHeld => ?_)
  clear hK K
  try simp only [Act.put, List.setIfInBounds_toArray, List.set_cons_zero, List.set_cons_succ]
  have hchk17 := stCheck_any cntL (cs 6) c15 _ m6 hc15.prog ((unhide TX).kept j6) ((unhide HKD).kept j6)
  rw [err_x] at hchk17
  have HCH17 := hide hchk17
  clear hchk17
  refine take_one (i := 17) rfl (by kernel_rfl) (fun K hK => ?_)
  go_simp
  refine (unhide HCH17).mono ?_
  rintro _ m7 ⟨rfl, hq7⟩
  have j7 : Kept dV m7 := Kept.trans j6 hq7
  refine hK.out _ _ ((unhide HYS) _ j7) (fun hHeld => ?_)
  clear hK K
  try simp only [Act.put, List.setIfInBounds_toArray, List.set_cons_zero, List.set_cons_succ]
  refine take_yes (i := 18) (v := ?_) rfl (by kernel_rfl) (by kernel_rfl) (by kernel_rfl) (fun _ _ _ h => h) (by rfl) (fun u hSu => ?_) hHeld ?_
  rotate_left
  · ((try dsimp only at hSu); go_simp) <;> with_reducible rfl
  try simp only [Act.put, List.setIfInBounds_toArray, List.set_cons_zero, List.set_cons_succ]
  refine take_yes (i := 19) (v := ?_) rfl (by kernel_rfl) (by kernel_rfl) (by kernel_rfl) (fun _ _ _ h => h) (by rfl) (fun u hSu => ?_) hHeld ?_
  rotate_left
  · ((try dsimp only at hSu); go_simp) <;> with_reducible rfl
  try simp only [Act.put, List.setIfInBounds_toArray, List.set_cons_zero, List.set_cons_succ]
  refine take_yes (i := 20) (v := ?_) rfl (by kernel_rfl) (by kernel_rfl) (by kernel_rfl) (fun _ _ _ h => h) (by rfl) (fun u hSu => ?_) hHeld ?_
  rotate_left
  · ((try dsimp only at hSu); go_simp) <;> with_reducible rfl
  try simp only [Act.put, List.setIfInBounds_toArray, List.set_cons_zero, List.set_cons_succ]
  refine take_yes (i := 22) (v := ?_) rfl (by kernel_rfl) (by kernel_rfl) (by kernel_rfl) (fun _ _ _ h => h) (by rfl) (fun u hSu => ?_) hHeld ?_
  rotate_left
  · ((try dsimp only at hSu); go_simp) <;> with_reducible rfl
  try simp only [Act.put, List.setIfInBounds_toArray, List.set_cons_zero, List.set_cons_succ]
  refine take_one (i := 21) rfl (by kernel_rfl) (fun K hK => ?_)
  go_simp
  refine (count_any _).mono ?_
  rintro _ m8 ⟨c21, rfl, hc21, hq8⟩
  have j8 : Kept dV m8 := Kept.trans j7 hq8
  refine hK.out _ _ ((unhide HYS) _ j8) (fun hHeld => ?_)
  clear hK K
  try simp only [Act.put, List.setIfInBounds_toArray, List.set_cons_zero, List.set_cons_succ]
  have hchk23 := stCheck_any cntL csY c21 _ m8 hc21.prog ((unhide TY).kept j8) ((unhide HKD).kept j8)
  rw [err_y] at hchk23
  have HCH23 := hide hchk23
  clear hchk23
  refine take_one (i := 23) rfl (by kernel_rfl) (fun K hK => ?_)
  go_simp
  refine (unhide HCH23).mono ?_
  rintro _ m9 ⟨rfl, hq9⟩
  have j9 : Kept dV m9 := Kept.trans j8 hq9
  refine hK.out _ _ ((unhide HYS) _ j9) (fun hHeld => ?_)
  clear hK K
  try simp only [Act.put, List.setIfInBounds_toArray, List.set_cons_zero, List.set_cons_succ]
  refine take_yes (i := 24) (v := ?_) rfl (by kernel_rfl) (by kernel_rfl) (by kernel_rfl) (fun _ _ _ h => h) (by rfl) (fun u hSu => ?_) hHeld ?_
  rotate_left
  · ((try dsimp only at hSu); go_simp) <;> with_reducible rfl
  try simp only [Act.put, List.setIfInBounds_toArray, List.set_cons_zero, List.set_cons_succ]
  refine take_yes (i := 25) (v := ?_) rfl (by kernel_rfl) (by kernel_rfl) (by kernel_rfl) (fun _ _ _ h => h) (by rfl) (fun u hSu => ?_) hHeld ?_
  rotate_left
  · ((try dsimp only at hSu); go_simp) <;> with_reducible rfl
  try simp only [Act.put, List.setIfInBounds_toArray, List.set_cons_zero, List.set_cons_succ]
  refine take_yes (i := 26) (v := ?_) rfl (by kernel_rfl) (by kernel_rfl) (by kernel_rfl) (fun _ _ _ h => h) (by rfl) (fun u hSu => ?_) hHeld ?_
  rotate_left
  · ((try dsimp only at hSu); go_simp) <;> with_reducible rfl
  try simp only [Act.put, List.setIfInBounds_toArray, List.set_cons_zero, List.set_cons_succ]
  refine take_yes (i := 28) (v := ?_) rfl (by kernel_rfl) (by kernel_rfl) (by kernel_rfl) (fun _ _ _ h => h) (by rfl) (fun u hSu => ?_) hHeld ?_
  rotate_left
  · ((try dsimp only at hSu); go_simp) <;> with_reducible rfl
  try simp only [Act.put, List.setIfInBounds_toArray, List.set_cons_zero, List.set_cons_succ]
  refine take_one (i := 27) rfl (by kernel_rfl) (fun K hK => ?_)
  go_simp
  refine (count_any _).mono ?_
  rintro _ m10 ⟨c27, rfl, hc27, hq10⟩
  have j10 : Kept dV m10 := Kept.trans j9 hq10
  refine hK.out _ _ ((unhide HYS) _ j10) (fun hHeld => ?_)
  clear hK K
  try simp only [Act.put, List.setIfInBounds_toArray, List.set_cons_zero, List.set_cons_succ]
  have hchk29 := stCheck_any cntL csZ c27 _ m10 hc27.prog ((unhide TZ).kept j10) ((unhide HKD).kept j10)
  rw [err_z] at hchk29
  have HCH29 := hide hchk29
  clear hchk29
  refine take_one (i := 29) rfl (by kernel_rfl) (fun K hK => ?_)
  go_simp
  refine (unhide HCH29).mono ?_
  rintro _ m11 ⟨rfl, hq11⟩
  have j11 : Kept dV m11 := Kept.trans j10 hq11
  refine hK.out _ _ ((unhide HYS) _ j11) (fun hHeld => ?_)
  clear hK K
  try simp only [Act.put, List.setIfInBounds_toArray, List.set_cons_zero, List.set_cons_succ]
  refine take_yes (i := 30) (v := ?_) rfl (by kernel_rfl) (by kernel_rfl) (by kernel_rfl) (fun _ _ _ h => h) (by rfl) (fun u hSu => ?_) hHeld ?_
  rotate_left
  · ((try dsimp only at hSu); go_simp) <;> with_reducible rfl
  try simp only [Act.put, List.setIfInBounds_toArray, List.set_cons_zero, List.set_cons_succ]
  refine take_yes (i := 31) (v := ?_) rfl (by kernel_rfl) (by kernel_rfl) (by kernel_rfl) (fun _ _ _ h => h) (by rfl) (fun u hSu => ?_) hHeld ?_
  rotate_left
  · ((try dsimp only at hSu); go_simp) <;> with_reducible rfl
  try simp only [Act.put, List.setIfInBounds_toArray, List.set_cons_zero, List.set_cons_succ]
  refine take_yes (i := 32) (v := ?_) rfl (by kernel_rfl) (by kernel_rfl) (by kernel_rfl) (fun _ _ _ h => h) (by rfl) (fun u hSu => ?_) hHeld ?_
  rotate_left
  · ((try dsimp only at hSu); go_simp) <;> with_reducible rfl
  try simp only [Act.put, List.setIfInBounds_toArray, List.set_cons_zero, List.set_cons_succ]
  refine take_yes (i := 34) (v := ?_) rfl (by kernel_rfl) (by kernel_rfl) (by kernel_rfl) (fun _ _ _ h => h) (by rfl) (fun u hSu => ?_) hHeld ?_
  rotate_left
  · ((try dsimp only at hSu); go_simp) <;> with_reducible rfl
  try simp only [Act.put, List.setIfInBounds_toArray, List.set_cons_zero, List.set_cons_succ]
  refine take_one (i := 33) rfl (by kernel_rfl) (fun K hK => ?_)
  go_simp
  refine (count_any _).mono ?_
  rintro _ m12 ⟨c33, rfl, hc33, hq12⟩
  have j12 : Kept dV m12 := Kept.trans j11 hq12
  refine hK.out _ _ ((unhide HYS) _ j12) (fun hHeld => ?_)
  clear hK K
  try simp only [Act.put, List.setIfInBounds_toArray, List.set_cons_zero, List.set_cons_succ]
  have hchk35 := stCheck_any cntL csU c33 _ m12 hc33.prog ((unhide TU).kept j12) ((unhide HKD).kept j12)
  rw [err_u] at hchk35
  have HCH35 := hide hchk35
  clear hchk35
  refine take_one (i := 35) rfl (by kernel_rfl) (fun K hK => ?_)
  go_simp
  refine (unhide HCH35).mono ?_
  rintro _ m13 ⟨rfl, hq13⟩
  have j13 : Kept dV m13 := Kept.trans j12 hq13
  refine hK.out _ _ ((unhide HYS) _ j13) (fun hHeld => ?_)
  clear hK K
  try simp only [Act.put, List.setIfInBounds_toArray, List.set_cons_zero, List.set_cons_succ]
  refine take_yes (i := 36) (v := ?_) rfl (by kernel_rfl) (by kernel_rfl) (by kernel_rfl) (fun _ _ _ h => h) (by rfl) (fun u hSu => ?_) hHeld ?_
  rotate_left
  · ((try dsimp only at hSu); go_simp) <;> with_reducible rfl
  try simp only [Act.put, List.setIfInBounds_toArray, List.set_cons_zero, List.set_cons_succ]
  refine take_yes (i := 37) (v := ?_) rfl (by kernel_rfl) (by kernel_rfl) (by kernel_rfl) (fun _ _ _ h => h) (by rfl) (fun u hSu => ?_) hHeld ?_
  rotate_left
  · ((try dsimp only at hSu); go_simp) <;> with_reducible rfl
  try simp only [Act.put, List.setIfInBounds_toArray, List.set_cons_zero, List.set_cons_succ]
  refine take_yes (i := 38) (v := ?_) rfl (by kernel_rfl) (by kernel_rfl) (by kernel_rfl) (fun _ _ _ h => h) (by rfl) (fun u hSu => ?_) hHeld ?_
  rotate_left
  · ((try dsimp only at hSu); go_simp) <;> with_reducible rfl
  try simp only [Act.put, List.setIfInBounds_toArray, List.set_cons_zero, List.set_cons_succ]
  refine take_yes (i := 40) (v := ?_) rfl (by kernel_rfl) (by kernel_rfl) (by kernel_rfl) (fun _ _ _ h => h) (by rfl) (fun u hSu => ?_) hHeld ?_
  rotate_left
  · ((try dsimp only at hSu); go_simp) <;> with_reducible rfl
  try simp only [Act.put, List.setIfInBounds_toArray, List.set_cons_zero, List.set_cons_succ]
  refine take_one (i := 39) rfl (by kernel_rfl) (fun K hK => ?_)
  go_simp
  refine (count_any _).mono ?_
  rintro _ m14 ⟨c39, rfl, hc39, hq14⟩
  have j14 : Kept dV m14 := Kept.trans j13 hq14
  refine hK.out _ _ ((unhide HYS) _ j14) (fun hHeld => ?_)
  clear hK K
  try simp only [Act.put, List.setIfInBounds_toArray, List.set_cons_zero, List.set_cons_succ]
  have hchk41 := stCheck_any cntL csV c39 _ m14 hc39.prog ((unhide TV).kept j14) ((unhide HKD).kept j14)
  rw [err_v] at hchk41
  have HCH41 := hide hchk41
  clear hchk41
  refine take_one (i := 41) rfl (by kernel_rfl) (fun K hK => ?_)
  go_simp
  refine (unhide HCH41).mono ?_
  rintro _ m15 ⟨rfl, hq15⟩
  have j15 : Kept dV m15 := Kept.trans j14 hq15
  refine hK.out _ _ ((unhide HYS) _ j15) (fun hHeld => ?_)
  clear hK K
  try simp only [Act.put, List.setIfInBounds_toArray, List.set_cons_zero, List.set_cons_succ]
  refine take_yes (i := 42) (v := ?_) rfl (by kernel_rfl) (by kernel_rfl) (by kernel_rfl) (fun _ _ _ h => h) (by rfl) (fun u hSu => ?_) hHeld ?_
  rotate_left
  · ((try dsimp only at hSu); go_simp) <;> with_reducible rfl
  try simp only [Act.put, List.setIfInBounds_toArray, List.set_cons_zero, List.set_cons_succ]
  refine take_yes (i := 43) (v := ?_) rfl (by kernel_rfl) (by kernel_rfl) (by kernel_rfl) (fun _ _ _ h => h) (by rfl) (fun u hSu => ?_) hHeld ?_
  rotate_left
  · ((try dsimp only at hSu); go_simp) <;> with_reducible rfl
  try simp only [Act.put, List.setIfInBounds_toArray, List.set_cons_zero, List.set_cons_succ]
  refine take_yes (i := 44) (v := ?_) rfl (by kernel_rfl) (by kernel_rfl) (by kernel_rfl) (fun _ _ _ h => h) (by rfl) (fun u hSu => ?_) hHeld ?_
  rotate_left
  · ((try dsimp only at hSu); go_simp) <;> with_reducible rfl
  try simp only [Act.put, List.setIfInBounds_toArray, List.set_cons_zero, List.set_cons_succ]
  refine take_yes (i := 46) (v := ?_) rfl (by kernel_rfl) (by kernel_rfl) (by kernel_rfl) (fun _ _ _ h => h) (by rfl) (fun u hSu => ?_) hHeld ?_
  rotate_left
  · ((try dsimp only at hSu); go_simp) <;> with_reducible rfl
  try simp only [Act.put, List.setIfInBounds_toArray, List.set_cons_zero, List.set_cons_succ]
  refine take_one (i := 45) rfl (by kernel_rfl) (fun K hK => ?_)
  go_simp
  refine (count_any _).mono ?_
  rintro _ m16 ⟨c45, rfl, hc45, hq16⟩
  have j16 : Kept dV m16 := Kept.trans j15 hq16
  refine hK.out _ _ ((unhide HYS) _ j16) (fun hHeld => ?_)
  clear hK K
  try simp only [Act.put, List.setIfInBounds_toArray, List.set_cons_zero, List.set_cons_succ]
  have hchk47 := stCheck_any cntL St.zero c45 _ m16 hc45.prog (zero_at _) ((unhide HKD).kept j16)
  rw [err_0] at hchk47
  have HCH47 := hide hchk47
  clear hchk47
  refine take_one (i := 47) rfl (by kernel_rfl) (fun K hK => ?_)
  go_simp
  refine (unhide HCH47).mono ?_
  rintro _ m17 ⟨rfl, hq17⟩
  have j17 : Kept dV m17 := Kept.trans j16 hq17
  refine hK.out _ _ ((unhide HYS) _ j17) (fun hHeld => ?_)
  clear hK K
  try simp only [Act.put, List.setIfInBounds_toArray, List.set_cons_zero, List.set_cons_succ]
  refine take_yes (i := 48) (v := ?_) rfl (by kernel_rfl) (by kernel_rfl) (by kernel_rfl) (fun _ _ _ h => h) (by rfl) (fun u hSu => ?_) hHeld ?_
  rotate_left
  · ((try dsimp only at hSu); go_simp) <;> with_reducible rfl
  try simp only [Act.put, List.setIfInBounds_toArray, List.set_cons_zero, List.set_cons_succ]
  refine take_yes (i := 49) (v := ?_) rfl (by kernel_rfl) (by kernel_rfl) (by kernel_rfl) (fun _ _ _ h => h) (by rfl) (fun u hSu => ?_) hHeld ?_
  rotate_left
  · ((try dsimp only at hSu); go_simp) <;> with_reducible rfl
  try simp only [Act.put, List.setIfInBounds_toArray, List.set_cons_zero, List.set_cons_succ]
  refine take_yes (i := 50) (v := ?_) rfl (by kernel_rfl) (by kernel_rfl) (by kernel_rfl) (fun _ _ _ h => h) (by rfl) (fun u hSu => ?_) hHeld ?_
  rotate_left
  · ((try dsimp only at hSu); go_simp) <;> with_reducible rfl
  try simp only [Act.put, List.setIfInBounds_toArray, List.set_cons_zero]
  refine wpAnyH_done (by kernel_rfl) ?_ _
  have HFIN := hide (Kept.trans (unhide H8) j17)
  clear hHeld
  go_wp2
  go_ret
  exact ⟨by simp, unhide HFIN⟩
end Go.Proofs.YtohlefnljgkdcabDoor
