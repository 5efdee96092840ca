/-
  Contracts of addsNothing and of the change that SimplifyStyle makes of a node.
-/
import Derived.Test.YtldfdfdleaemaaaDoorNdE
import Derived.Test.YtldfdfdleaemaaaDoorNdSm
import Derived.Deep.RegionHeld3
namespace Go.Proofs.YtldfdfdleaemaaaDoor.Nd
open Go.RowKit NdPl Ns
set_option linter.unusedSimpArgs false
set_option linter.unusedVariables false

/-- the node can be replaced by its first part -/
def adB (y : Tr) : Bool :=
  if y.op = 6 then ((y.ps.length : Int) == 1) else if y.op = 7 then em y.tx && em y.af else if y.op = 8 ∨ y.op = 9 then (y.ps.getD 0 default).op == y.op
  else if y.op = 4 ∨ y.op = 5 then eqB (y.ps.getD 0 default) (y.ps.getD 1 default) else false
/-- what simplifying makes of a node -/
def smF (y : Tr) : Tr := if adB y = true then y.ps.getD 0 default else y
set_option maxRecDepth 100000 in
set_option maxHeartbeats 4000000 in
theorem adds_1 (wd tx af : ByteArray) (ps : List Tr) (A : Option Addr) (c d : Nat) (w : World) (hr : RdL (d + 1) w A ps) (hz : szT (.mk 1 wd tx af ps) ≤ 1048576) (hs : shB 1 wd tx af ps.length = true) :
    Calls Tryd.prog 30 #[ndV 1 wd tx af A ps.length c] w fun e w' => e = .returned (.bool (adB (.mk 1 wd tx af ps))) ∧ Below w.heap.size w w' := by
  simp only [shB] at hs
  simp at hs
  have hzs := szT_eq (.mk 1 wd tx af ps)
  simp only [op_mk, wd_mk, tx_mk, af_mk, ps_mk] at hzs
  have HE : Hid (adB (.mk 1 wd tx af ps) = false) := Lib.hid rfl
  rw [HE.out]
  clear hr hz hs hzs
  generalize ps.length = n at *
  go_enter Tryd.func30, Tryd.ntmps30
  go_wp2_with fail
  go_ret
  exact ⟨rfl, box_below _ _⟩
set_option maxRecDepth 100000 in
set_option maxHeartbeats 4000000 in
theorem adds_2 (wd tx af : ByteArray) (ps : List Tr) (A : Option Addr) (c d : Nat) (w : World) (hr : RdL (d + 1) w A ps) (hz : szT (.mk 2 wd tx af ps) ≤ 1048576) (hs : shB 2 wd tx af ps.length = true) :
    Calls Tryd.prog 30 #[ndV 2 wd tx af A ps.length c] w fun e w' => e = .returned (.bool (adB (.mk 2 wd tx af ps))) ∧ Below w.heap.size w w' := by
  simp only [shB] at hs
  simp at hs
  have hzs := szT_eq (.mk 2 wd tx af ps)
  simp only [op_mk, wd_mk, tx_mk, af_mk, ps_mk] at hzs
  have HE : Hid (adB (.mk 2 wd tx af ps) = false) := Lib.hid rfl
  rw [HE.out]
  clear hr hz hs hzs
  generalize ps.length = n at *
  go_enter Tryd.func30, Tryd.ntmps30
  go_wp2_with fail
  go_ret
  exact ⟨rfl, box_below _ _⟩
set_option maxRecDepth 100000 in
set_option maxHeartbeats 4000000 in
theorem adds_3 (wd tx af : ByteArray) (ps : List Tr) (A : Option Addr) (c d : Nat) (w : World) (hr : RdL (d + 1) w A ps) (hz : szT (.mk 3 wd tx af ps) ≤ 1048576) (hs : shB 3 wd tx af ps.length = true) :
    Calls Tryd.prog 30 #[ndV 3 wd tx af A ps.length c] w fun e w' => e = .returned (.bool (adB (.mk 3 wd tx af ps))) ∧ Below w.heap.size w w' := by
  simp only [shB] at hs
  simp at hs
  have hzs := szT_eq (.mk 3 wd tx af ps)
  simp only [op_mk, wd_mk, tx_mk, af_mk, ps_mk] at hzs
  have HE : Hid (adB (.mk 3 wd tx af ps) = false) := Lib.hid rfl
  rw [HE.out]
  clear hr hz hs hzs
  generalize ps.length = n at *
  go_enter Tryd.func30, Tryd.ntmps30
  go_wp2_with fail
  go_ret
  exact ⟨rfl, box_below _ _⟩
set_option maxRecDepth 100000 in
set_option maxHeartbeats 4000000 in
theorem adds_6 (wd tx af : ByteArray) (ps : List Tr) (A : Option Addr) (c d : Nat) (w : World) (hr : RdL (d + 1) w A ps) (hz : szT (.mk 6 wd tx af ps) ≤ 1048576) (hs : shB 6 wd tx af ps.length = true) :
    Calls Tryd.prog 30 #[ndV 6 wd tx af A ps.length c] w fun e w' => e = .returned (.bool (adB (.mk 6 wd tx af ps))) ∧ Below w.heap.size w w' := by
  simp only [shB] at hs
  simp at hs
  have hzs := szT_eq (.mk 6 wd tx af ps)
  simp only [op_mk, wd_mk, tx_mk, af_mk, ps_mk] at hzs
  have HE : Hid (adB (.mk 6 wd tx af ps) = ((ps.length : Int) == 1)) := Lib.hid rfl
  rw [HE.out]
  have hm : ps.length ≤ 1048576 := by omega
  clear hr hz hs hzs HE
  generalize ps.length = n at *
  go_enter Tryd.func30, Tryd.ntmps30
  go_wp2_with fail
  go_ret
  exact ⟨rfl, box_below _ _⟩
set_option maxRecDepth 100000 in
set_option maxHeartbeats 4000000 in
theorem adds_7 (wd tx af : ByteArray) (ps : List Tr) (A : Option Addr) (c d : Nat) (w : World) (hr : RdL (d + 1) w A ps) (hz : szT (.mk 7 wd tx af ps) ≤ 1048576) (hs : shB 7 wd tx af ps.length = true) :
    Calls Tryd.prog 30 #[ndV 7 wd tx af A ps.length c] w fun e w' => e = .returned (.bool (adB (.mk 7 wd tx af ps))) ∧ Below w.heap.size w w' := by
  simp only [shB] at hs
  simp at hs
  have hzs := szT_eq (.mk 7 wd tx af ps)
  simp only [op_mk, wd_mk, tx_mk, af_mk, ps_mk] at hzs
  have HE : Hid (adB (.mk 7 wd tx af ps) = (em tx && em af)) := Lib.hid rfl
  rw [HE.out]
  obtain ⟨t1, t2⟩ := em_forms tx
  obtain ⟨a1, a2⟩ := em_forms af
  clear hr hz hs hzs HE
  generalize em tx = et at *
  generalize em af = ea at *
  generalize ps.length = n at *
  go_enter Tryd.func30, Tryd.ntmps30
  go_wp2_with fail
  all_goals
    go_ret
    exact ⟨ret_bool (by simp [*]), box_below _ _⟩
set_option maxRecDepth 100000 in
set_option maxHeartbeats 4000000 in
theorem adds_8 (wd tx af : ByteArray) (ps : List Tr) (A : Option Addr) (c d : Nat) (w : World) (hr : RdL (d + 1) w A ps) (hz : szT (.mk 8 wd tx af ps) ≤ 1048576) (hs : shB 8 wd tx af ps.length = true) :
    Calls Tryd.prog 30 #[ndV 8 wd tx af A ps.length c] w fun e w' => e = .returned (.bool (adB (.mk 8 wd tx af ps))) ∧ Below w.heap.size w w' := by
  simp only [shB] at hs
  simp at hs
  have hzs := szT_eq (.mk 8 wd tx af ps)
  simp only [op_mk, wd_mk, tx_mk, af_mk, ps_mk] at hzs
  have hl : ps.length = 1 := by omega
  have hx? : ps[0]? = some (ps.getD 0 default) := by rw [List.getD_eq_getElem?_getD, List.getElem?_eq_getElem (by omega)]; rfl
  have HE : Hid (adB (.mk 8 wd tx af ps) = ((ps.getD 0 default).op == 8)) := Lib.hid rfl
  rw [HE.out]
  rw [hl]
  have hb : Below w.heap.size w (w.alloc (.cells #[.int .i64 8, .string wd, .string tx, .string af, .slice A 1 c] 30)) := box_below _ _
  obtain ⟨d', g, o, C, cc, hd, rfl, hg, e0, e1, e2, e3, e4, hrr⟩ := (hr.below hb).get hx?
  generalize ps.getD 0 default = y at *
  simp only [Nat.zero_mul, Nat.add_zero] at e0
  generalize y.op = yo at *
  have HB := Lib.hid hb
  clear hr hz hs hzs HE e1 e2 e3 e4 hrr hd hx? hb hl
  go_enter Tryd.func30, Tryd.ntmps30
  go_wp2_with fail
  go_quiet (fail)
  go_wp2_with fail
  go_ret
  exact ⟨rfl, by have h := HB.out; exact ⟨h.os, h.tape, h.output, h.size, h.block⟩⟩
set_option maxRecDepth 100000 in
set_option maxHeartbeats 4000000 in
theorem adds_9 (wd tx af : ByteArray) (ps : List Tr) (A : Option Addr) (c d : Nat) (w : World) (hr : RdL (d + 1) w A ps) (hz : szT (.mk 9 wd tx af ps) ≤ 1048576) (hs : shB 9 wd tx af ps.length = true) :
    Calls Tryd.prog 30 #[ndV 9 wd tx af A ps.length c] w fun e w' => e = .returned (.bool (adB (.mk 9 wd tx af ps))) ∧ Below w.heap.size w w' := by
  simp only [shB] at hs
  simp at hs
  have hzs := szT_eq (.mk 9 wd tx af ps)
  simp only [op_mk, wd_mk, tx_mk, af_mk, ps_mk] at hzs
  have hl : ps.length = 1 := by omega
  have hx? : ps[0]? = some (ps.getD 0 default) := by rw [List.getD_eq_getElem?_getD, List.getElem?_eq_getElem (by omega)]; rfl
  have HE : Hid (adB (.mk 9 wd tx af ps) = ((ps.getD 0 default).op == 9)) := Lib.hid rfl
  rw [HE.out]
  rw [hl]
  have hb : Below w.heap.size w (w.alloc (.cells #[.int .i64 9, .string wd, .string tx, .string af, .slice A 1 c] 30)) := box_below _ _
  obtain ⟨d', g, o, C, cc, hd, rfl, hg, e0, e1, e2, e3, e4, hrr⟩ := (hr.below hb).get hx?
  generalize ps.getD 0 default = y at *
  simp only [Nat.zero_mul, Nat.add_zero] at e0
  generalize y.op = yo at *
  have HB := Lib.hid hb
  clear hr hz hs hzs HE e1 e2 e3 e4 hrr hd hx? hb hl
  go_enter Tryd.func30, Tryd.ntmps30
  go_wp2_with fail
  go_quiet (fail)
  go_wp2_with fail
  go_ret
  exact ⟨rfl, by have h := HB.out; exact ⟨h.os, h.tape, h.output, h.size, h.block⟩⟩
set_option maxRecDepth 100000 in
set_option maxHeartbeats 4000000 in
theorem adds_4 (wd tx af : ByteArray) (ps : List Tr) (A : Option Addr) (c d : Nat) (w : World) (hr : RdL (d + 1) w A ps) (hz : szT (.mk 4 wd tx af ps) ≤ 1048576) (hs : shB 4 wd tx af ps.length = true) :
    Calls Tryd.prog 30 #[ndV 4 wd tx af A ps.length c] w fun e w' => e = .returned (.bool (adB (.mk 4 wd tx af ps))) ∧ Below w.heap.size w w' := by
  simp only [shB] at hs
  simp at hs
  have hzs := szT_eq (.mk 4 wd tx af ps)
  simp only [op_mk, wd_mk, tx_mk, af_mk, ps_mk] at hzs
  have hl : ps.length = 2 := by omega
  have hx? : ps[0]? = some (ps.getD 0 default) := by rw [List.getD_eq_getElem?_getD, List.getElem?_eq_getElem (by omega)]; rfl
  have hy? : ps[1]? = some (ps.getD 1 default) := by rw [List.getD_eq_getElem?_getD, List.getElem?_eq_getElem (by omega)]; rfl
  have HE : Hid (adB (.mk 4 wd tx af ps) = eqB (ps.getD 0 default) (ps.getD 1 default)) := Lib.hid rfl
  rw [HE.out]
  rw [hl]
  obtain ⟨d', g, o, C, cc, hd, rfl, hg, e0, e1, e2, e3, e4, hrr⟩ := hr.get hx?
  obtain ⟨d2, g', o', C', cc', hd2, hgo, hg', f0, f1, f2, f3, f4, hrr'⟩ := hr.get hy?
  cases hgo
  obtain rfl : d2 = d' := by omega
  have z1 := szS_mem hx?
  have z2 := szS_mem hy?
  generalize ps.getD 0 default = y at *
  generalize ps.getD 1 default = z at *
  have HQ := Lib.hid (fun w1 (h : Below w.heap.size w w1) => enT_all d2 y z C C' cc cc' w1 (hrr.below h) (hrr'.below h) (by omega) (by omega))
  generalize eqB y z = q at *
  obtain ⟨yo, yw, yt, ya, yp⟩ := y
  obtain ⟨zo, zw, zt, za, zp⟩ := z
  simp only [op_mk, wd_mk, tx_mk, af_mk, ps_mk, Nat.zero_mul, Nat.add_zero, Nat.one_mul, Nat.add_assoc, Nat.reduceAdd] at e0 e1 e2 e3 e4 f0 f1 f2 f3 f4 HQ
  generalize yp.length = yn at *
  generalize zp.length = zn at *
  have HB := Lib.hid (box_below w (.cells #[.int .i64 4, .string wd, .string tx, .string af, .slice (some ⟨g, o, none⟩) 2 c] 30))
  have HX := Lib.hid (Bx.new w #[.int .i64 4, .string wd, .string tx, .string af, .slice (some ⟨g, o, none⟩) 2 c] 30)
  have HS0 : Hid (∀ w', Below w.heap.size w w' → w'.cell? ⟨w.heap.size, 4, none⟩ = some (.slice (some ⟨g, o, none⟩) 2 c) → (w'.cell? ⟨w.heap.size, 4, none⟩ = some (.slice (some ⟨g, o, none⟩) 2 c) ∧ w'.cell? ⟨g, o, none⟩ = some (.int .i64 yo) ∧ w'.cell? ⟨g, o + 1, none⟩ = some (.string yw) ∧ w'.cell? ⟨g, o + 2, none⟩ = some (.string yt) ∧ w'.cell? ⟨g, o + 3, none⟩ = some (.string ya) ∧ w'.cell? ⟨g, o + 4, none⟩ = some (.slice C yn cc) ∧ w'.cell? ⟨g, o + 5, none⟩ = some (.int .i64 zo) ∧ w'.cell? ⟨g, o + 6, none⟩ = some (.string zw) ∧ w'.cell? ⟨g, o + 7, none⟩ = some (.string zt) ∧ w'.cell? ⟨g, o + 8, none⟩ = some (.string za) ∧ w'.cell? ⟨g, o + 9, none⟩ = some (.slice C' zn cc'))) := Lib.hid (fun w' h h4 => by
    have hc : ∀ i, w'.cell? ⟨g, i, none⟩ = w.cell? ⟨g, i, none⟩ := fun i => h.cell (p := ⟨g, i, none⟩) hg
    exact ⟨h4, (hc _).trans e0, (hc _).trans e1, (hc _).trans e2, (hc _).trans e3, (hc _).trans e4, (hc _).trans f0, (hc _).trans f1, (hc _).trans f2, (hc _).trans f3, (hc _).trans f4⟩)
  clear hr hz hs hzs HE hrr hrr' hd hd2 hx? hy? z1 z2 hl e0 e1 e2 e3 e4 f0 f1 f2 f3 f4
  go_enter Tryd.func30, Tryd.ntmps30
  go_wp2_with fail
  generalize w.alloc _ = w0 at HB HX ⊢
  have HS : Hid (∀ w', Kp w0 w' → ((w'.cell? ⟨w.heap.size, 4, none⟩ = some (.slice (some ⟨g, o, none⟩) 2 c) ∧ w'.cell? ⟨g, o, none⟩ = some (.int .i64 yo) ∧ w'.cell? ⟨g, o + 1, none⟩ = some (.string yw) ∧ w'.cell? ⟨g, o + 2, none⟩ = some (.string yt) ∧ w'.cell? ⟨g, o + 3, none⟩ = some (.string ya) ∧ w'.cell? ⟨g, o + 4, none⟩ = some (.slice C yn cc) ∧ w'.cell? ⟨g, o + 5, none⟩ = some (.int .i64 zo) ∧ w'.cell? ⟨g, o + 6, none⟩ = some (.string zw) ∧ w'.cell? ⟨g, o + 7, none⟩ = some (.string zt) ∧ w'.cell? ⟨g, o + 8, none⟩ = some (.string za) ∧ w'.cell? ⟨g, o + 9, none⟩ = some (.slice C' zn cc')) ∧ Kp w0 w')) := Lib.hid (fun w' h => ⟨HS0.out w' (HB.out.trans (Below.mono h HB.out.size)) ((HX.out.below h).2 4 _ rfl), h⟩)
  have HK0 := Lib.hid (Kp.drew w0)
  have HQk := Lib.hid (fun w1 (h : Kp w0 w1) => HQ.out w1 (HB.out.trans (Below.mono h HB.out.size)))
  clear HS0 HQ HX
  go_region_held3 (fun w' => (w'.cell? ⟨w.heap.size, 4, none⟩ = some (.slice (some ⟨g, o, none⟩) 2 c) ∧ w'.cell? ⟨g, o, none⟩ = some (.int .i64 yo) ∧ w'.cell? ⟨g, o + 1, none⟩ = some (.string yw) ∧ w'.cell? ⟨g, o + 2, none⟩ = some (.string yt) ∧ w'.cell? ⟨g, o + 3, none⟩ = some (.string ya) ∧ w'.cell? ⟨g, o + 4, none⟩ = some (.slice C yn cc) ∧ w'.cell? ⟨g, o + 5, none⟩ = some (.int .i64 zo) ∧ w'.cell? ⟨g, o + 6, none⟩ = some (.string zw) ∧ w'.cell? ⟨g, o + 7, none⟩ = some (.string zt) ∧ w'.cell? ⟨g, o + 8, none⟩ = some (.string za) ∧ w'.cell? ⟨g, o + 9, none⟩ = some (.slice C' zn cc')) ∧ Kp w0 w')
    (first | exact HS.out _ HK0.out | exact HS.out _ (by assumption))
    (first
      | (go_at_call 49; refine (HQk.out _ (by first | exact HK0.out | assumption)).mono ?_; rintro e w1 ⟨rfl, b1⟩; have hk1 : Kp w0 w1 := Kp.next (by first | exact HK0.out | assumption) b1))
  (try clear hHeld)
  go_wp2_with fail
  go_ret
  exact ⟨rfl, HB.out.trans (Below.mono hk1 HB.out.size)⟩
set_option maxRecDepth 100000 in
set_option maxHeartbeats 4000000 in
theorem adds_5 (wd tx af : ByteArray) (ps : List Tr) (A : Option Addr) (c d : Nat) (w : World) (hr : RdL (d + 1) w A ps) (hz : szT (.mk 5 wd tx af ps) ≤ 1048576) (hs : shB 5 wd tx af ps.length = true) :
    Calls Tryd.prog 30 #[ndV 5 wd tx af A ps.length c] w fun e w' => e = .returned (.bool (adB (.mk 5 wd tx af ps))) ∧ Below w.heap.size w w' := by
  simp only [shB] at hs
  simp at hs
  have hzs := szT_eq (.mk 5 wd tx af ps)
  simp only [op_mk, wd_mk, tx_mk, af_mk, ps_mk] at hzs
  have hl : ps.length = 2 := by omega
  have hx? : ps[0]? = some (ps.getD 0 default) := by rw [List.getD_eq_getElem?_getD, List.getElem?_eq_getElem (by omega)]; rfl
  have hy? : ps[1]? = some (ps.getD 1 default) := by rw [List.getD_eq_getElem?_getD, List.getElem?_eq_getElem (by omega)]; rfl
  have HE : Hid (adB (.mk 5 wd tx af ps) = eqB (ps.getD 0 default) (ps.getD 1 default)) := Lib.hid rfl
  rw [HE.out]
  rw [hl]
  obtain ⟨d', g, o, C, cc, hd, rfl, hg, e0, e1, e2, e3, e4, hrr⟩ := hr.get hx?
  obtain ⟨d2, g', o', C', cc', hd2, hgo, hg', f0, f1, f2, f3, f4, hrr'⟩ := hr.get hy?
  cases hgo
  obtain rfl : d2 = d' := by omega
  have z1 := szS_mem hx?
  have z2 := szS_mem hy?
  generalize ps.getD 0 default = y at *
  generalize ps.getD 1 default = z at *
  have HQ := Lib.hid (fun w1 (h : Below w.heap.size w w1) => enT_all d2 y z C C' cc cc' w1 (hrr.below h) (hrr'.below h) (by omega) (by omega))
  generalize eqB y z = q at *
  obtain ⟨yo, yw, yt, ya, yp⟩ := y
  obtain ⟨zo, zw, zt, za, zp⟩ := z
  simp only [op_mk, wd_mk, tx_mk, af_mk, ps_mk, Nat.zero_mul, Nat.add_zero, Nat.one_mul, Nat.add_assoc, Nat.reduceAdd] at e0 e1 e2 e3 e4 f0 f1 f2 f3 f4 HQ
  generalize yp.length = yn at *
  generalize zp.length = zn at *
  have HB := Lib.hid (box_below w (.cells #[.int .i64 5, .string wd, .string tx, .string af, .slice (some ⟨g, o, none⟩) 2 c] 30))
  have HX := Lib.hid (Bx.new w #[.int .i64 5, .string wd, .string tx, .string af, .slice (some ⟨g, o, none⟩) 2 c] 30)
  have HS0 : Hid (∀ w', Below w.heap.size w w' → w'.cell? ⟨w.heap.size, 4, none⟩ = some (.slice (some ⟨g, o, none⟩) 2 c) → (w'.cell? ⟨w.heap.size, 4, none⟩ = some (.slice (some ⟨g, o, none⟩) 2 c) ∧ w'.cell? ⟨g, o, none⟩ = some (.int .i64 yo) ∧ w'.cell? ⟨g, o + 1, none⟩ = some (.string yw) ∧ w'.cell? ⟨g, o + 2, none⟩ = some (.string yt) ∧ w'.cell? ⟨g, o + 3, none⟩ = some (.string ya) ∧ w'.cell? ⟨g, o + 4, none⟩ = some (.slice C yn cc) ∧ w'.cell? ⟨g, o + 5, none⟩ = some (.int .i64 zo) ∧ w'.cell? ⟨g, o + 6, none⟩ = some (.string zw) ∧ w'.cell? ⟨g, o + 7, none⟩ = some (.string zt) ∧ w'.cell? ⟨g, o + 8, none⟩ = some (.string za) ∧ w'.cell? ⟨g, o + 9, none⟩ = some (.slice C' zn cc'))) := Lib.hid (fun w' h h4 => by
    have hc : ∀ i, w'.cell? ⟨g, i, none⟩ = w.cell? ⟨g, i, none⟩ := fun i => h.cell (p := ⟨g, i, none⟩) hg
    exact ⟨h4, (hc _).trans e0, (hc _).trans e1, (hc _).trans e2, (hc _).trans e3, (hc _).trans e4, (hc _).trans f0, (hc _).trans f1, (hc _).trans f2, (hc _).trans f3, (hc _).trans f4⟩)
  clear hr hz hs hzs HE hrr hrr' hd hd2 hx? hy? z1 z2 hl e0 e1 e2 e3 e4 f0 f1 f2 f3 f4
  go_enter Tryd.func30, Tryd.ntmps30
  go_wp2_with fail
  generalize w.alloc _ = w0 at HB HX ⊢
  have HS : Hid (∀ w', Kp w0 w' → ((w'.cell? ⟨w.heap.size, 4, none⟩ = some (.slice (some ⟨g, o, none⟩) 2 c) ∧ w'.cell? ⟨g, o, none⟩ = some (.int .i64 yo) ∧ w'.cell? ⟨g, o + 1, none⟩ = some (.string yw) ∧ w'.cell? ⟨g, o + 2, none⟩ = some (.string yt) ∧ w'.cell? ⟨g, o + 3, none⟩ = some (.string ya) ∧ w'.cell? ⟨g, o + 4, none⟩ = some (.slice C yn cc) ∧ w'.cell? ⟨g, o + 5, none⟩ = some (.int .i64 zo) ∧ w'.cell? ⟨g, o + 6, none⟩ = some (.string zw) ∧ w'.cell? ⟨g, o + 7, none⟩ = some (.string zt) ∧ w'.cell? ⟨g, o + 8, none⟩ = some (.string za) ∧ w'.cell? ⟨g, o + 9, none⟩ = some (.slice C' zn cc')) ∧ Kp w0 w')) := Lib.hid (fun w' h => ⟨HS0.out w' (HB.out.trans (Below.mono h HB.out.size)) ((HX.out.below h).2 4 _ rfl), h⟩)
  have HK0 := Lib.hid (Kp.drew w0)
  have HQk := Lib.hid (fun w1 (h : Kp w0 w1) => HQ.out w1 (HB.out.trans (Below.mono h HB.out.size)))
  clear HS0 HQ HX
  go_region_held3 (fun w' => (w'.cell? ⟨w.heap.size, 4, none⟩ = some (.slice (some ⟨g, o, none⟩) 2 c) ∧ w'.cell? ⟨g, o, none⟩ = some (.int .i64 yo) ∧ w'.cell? ⟨g, o + 1, none⟩ = some (.string yw) ∧ w'.cell? ⟨g, o + 2, none⟩ = some (.string yt) ∧ w'.cell? ⟨g, o + 3, none⟩ = some (.string ya) ∧ w'.cell? ⟨g, o + 4, none⟩ = some (.slice C yn cc) ∧ w'.cell? ⟨g, o + 5, none⟩ = some (.int .i64 zo) ∧ w'.cell? ⟨g, o + 6, none⟩ = some (.string zw) ∧ w'.cell? ⟨g, o + 7, none⟩ = some (.string zt) ∧ w'.cell? ⟨g, o + 8, none⟩ = some (.string za) ∧ w'.cell? ⟨g, o + 9, none⟩ = some (.slice C' zn cc')) ∧ Kp w0 w')
    (first | exact HS.out _ HK0.out | exact HS.out _ (by assumption))
    (first
      | (go_at_call 49; refine (HQk.out _ (by first | exact HK0.out | assumption)).mono ?_; rintro e w1 ⟨rfl, b1⟩; have hk1 : Kp w0 w1 := Kp.next (by first | exact HK0.out | assumption) b1))
  (try clear hHeld)
  go_wp2_with fail
  go_ret
  exact ⟨rfl, HB.out.trans (Below.mono hk1 HB.out.size)⟩
theorem adds (y : Tr) (A : Option Addr) (c d : Nat) (w : World) (hr : RdL (d + 1) w A y.ps) (hz : szT y ≤ 1048576) (hs : shB y.op y.wd y.tx y.af y.ps.length = true) :
    Calls Tryd.prog 30 #[ndV y.op y.wd y.tx y.af A y.ps.length c] w fun e w' => e = .returned (.bool (adB y)) ∧ Below w.heap.size w w' := by
  obtain ⟨op, wd, tx, af, ps⟩ := y
  simp only [op_mk, wd_mk, tx_mk, af_mk, ps_mk] at *
  have ho : 1 ≤ op ∧ op ≤ 9 := by
    have h1 := hs
    unfold shB at h1
    repeat' split at h1
    all_goals first | omega | cases h1
  rcases (show op = 1 ∨ op = 2 ∨ op = 3 ∨ op = 4 ∨ op = 5 ∨ op = 6 ∨ op = 7 ∨ op = 8 ∨ op = 9 by omega) with rfl | rfl | rfl | rfl | rfl | rfl | rfl | rfl | rfl
  · exact adds_1 wd tx af ps A c d w hr hz hs
  · exact adds_2 wd tx af ps A c d w hr hz hs
  · exact adds_3 wd tx af ps A c d w hr hz hs
  · exact adds_4 wd tx af ps A c d w hr hz hs
  · exact adds_5 wd tx af ps A c d w hr hz hs
  · exact adds_6 wd tx af ps A c d w hr hz hs
  · exact adds_7 wd tx af ps A c d w hr hz hs
  · exact adds_8 wd tx af ps A c d w hr hz hs
  · exact adds_9 wd tx af ps A c d w hr hz hs
/-- a node that adds nothing has a part -/
theorem ad_part {y : Tr} (hs : shB y.op y.wd y.tx y.af y.ps.length = true) (h : adB y = true) : 0 < y.ps.length := by
  obtain ⟨op, wd, tx, af, ps⟩ := y
  simp only [op_mk, wd_mk, tx_mk, af_mk, ps_mk] at *
  rcases Nat.eq_zero_or_pos ps.length with h0 | h0
  · exfalso
    rw [h0] at hs
    unfold adB at h
    simp only [op_mk, tx_mk, af_mk, ps_mk] at h
    unfold shB at hs
    repeat' split at hs
    all_goals simp at hs
    all_goals (subst_vars; simp at h)
  · exact h0
set_option maxRecDepth 100000 in
set_option maxHeartbeats 4000000 in
theorem clo_sm (y : Tr) (A : Option Addr) (c B d : Nat) (F : List Nat) (w : World) (ho : OwL (d + 1) w A c y.ps F) (hF : F.Nodup) (hB : ∀ b ∈ F, B ≤ b) (hz : szT y ≤ 1048576) (hs : shB y.op y.wd y.tx y.af y.ps.length = true) :
    Calls Tryd.prog 29 #[ndV y.op y.wd y.tx y.af A y.ps.length c] w (NdPost (d + 1) w B (smF y)) := by
  have HA := Lib.hid (fun w1 (h : Below w.heap.size w w1) => adds y A c d w1 ((ho.below h).rd) hz hs)
  have b2 : ∀ o1 o2, Below w.heap.size w ((w.alloc o1).alloc o2) := fun o1 o2 => ((Below.refl _ w).alloc (Nat.le_refl _) o1).alloc (by simp) o2
  have HB2 := Lib.hid b2
  have HX := Lib.hid ((Bw.new w #[.int .i64 y.op, .string y.wd, .string y.tx, .string y.af, .slice A y.ps.length c] 30).below ((Below.refl _ _).alloc (Nat.le_refl _) (.cells #[.int .i64 0, .string ⟨#[]⟩, .string ⟨#[]⟩, .string ⟨#[]⟩, .slice none 0 0] 30)))
  have HY := Lib.hid (Bw.new (w.alloc (.cells #[.int .i64 y.op, .string y.wd, .string y.tx, .string y.af, .slice A y.ps.length c] 30)) #[.int .i64 0, .string ⟨#[]⟩, .string ⟨#[]⟩, .string ⟨#[]⟩, .slice none 0 0] 30)
  rw [show (w.alloc (.cells #[.int .i64 y.op, .string y.wd, .string y.tx, .string y.af, .slice A y.ps.length c] 30)).heap.size = w.heap.size + 1 by simp] at HY
  have HBw := Lib.hid (HB2.out (.cells #[.int .i64 y.op, .string y.wd, .string y.tx, .string y.af, .slice A y.ps.length c] 30) (.cells #[.int .i64 0, .string ⟨#[]⟩, .string ⟨#[]⟩, .string ⟨#[]⟩, .slice none 0 0] 30))
  have hblt : ∀ b ∈ F, b < w.heap.size := ho.lt
  have HBl := Lib.hid hblt
  clear b2 HB2 hblt
  have HOw := Lib.hid ho
  have HFn := Lib.hid hF
  have HBb := Lib.hid hB
  cases hq : adB y with
  | true =>
    have hlen := ad_part hs hq
    have hx? : y.ps[0]? = some (y.ps.getD 0 default) := by rw [List.getD_eq_getElem?_getD, List.getElem?_eq_getElem hlen]; rfl
    have HE : Hid (smF y = y.ps.getD 0 default) := Lib.hid (by unfold smF; rw [if_pos hq])
    rw [HE.out]
    obtain ⟨g, C, cc, f, rfl, hg, c0, c1, c2, c3, c4, hof, hnf, hmf⟩ := OwL.part (d := d) ho hF hx?
    simp only [Nat.zero_mul, Nat.zero_add] at c0 c1 c2 c3 c4
    rw [hq] at HA
    have HOf := Lib.hid hof
    have HNf := Lib.hid hnf
    have HMf := Lib.hid hmf
    have HG := Lib.hid hg
    have HC := Lib.hid (fun (w1 : World) (h : Below w.heap.size w w1) => (show w1.cell? ⟨g, 0, none⟩ = some (.int .i64 (y.ps.getD 0 default).op) ∧ w1.cell? ⟨g, 1, none⟩ = some (.string (y.ps.getD 0 default).wd) ∧ w1.cell? ⟨g, 2, none⟩ = some (.string (y.ps.getD 0 default).tx) ∧ w1.cell? ⟨g, 3, none⟩ = some (.string (y.ps.getD 0 default).af) ∧ w1.cell? ⟨g, 4, none⟩ = some (.slice C (y.ps.getD 0 default).ps.length cc) from ⟨(h.cell (p := ⟨g, 0, none⟩) hg).trans c0, (h.cell (p := ⟨g, 1, none⟩) hg).trans c1, (h.cell (p := ⟨g, 2, none⟩) hg).trans c2, (h.cell (p := ⟨g, 3, none⟩) hg).trans c3, (h.cell (p := ⟨g, 4, none⟩) hg).trans c4⟩))
    generalize y.ps.getD 0 default = z at *
    obtain ⟨op, wd, tx, af, ps⟩ := y
    obtain ⟨zo, zw, zt, za, zp⟩ := z
    simp only [op_mk, wd_mk, tx_mk, af_mk, ps_mk] at *
    obtain ⟨zn, hzn⟩ : ∃ n, n = zp.length := ⟨_, rfl⟩
    have HZ := Lib.hid hzn
    rw [← hzn] at HC
    generalize ps.length = n at *
    clear ho hF hB hz hs hq hx? hof hnf hmf hg c0 c1 c2 c3 c4 hzn HE
    go_enter Tryd.func29, Tryd.ntmps29
    go_wp2_with fail
    generalize (w.alloc _).alloc _ = w0 at HX HY HBw ⊢
    refine (HA.out _ HBw.out).mono ?_
    rintro e w1 ⟨rfl, b1⟩
    have B1 := HBw.out.trans (b1.mono HBw.out.size)
    have hX1 := HX.out.below b1
    have hY1 := HY.out.below b1
    obtain ⟨c0, c1, c2, c3, c4⟩ := HC.out w1 B1
    have x4 := hX1.1.2 4 _ rfl
    have y0 := hY1.1.2 0 _ rfl
    have y1 := hY1.1.2 1 _ rfl
    have y2 := hY1.1.2 2 _ rfl
    have y3 := hY1.1.2 3 _ rfl
    have y4 := hY1.1.2 4 _ rfl
    have q0 := hY1.2 0
    have q1 := hY1.2 1
    have q2 := hY1.2 2
    have q3 := hY1.2 3
    have q4 := hY1.2 4
    have hsy := hY1.1.1
    have hgw := Nat.lt_of_lt_of_le HG.out B1.size
    have HB1 := Lib.hid B1
    clear b1 hX1 hY1 B1 HA HC
    go_wp2_with fail
    refine bodyPost_ret (v := ndV zo zw zt za C zn cc) (by simp [results, Tryd.results29, go_sem, *]) rfl ?_
    refine ⟨C, cc, f, by rw [HZ.out]; rfl, ?_, HNf.out, fun b hb => HBb.out b (HMf.out b hb), ?_⟩
    · have O2 := HOf.out.below HB1.out
      have hF2 : ∀ b ∈ f, b ≠ w.heap.size + 1 := fun b hb e => by have := HBl.out b (HMf.out b hb); omega
      iterate 5 (refine OwL.keep ?_ (fun b hb => Below.heap_setCell _ _ _ b (hF2 b hb)))
      exact O2
    · have B2 := HB1.out
      iterate 5 (refine Below.setCell ?_ (by simp) _)
      exact B2
  | false =>
    have HE : Hid (smF y = y) := Lib.hid (by unfold smF; rw [if_neg (by rw [hq]; simp)])
    rw [HE.out]
    rw [hq] at HA
    obtain ⟨op, wd, tx, af, ps⟩ := y
    simp only [op_mk, wd_mk, tx_mk, af_mk, ps_mk] at *
    obtain ⟨n, hn⟩ : ∃ n, n = ps.length := ⟨_, rfl⟩
    have HN := Lib.hid hn
    rw [← hn] at HA HX HY HBw ⊢
    clear ho hF hB hz hs hq hn HE
    go_enter Tryd.func29, Tryd.ntmps29
    go_wp2_with fail
    generalize (w.alloc _).alloc _ = w0 at HX HY HBw ⊢
    refine (HA.out _ HBw.out).mono ?_
    rintro e w1 ⟨rfl, b1⟩
    have B1 := HBw.out.trans (b1.mono HBw.out.size)
    have hX1 := HX.out.below b1
    have hY1 := HY.out.below b1
    have x0 := hX1.1.2 0 _ rfl
    have x1 := hX1.1.2 1 _ rfl
    have x2 := hX1.1.2 2 _ rfl
    have x3 := hX1.1.2 3 _ rfl
    have x4 := hX1.1.2 4 _ rfl
    have hxs := hX1.1.1
    have y0 := hY1.1.2 0 _ rfl
    have y1 := hY1.1.2 1 _ rfl
    have y2 := hY1.1.2 2 _ rfl
    have y3 := hY1.1.2 3 _ rfl
    have y4 := hY1.1.2 4 _ rfl
    have q0 := hY1.2 0
    have q1 := hY1.2 1
    have q2 := hY1.2 2
    have q3 := hY1.2 3
    have q4 := hY1.2 4
    have hsy := hY1.1.1
    have HB1 := Lib.hid B1
    clear b1 hX1 hY1 B1 HA
    go_wp2_with fail
    refine bodyPost_ret (v := ndV op wd tx af A n c) (by simp [results, Tryd.results29, go_sem, *]) rfl ?_
    refine ⟨A, c, F, by rw [HN.out]; rfl, ?_, HFn.out, HBb.out, ?_⟩
    · have O2 := HOw.out.below HB1.out
      have hF2 : ∀ b ∈ F, b ≠ w.heap.size + 1 := fun b hb e => by have := HBl.out b hb; omega
      iterate 5 (refine OwL.keep ?_ (fun b hb => Below.heap_setCell _ _ _ b (hF2 b hb)))
      exact O2
    · have B2 := HB1.out
      iterate 5 (refine Below.setCell ?_ (by simp) _)
      exact B2
end Go.Proofs.YtldfdfdleaemaaaDoor.Nd
