/-
  Contracts of sizeOf, IsValidStyle and CountNodes of the program.
-/
import Derived.Test.YtbibjcmfgpmddaaDoorNdG3
namespace Go.Proofs.YtbibjcmfgpmddaaDoor.Nd
open Go.RowKit NdPl Ns LaidS
set_option linter.unusedSimpArgs false
set_option linter.unusedVariables false

/-- what sizeOf answers -/
def szV (nm : Int) (x : Tr) : Value := if gdB nm x = true then .tuple #[.agg #[.int .i64 (cntT x), .int .i64 (dpT x)], .bool true] else .tuple #[.agg #[.int .i64 0, .int .i64 0], .bool false]
theorem sz_gb {w w' : World} {b bs cn q : Nat} (h : Sz w b cn q) (hg : w.grownBy w' (some bs)) (hne : b ≠ bs) : Sz w' b cn q := by
  obtain ⟨h0, h1, h2, h3, h4⟩ := h
  have hk := hg.block b h0 (fun e => hne (Option.some.inj e))
  exact ⟨Nat.lt_of_lt_of_le h0 hg.size, (World.cell?_of_block (a := ⟨b, 0, none⟩) hk).trans h1, (World.cell?_of_block (a := ⟨b, 1, none⟩) hk).trans h2, (World.frozen?_of_block (a := ⟨b, 0, none⟩) hk).trans h3, (World.frozen?_of_block (a := ⟨b, 1, none⟩) hk).trans h4⟩
theorem sz_new (w : World) (t : TypeId) : Sz (w.alloc (.cells #[.int .i64 0, .int .i64 0] t)) w.heap.size 0 0 :=
  ⟨by simp, by simp, by simp, by simp, by simp⟩
theorem size_world (w : World) (o : Obj) (t : TypeId) : Below w.heap.size w (((w.alloc o).alloc (.cells #[.int .i64 0, .int .i64 0] t)).alloc (.cells #[.int .i64 0, .int .i64 0] t)) ∧
    Sz (((w.alloc o).alloc (.cells #[.int .i64 0, .int .i64 0] t)).alloc (.cells #[.int .i64 0, .int .i64 0] t)) (w.heap.size + 2) 0 0 ∧ Sz (((w.alloc o).alloc (.cells #[.int .i64 0, .int .i64 0] t)).alloc (.cells #[.int .i64 0, .int .i64 0] t)) (w.heap.size + 1) 0 0 := by
  have h1 := sz_new (w.alloc o) t
  have h2 := sz_new ((w.alloc o).alloc (.cells #[.int .i64 0, .int .i64 0] t)) t
  have e1 : (w.alloc o).heap.size = w.heap.size + 1 := by simp
  have e2 : ((w.alloc o).alloc (.cells #[.int .i64 0, .int .i64 0] t)).heap.size = w.heap.size + 2 := by simp
  rw [e1] at h1
  rw [e2] at h2
  exact ⟨(((Below.refl _ w).alloc (Nat.le_refl _) _).alloc (by simp) _).alloc (by simp; omega) _, h2, h1.below ((Below.refl _ _).alloc (Nat.le_refl _) _)⟩
set_option maxRecDepth 100000 in
set_option maxHeartbeats 4000000 in
theorem size_i (nm : Int) (x : Tr) (B : Option Addr) (c d : Nat) (w : World) (hr : RdL d w B x.ps) (hz : szT x ≤ 1048576) (hT : Tabs w) :
    Calls Tryd.prog 30 #[stV nm x.op x.wd x.tx x.af B x.ps.length c] w fun e w' => e = .returned (szV nm x) ∧ Below w.heap.size w w' := by
  have HV : Hid (szV nm x = if gdB nm x = true then .tuple #[.agg #[.int .i64 (cntT x), .int .i64 (dpT x)], .bool true] else .tuple #[.agg #[.int .i64 0, .int .i64 0], .bool false]) := Lib.hid rfl
  have HG : Hid (gdB nm x = (decide (1 ≤ nm ∧ nm ≤ 4) && (okT 5 x && decide (0 + cntT x ≤ 30)))) := Lib.hid (by unfold gdB; rw [Bool.and_assoc, Nat.zero_add])
  have HDp : Hid (1 ≤ dpT x) := Lib.hid (by rw [dpT_eq]; omega)
  have HA := Lib.hid (fun w' (h : Below w.heap.size w w') (hs : Sz w' (w.heap.size + 2) 0 0) => add_all 5 (Nat.le_refl _) w (w.heap.size + 2) (by omega) hT x B c d w' 0 0 1 hr hz h hs (by decide) (by decide) (by decide))
  have e1 : ((1 : Nat) : Int) = 1 := rfl
  rw [e1] at HA
  clear e1 hr hz hT
  generalize szV nm x = v at *
  generalize gdB nm x = gd at *
  generalize (okT 5 x && decide (0 + cntT x ≤ 30)) = ok at *
  generalize cntT x = ct at *
  generalize dpT x = dp at *
  obtain ⟨op, wd, tx, af, ps⟩ := x
  simp only [Tr.op, Tr.wd, Tr.tx, Tr.af, Tr.ps] at *
  generalize ps.length = n at *
  have HW := Lib.hid (size_world w (.cells #[.int .i64 nm, .int .i64 op, .string wd, .string tx, .string af, .slice B n c] 35) 59)
  by_cases h1 : nm < 1
  · have HE : Hid (gd = false) := Lib.hid (by rw [HG.out, decide_eq_false (by omega), Bool.false_and])
    go_enter Tryd.func30, Tryd.ntmps30
    go_wp2_with fail
    refine bodyPost_ret (v := .tuple #[.agg #[.int .i64 0, .int .i64 0], .bool false]) (by simp [results, Tryd.results30, go_sem]) rfl ⟨by rw [HV.out, HE.out]; rfl, ?_⟩
    exact HW.out.1
  by_cases h4 : 4 < nm
  · have HE : Hid (gd = false) := Lib.hid (by rw [HG.out, decide_eq_false (by omega), Bool.false_and])
    go_enter Tryd.func30, Tryd.ntmps30
    go_wp2_with fail
    refine bodyPost_ret (v := .tuple #[.agg #[.int .i64 0, .int .i64 0], .bool false]) (by simp [results, Tryd.results30, go_sem]) rfl ⟨by rw [HV.out, HE.out]; rfl, ?_⟩
    exact HW.out.1
  · have h1' : (1 : Int) ≤ nm := by omega
    have h4' : nm ≤ 4 := by omega
    have HE : Hid (gd = ok) := Lib.hid (by rw [HG.out, decide_eq_true (by omega), Bool.true_and])
    clear h1 h4
    go_enter Tryd.func30, Tryd.ntmps30
    go_wp2_with fail
    generalize ((w.alloc _).alloc _).alloc _ = w3 at HW ⊢
    refine (HA.out _ HW.out.1 HW.out.2.1).mono ?_
    rintro e w4 ⟨cn', q', rfl, g4, z4, hp⟩
    obtain ⟨r0, r1, r2, r3, r4⟩ := sz_gb HW.out.2.2 g4 (by omega)
    obtain ⟨y0, y1, y2, y3, y4⟩ := z4
    have B4 := Lib.hid (gb_below HW.out.1 g4 (by omega))
    clear g4 HW HA
    cases ok with
    | false =>
      clear hp y1 y2 y3 y4
      go_wp2_with fail
      refine bodyPost_ret (v := .tuple #[.agg #[.int .i64 0, .int .i64 0], .bool false]) (by simp [results, Tryd.results30, go_sem, *]) rfl ⟨by rw [HV.out, HE.out]; rfl, ?_⟩
      iterate 2 (refine Below.setCell ?_ (by simp) _)
      exact B4.out
    | true =>
      obtain ⟨p1, p2, p3⟩ := hp rfl
      have Hcn : Hid (cn' = ct) := Lib.hid (by omega)
      have Hq : Hid (q' = dp) := Lib.hid (by have := HDp.out; omega)
      clear p1 p2 p3 hp
      go_wp2_with fail
      refine bodyPost_ret (v := .tuple #[.agg #[.int .i64 cn', .int .i64 q'], .bool true]) (by simp [results, Tryd.results30, go_sem, *]) rfl ⟨by rw [HV.out, HE.out, Hcn.out, Hq.out]; rfl, ?_⟩
      iterate 2 (refine Below.setCell ?_ (by simp) _)
      exact B4.out
set_option maxHeartbeats 2000000 in
theorem valid_i (nm : Int) (x : Tr) (B : Option Addr) (c d : Nat) (w : World) (hr : RdL d w B x.ps) (hz : szT x ≤ 1048576) (hT : Tabs w) (r : Bool) (hg : gdB nm x = r) :
    Calls Tryd.prog 17 #[stV nm x.op x.wd x.tx x.af B x.ps.length c] w fun e w' => e = .returned (.bool r) ∧ Below w.heap.size w w' := by
  have HG := Lib.hid (fun w1 (h : Below w.heap.size w w1) => size_i nm x B c d w1 (hr.below h) hz (hT.below h))
  have HV : Hid (szV nm x = if gdB nm x = true then .tuple #[.agg #[.int .i64 (cntT x), .int .i64 (dpT x)], .bool true] else .tuple #[.agg #[.int .i64 0, .int .i64 0], .bool false]) := Lib.hid rfl
  have HF : Hid (∃ a b : Int, szV nm x = .tuple #[.agg #[.int .i64 a, .int .i64 b], .bool r]) := Lib.hid (by
    rw [HV.out, hg]
    cases r
    · exact ⟨0, 0, rfl⟩
    · exact ⟨_, _, rfl⟩)
  obtain ⟨a, b, hab⟩ := HF.out
  rw [hab] at HG
  clear hr hz hT hg HV HF hab
  obtain ⟨op, wd, tx, af, ps⟩ := x
  simp only [Tr.op, Tr.wd, Tr.tx, Tr.af, Tr.ps] at *
  generalize ps.length = n at *
  have HB := Lib.hid (box_below w (.cells #[.int .i64 nm, .int .i64 op, .string wd, .string tx, .string af, .slice B n c] 35))
  go_enter Tryd.func17, Tryd.ntmps17
  go_wp2_with fail
  refine (HG.out _ HB.out).mono ?_
  rintro e w1 ⟨rfl, b1⟩
  have B1 := HB.out.trans (b1.mono HB.out.size)
  go_wp2_with fail
  go_ret
  exact ⟨rfl, B1.alloc B1.size _⟩
end Go.Proofs.YtbibjcmfgpmddaaDoor.Nd
