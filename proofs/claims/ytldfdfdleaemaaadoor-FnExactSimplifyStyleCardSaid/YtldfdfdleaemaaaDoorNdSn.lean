/-
  changeNodes at SimplifyStyle's change; SimplifyStyle of the program.
-/
import Derived.Test.YtldfdfdleaemaaaDoorNdSc
import Derived.Test.YtldfdfdleaemaaaDoorNdCk
namespace Go.Proofs.YtldfdfdleaemaaaDoor.Nd
open Go.RowKit NdPl Ns
set_option linter.unusedSimpArgs false
set_option linter.unusedVariables false

set_option maxRecDepth 100000 in
set_option maxHeartbeats 4000000 in
theorem nodesSm (nm : Int) (x : Tr) (B : Option Addr) (c d : Nat) (w : World) (hr : RdL d w B x.ps) (hz : szT x ≤ 1048576) (hT : Tabs w) (hcn : True) :
    Calls Tryd.prog 23 #[stV nm x.op x.wd x.tx x.af B x.ps.length c, .func (.func 29) #[] #[]] w (StPost (d + 1) w w.heap.size (gdB nm x) (cgN (smF) nm x) (cgT (smF) nm x)) := by
  have HV := Lib.hid (fun w1 (h : Below w.heap.size w w1) => valid_i nm x B c d w1 (hr.below h) hz (hT.below h) (gdB nm x) rfl)
  have HC : Hid (gdB nm x = true → ∀ w1, Below w.heap.size w w1 → Calls Tryd.prog 44 #[ndV x.op x.wd x.tx x.af B x.ps.length c, .func (.func 29) #[] #[]] w1 (NdPost (d + 1) w1 w1.heap.size (chT (smF) x))) := Lib.hid (fun hg w1 h => by
    have h1 : okT 5 x = true := by unfold gdB at hg; simp only [Bool.and_eq_true] at hg; exact hg.1.2
    exact chSm_all d x B c 5 w1 (hr.below h) hz h1 (show True from trivial))
  have HN : Hid (cgN (smF) nm x = if gdB nm x = true then nm else 0) := Lib.hid rfl
  have HG : Hid (cgT (smF) nm x = if gdB nm x = true then chT (smF) x else zT) := Lib.hid rfl
  generalize cgN (smF) nm x = rn at *
  generalize cgT (smF) nm x = rt at *
  generalize gdB nm x = ok at *
  obtain ⟨z, hz'⟩ : ∃ z, z = chT (smF) x := ⟨_, rfl⟩
  rw [← hz'] at HC HG
  clear hr hz hT hcn hz'
  obtain ⟨op, wd, tx, af, ps⟩ := x
  simp only [op_mk, wd_mk, tx_mk, af_mk, ps_mk] at *
  generalize ps.length = n at *
  have HB := Lib.hid (((Below.refl _ w).alloc (Nat.le_refl _) (.cells #[.int .i64 nm, .int .i64 op, .string wd, .string tx, .string af, .slice B n c] 32)).alloc (by simp) (.cells #[.int .i64 0, .int .i64 0, .string ⟨#[]⟩, .string ⟨#[]⟩, .string ⟨#[]⟩, .slice none 0 0] 32))
  have HX := Lib.hid ((Bw.new w #[.int .i64 nm, .int .i64 op, .string wd, .string tx, .string af, .slice B n c] 32).below ((Below.refl _ _).alloc (Nat.le_refl _) (.cells #[.int .i64 0, .int .i64 0, .string ⟨#[]⟩, .string ⟨#[]⟩, .string ⟨#[]⟩, .slice none 0 0] 32)))
  have HY := Lib.hid (Bw.new (w.alloc (.cells #[.int .i64 nm, .int .i64 op, .string wd, .string tx, .string af, .slice B n c] 32)) #[.int .i64 0, .int .i64 0, .string ⟨#[]⟩, .string ⟨#[]⟩, .string ⟨#[]⟩, .slice none 0 0] 32)
  have hs1 : (w.alloc (.cells #[.int .i64 nm, .int .i64 op, .string wd, .string tx, .string af, .slice B n c] 32)).heap.size = w.heap.size + 1 := by simp
  rw [hs1] at HY
  clear hs1
  go_enter Tryd.func23, Tryd.ntmps23
  go_wp2_with fail
  have HS2 : Hid (w.heap.size + 2 ≤ ((w.alloc (.cells #[.int .i64 nm, .int .i64 op, .string wd, .string tx, .string af, .slice B n c] 32)).alloc (.cells #[.int .i64 0, .int .i64 0, .string ⟨#[]⟩, .string ⟨#[]⟩, .string ⟨#[]⟩, .slice none 0 0] 32)).heap.size) := Lib.hid (by simp)
  generalize (w.alloc _).alloc _ = w0 at HB HX HY HS2 ⊢
  refine (HV.out _ HB.out).mono ?_
  rintro e w1 ⟨rfl, b1⟩
  have HX1 := Lib.hid (HX.out.below b1)
  have HY1 := Lib.hid (HY.out.below b1)
  have HB1 := Lib.hid (HB.out.trans (b1.mono HB.out.size))
  have HS3 := Lib.hid (Nat.le_trans HS2.out b1.size)
  clear b1 HX HY HB HV HS2
  cases ok with
  | false =>
    have hY := HY1.out
    have y0 := hY.1.2 0 _ rfl
    have y1 := hY.1.2 1 _ rfl
    have y2 := hY.1.2 2 _ rfl
    have y3 := hY.1.2 3 _ rfl
    have y4 := hY.1.2 4 _ rfl
    have y5 := hY.1.2 5 _ rfl
    have q0 := hY.2 0
    have q1 := hY.2 1
    have q2 := hY.2 2
    have q3 := hY.2 3
    have q4 := hY.2 4
    have q5 := hY.2 5
    have hsz : w.heap.size + 1 < w1.heap.size := hY.1.1
    clear hY HY1 HX1
    go_wp2_with fail
    refine bodyPost_ret (v := .tuple #[stV 0 0 ⟨#[]⟩ ⟨#[]⟩ ⟨#[]⟩ none 0 0, .bool false]) (by simp [results, Tryd.results23, go_sem, *]) rfl ?_
    refine ⟨none, 0, [], by rw [HN.out, HG.out]; rfl, by rw [HG.out]; exact OwL.nil, List.nodup_nil, fun b hb => (by cases hb), ?_⟩
    have B2 := HB1.out
    first
      | (iterate 6 (refine Below.setCell ?_ (by simp <;> omega) _)
         exact B2)
      | exact B2
  | true =>
    have HCd := Lib.hid (HC.out rfl w1.drew HB1.out.drew)
    have hX : Bw w1.drew w.heap.size [.int .i64 nm, .int .i64 op, .string wd, .string tx, .string af, .slice B n c] := HX1.out
    have HXd := Lib.hid hX
    have x0 := hX.1.2 0 _ rfl
    have x1 := hX.1.2 1 _ rfl
    have x2 := hX.1.2 2 _ rfl
    have x3 := hX.1.2 3 _ rfl
    have x4 := hX.1.2 4 _ rfl
    have x5 := hX.1.2 5 _ rfl
    have HYd : Hid (Bw w1.drew (w.heap.size + 1) [.int .i64 0, .int .i64 0, .string ⟨#[]⟩, .string ⟨#[]⟩, .string ⟨#[]⟩, .slice none 0 0]) := HY1
    have HSd : Hid (w.heap.size + 2 ≤ w1.drew.heap.size) := HS3
    have HBd := Lib.hid HB1.out.drew
    clear hX HX1 HY1 HB1 HC HS3
    go_wp2_with fail
    go_region_with (go_at_call 44; refine HCd.out.mono ?_; rintro e w6 ⟨A6, c6, F6, rfl, o6, n6, f6, b6⟩; have HX6 := Lib.hid (HXd.out.below b6); have HY6 := Lib.hid (HYd.out.below b6); have v0 := HX6.out.1.2 0 _ rfl; have y0 := HY6.out.1.2 0 _ rfl; have y1 := HY6.out.1.2 1 _ rfl; have y2 := HY6.out.1.2 2 _ rfl; have y3 := HY6.out.1.2 3 _ rfl; have y4 := HY6.out.1.2 4 _ rfl; have y5 := HY6.out.1.2 5 _ rfl; have q0 := HY6.out.2 0; have q1 := HY6.out.2 1; have q2 := HY6.out.2 2; have q3 := HY6.out.2 3; have q4 := HY6.out.2 4; have q5 := HY6.out.2 5; have hsz6 : w.heap.size + 1 < w6.heap.size := HY6.out.1.1)
    all_goals
      have HO6 := Lib.hid o6
      have HN6 := Lib.hid n6
      have HF6 := Lib.hid f6
      have HB6 := Lib.hid (HBd.out.trans (b6.mono HBd.out.size))
      obtain ⟨zo, zw, zt, za, zp⟩ := z
      simp only [op_mk, wd_mk, tx_mk, af_mk, ps_mk] at HO6 ⊢
      obtain ⟨zn, hzn⟩ : ∃ n, n = zp.length := ⟨_, rfl⟩
      have HZn := Lib.hid hzn
      rw [← hzn]
      clear o6 n6 f6 b6 HX6 HY6 hzn HCd HXd HYd HBd
      go_wp2_with fail
      refine bodyPost_ret (v := .tuple #[stV nm zo zw zt za A6 zn c6, .bool true]) (by simp [results, Tryd.results23, go_sem, *]) rfl ?_
      refine ⟨A6, c6, F6, by rw [HN.out, HG.out, HZn.out]; rfl, ?_, HN6.out, fun b hb => by have := HF6.out b hb; have := HSd.out; omega, ?_⟩
      · rw [HG.out]
        have O2 := HO6.out
        have hF2 : ∀ b ∈ F6, w.heap.size + 2 ≤ b := fun b hb => Nat.le_trans HSd.out (HF6.out b hb)
        iterate 6 (refine own_off ?_ hF2 (by simp <;> omega) _)
        exact O2
      · have B2 := HB6.out
        iterate 6 (refine Below.setCell ?_ (by simp <;> omega) _)
        exact B2

theorem small_sm (nm : Int) (x : Tr) : szT (cgT smF nm x) ≤ 100000 ∧ cntT (cgT smF nm x) ≤ 100000 := by
  unfold cgT
  split
  · rename_i h
    have h1 := gd_size h
    have h3 := ch_size smF 0 smF_size x
    omega
  · exact zT_size
set_option maxRecDepth 100000 in
set_option maxHeartbeats 4000000 in
theorem simple_i (nm : Int) (x : Tr) (B : Option Addr) (c d : Nat) (w : World) (hr : RdL d w B x.ps) (hz : szT x ≤ 1048576) (hT : Tabs w) :
    Calls Tryd.prog 14 #[stV nm x.op x.wd x.tx x.af B x.ps.length c] w (StPost (d + 1) w w.heap.size (gdB nm x) (cgN smF nm x) (cgT smF nm x)) := by
  have HC := Lib.hid (fun w1 (h : Below w.heap.size w w1) => nodesSm nm x B c d w1 (hr.below h) hz (hT.below h) trivial)
  generalize cgN smF nm x = cn at *
  generalize cgT smF nm x = z at *
  generalize gdB nm x = ok at *
  clear hr hz hT
  obtain ⟨op, wd, tx, af, ps⟩ := x
  simp only [op_mk, wd_mk, tx_mk, af_mk, ps_mk] at *
  generalize ps.length = n at *
  have HW := Lib.hid (two_world w #[.int .i64 nm, .int .i64 op, .string wd, .string tx, .string af, .slice B n c] #[.int .i64 0, .int .i64 0, .string ⟨#[]⟩, .string ⟨#[]⟩, .string ⟨#[]⟩, .slice none 0 0] 32 32)
  go_enter Tryd.func14, Tryd.ntmps14
  go_wp2_with fail
  generalize (w.alloc _).alloc _ = w0 at HW ⊢
  obtain ⟨hB0, hX0, hY0, hS0⟩ := HW.out
  clear HW
  have HB1 := Lib.hid hB0
  have HY1 := Lib.hid hY0
  have HS1 := Lib.hid hS0
  refine (HC.out _ hB0).mono ?_
  rintro e w3 ⟨A6, c6, F6, rfl, o6, n6, f6, b6⟩
  have HO6 := Lib.hid o6
  have HN6 := Lib.hid n6
  have HF6 := Lib.hid f6
  have HB6 := Lib.hid (HB1.out.trans (b6.mono HB1.out.size))
  have hY := HY1.out.below b6
  obtain ⟨zo, zw, zt, za, zp⟩ := z
  simp only [op_mk, wd_mk, tx_mk, af_mk, ps_mk] at HO6 ⊢
  obtain ⟨zn, hzn⟩ : ∃ n, n = zp.length := ⟨_, rfl⟩
  have HZn := Lib.hid hzn
  rw [← hzn]
  have y0 := hY.1.2 0 _ rfl
  have q0 := hY.2 0
  have y1 := hY.1.2 1 _ rfl
  have q1 := hY.2 1
  have y2 := hY.1.2 2 _ rfl
  have q2 := hY.2 2
  have y3 := hY.1.2 3 _ rfl
  have q3 := hY.2 3
  have y4 := hY.1.2 4 _ rfl
  have q4 := hY.2 4
  have y5 := hY.1.2 5 _ rfl
  have q5 := hY.2 5
  have hsz9 : w.heap.size + 1 < w3.heap.size := hY.1.1
  clear o6 n6 f6 b6 hY HY1 hzn HC hX0 hY0 hB0
  go_wp2_with fail
  refine bodyPost_ret (v := .tuple #[stV cn zo zw zt za A6 zn c6, .bool ok]) (by simp [results, Tryd.results14, go_sem, *]) rfl ?_
  refine ⟨A6, c6, F6, by rw [HZn.out]; rfl, ?_, HN6.out, fun b hb => by have := HF6.out b hb; have := HS1.out; omega, ?_⟩
  · have O2 := HO6.out
    have hF2 : ∀ b ∈ F6, w.heap.size + 2 ≤ b := fun b hb => Nat.le_trans HS1.out (HF6.out b hb)
    iterate 6 (refine own_off ?_ hF2 (by simp <;> omega) _)
    exact O2
  · have B2 := HB6.out
    iterate 6 (refine Below.setCell ?_ (by simp <;> omega) _)
    exact B2
end Go.Proofs.YtldfdfdleaemaaaDoor.Nd
