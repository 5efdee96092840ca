/-
  Contracts of changeNodes at the changes that ReplaceField and ChooseKind make, and of these two.
-/
import Derived.Test.YtldfdfdleaemaaaDoorNdCh
import Derived.Test.YtldfdfdleaemaaaDoorNdG4
namespace Go.Proofs.YtldfdfdleaemaaaDoor.Nd
open Go.RowKit NdPl Ns
set_option linter.unusedSimpArgs false
set_option linter.unusedVariables false

/-- the zero node -/
def zT : Tr := .mk 0 ⟨#[]⟩ ⟨#[]⟩ ⟨#[]⟩ []
/-- a style and whether it is one, in memory of its own from B on -/
def StPost (d : Nat) (w : World) (B : Nat) (r : Bool) (nm : Int) (z : Tr) (e : Ending) (w' : World) : Prop :=
  ∃ (A : Option Addr) (c : Nat) (F : List Nat), e = .returned (.tuple #[stV nm z.op z.wd z.tx z.af A z.ps.length c, .bool r]) ∧ OwL d w' A c z.ps F ∧ F.Nodup ∧ (∀ b ∈ F, B ≤ b) ∧ Below w.heap.size w w'
/-- what a change of all nodes answers -/
def cgN (f : Tr → Tr) (nm : Int) (x : Tr) : Int := if gdB nm x = true then nm else 0
def cgT (f : Tr → Tr) (nm : Int) (x : Tr) : Tr := if gdB nm x = true then chT f x else zT

set_option maxRecDepth 100000 in
set_option maxHeartbeats 4000000 in
theorem nodesRp (b1 b2 : Nat) (old fld : ByteArray) (nm : Int) (x : Tr) (B : Option Addr) (c d : Nat) (w : World) (hr : RdL d w B x.ps) (hz : szT x ≤ 1048576) (hT : Tabs w) (hcn : (Bx w b1 [.string old] ∧ Bx w b2 [.string fld])) :
    Calls Tryd.prog 23 #[stV nm x.op x.wd x.tx x.af B x.ps.length c, .func (.func 24) #[] #[.pointer (some ⟨b1, 0, none⟩), .pointer (some ⟨b2, 0, none⟩)]] w (StPost (d + 1) w w.heap.size (gdB nm x) (cgN (rpF old fld) nm x) (cgT (rpF old fld) nm x)) := by
  have HV := Lib.hid (fun w1 (h : Below w.heap.size w w1) => valid_i nm x B c d w1 (hr.below h) hz (hT.below h) (gdB nm x) rfl)
  have HC : Hid (gdB nm x = true → ∀ w1, Below w.heap.size w w1 → Calls Tryd.prog 44 #[ndV x.op x.wd x.tx x.af B x.ps.length c, .func (.func 24) #[] #[.pointer (some ⟨b1, 0, none⟩), .pointer (some ⟨b2, 0, none⟩)]] w1 (NdPost (d + 1) w1 w1.heap.size (chT (rpF old fld) x))) := Lib.hid (fun hg w1 h => by
    have h1 : okT 5 x = true := by unfold gdB at hg; simp only [Bool.and_eq_true] at hg; exact hg.1.2
    exact chRp_all d b1 b2 old fld x B c 5 w1 (hr.below h) hz h1 (show (Bx w1 b1 [.string old] ∧ Bx w1 b2 [.string fld]) from ⟨hcn.1.below h, hcn.2.below h⟩))
  have HN : Hid (cgN (rpF old fld) nm x = if gdB nm x = true then nm else 0) := Lib.hid rfl
  have HG : Hid (cgT (rpF old fld) nm x = if gdB nm x = true then chT (rpF old fld) x else zT) := Lib.hid rfl
  generalize cgN (rpF old fld) nm x = rn at *
  generalize cgT (rpF old fld) nm x = rt at *
  generalize gdB nm x = ok at *
  obtain ⟨z, hz'⟩ : ∃ z, z = chT (rpF old fld) x := ⟨_, rfl⟩
  rw [← hz'] at HC HG
  clear hr hz hT hcn hz'
  obtain ⟨op, wd, tx, af, ps⟩ := x
  simp only [op_mk, wd_mk, tx_mk, af_mk, ps_mk] at *
  generalize ps.length = n at *
  have HB := Lib.hid (((Below.refl _ w).alloc (Nat.le_refl _) (.cells #[.int .i64 nm, .int .i64 op, .string wd, .string tx, .string af, .slice B n c] 32)).alloc (by simp) (.cells #[.int .i64 0, .int .i64 0, .string ⟨#[]⟩, .string ⟨#[]⟩, .string ⟨#[]⟩, .slice none 0 0] 32))
  have HX := Lib.hid ((Bw.new w #[.int .i64 nm, .int .i64 op, .string wd, .string tx, .string af, .slice B n c] 32).below ((Below.refl _ _).alloc (Nat.le_refl _) (.cells #[.int .i64 0, .int .i64 0, .string ⟨#[]⟩, .string ⟨#[]⟩, .string ⟨#[]⟩, .slice none 0 0] 32)))
  have HY := Lib.hid (Bw.new (w.alloc (.cells #[.int .i64 nm, .int .i64 op, .string wd, .string tx, .string af, .slice B n c] 32)) #[.int .i64 0, .int .i64 0, .string ⟨#[]⟩, .string ⟨#[]⟩, .string ⟨#[]⟩, .slice none 0 0] 32)
  have hs1 : (w.alloc (.cells #[.int .i64 nm, .int .i64 op, .string wd, .string tx, .string af, .slice B n c] 32)).heap.size = w.heap.size + 1 := by simp
  rw [hs1] at HY
  clear hs1
  go_enter Tryd.func23, Tryd.ntmps23
  go_wp2_with fail
  have HS2 : Hid (w.heap.size + 2 ≤ ((w.alloc (.cells #[.int .i64 nm, .int .i64 op, .string wd, .string tx, .string af, .slice B n c] 32)).alloc (.cells #[.int .i64 0, .int .i64 0, .string ⟨#[]⟩, .string ⟨#[]⟩, .string ⟨#[]⟩, .slice none 0 0] 32)).heap.size) := Lib.hid (by simp)
  generalize (w.alloc _).alloc _ = w0 at HB HX HY HS2 ⊢
  refine (HV.out _ HB.out).mono ?_
  rintro e w1 ⟨rfl, b1⟩
  have HX1 := Lib.hid (HX.out.below b1)
  have HY1 := Lib.hid (HY.out.below b1)
  have HB1 := Lib.hid (HB.out.trans (b1.mono HB.out.size))
  have HS3 := Lib.hid (Nat.le_trans HS2.out b1.size)
  clear b1 HX HY HB HV HS2
  cases ok with
  | false =>
    have hY := HY1.out
    have y0 := hY.1.2 0 _ rfl
    have y1 := hY.1.2 1 _ rfl
    have y2 := hY.1.2 2 _ rfl
    have y3 := hY.1.2 3 _ rfl
    have y4 := hY.1.2 4 _ rfl
    have y5 := hY.1.2 5 _ rfl
    have q0 := hY.2 0
    have q1 := hY.2 1
    have q2 := hY.2 2
    have q3 := hY.2 3
    have q4 := hY.2 4
    have q5 := hY.2 5
    have hsz : w.heap.size + 1 < w1.heap.size := hY.1.1
    clear hY HY1 HX1
    go_wp2_with fail
    refine bodyPost_ret (v := .tuple #[stV 0 0 ⟨#[]⟩ ⟨#[]⟩ ⟨#[]⟩ none 0 0, .bool false]) (by simp [results, Tryd.results23, go_sem, *]) rfl ?_
    refine ⟨none, 0, [], by rw [HN.out, HG.out]; rfl, by rw [HG.out]; exact OwL.nil, List.nodup_nil, fun b hb => (by cases hb), ?_⟩
    have B2 := HB1.out
    first
      | (iterate 6 (refine Below.setCell ?_ (by simp <;> omega) _)
         exact B2)
      | exact B2
  | true =>
    have HCd := Lib.hid (HC.out rfl w1.drew HB1.out.drew)
    have hX : Bw w1.drew w.heap.size [.int .i64 nm, .int .i64 op, .string wd, .string tx, .string af, .slice B n c] := HX1.out
    have HXd := Lib.hid hX
    have x0 := hX.1.2 0 _ rfl
    have x1 := hX.1.2 1 _ rfl
    have x2 := hX.1.2 2 _ rfl
    have x3 := hX.1.2 3 _ rfl
    have x4 := hX.1.2 4 _ rfl
    have x5 := hX.1.2 5 _ rfl
    have HYd : Hid (Bw w1.drew (w.heap.size + 1) [.int .i64 0, .int .i64 0, .string ⟨#[]⟩, .string ⟨#[]⟩, .string ⟨#[]⟩, .slice none 0 0]) := HY1
    have HSd : Hid (w.heap.size + 2 ≤ w1.drew.heap.size) := HS3
    have HBd := Lib.hid HB1.out.drew
    clear hX HX1 HY1 HB1 HC HS3
    go_wp2_with fail
    go_region_with (go_at_call 44; refine HCd.out.mono ?_; rintro e w6 ⟨A6, c6, F6, rfl, o6, n6, f6, b6⟩; have HX6 := Lib.hid (HXd.out.below b6); have HY6 := Lib.hid (HYd.out.below b6); have v0 := HX6.out.1.2 0 _ rfl; have y0 := HY6.out.1.2 0 _ rfl; have y1 := HY6.out.1.2 1 _ rfl; have y2 := HY6.out.1.2 2 _ rfl; have y3 := HY6.out.1.2 3 _ rfl; have y4 := HY6.out.1.2 4 _ rfl; have y5 := HY6.out.1.2 5 _ rfl; have q0 := HY6.out.2 0; have q1 := HY6.out.2 1; have q2 := HY6.out.2 2; have q3 := HY6.out.2 3; have q4 := HY6.out.2 4; have q5 := HY6.out.2 5; have hsz6 : w.heap.size + 1 < w6.heap.size := HY6.out.1.1)
    all_goals
      have HO6 := Lib.hid o6
      have HN6 := Lib.hid n6
      have HF6 := Lib.hid f6
      have HB6 := Lib.hid (HBd.out.trans (b6.mono HBd.out.size))
      obtain ⟨zo, zw, zt, za, zp⟩ := z
      simp only [op_mk, wd_mk, tx_mk, af_mk, ps_mk] at HO6 ⊢
      obtain ⟨zn, hzn⟩ : ∃ n, n = zp.length := ⟨_, rfl⟩
      have HZn := Lib.hid hzn
      rw [← hzn]
      clear o6 n6 f6 b6 HX6 HY6 hzn HCd HXd HYd HBd
      go_wp2_with fail
      refine bodyPost_ret (v := .tuple #[stV nm zo zw zt za A6 zn c6, .bool true]) (by simp [results, Tryd.results23, go_sem, *]) rfl ?_
      refine ⟨A6, c6, F6, by rw [HN.out, HG.out, HZn.out]; rfl, ?_, HN6.out, fun b hb => by have := HF6.out b hb; have := HSd.out; omega, ?_⟩
      · rw [HG.out]
        have O2 := HO6.out
        have hF2 : ∀ b ∈ F6, w.heap.size + 2 ≤ b := fun b hb => Nat.le_trans HSd.out (HF6.out b hb)
        iterate 6 (refine own_off ?_ hF2 (by simp <;> omega) _)
        exact O2
      · have B2 := HB6.out
        iterate 6 (refine Below.setCell ?_ (by simp <;> omega) _)
        exact B2

set_option maxRecDepth 100000 in
set_option maxHeartbeats 4000000 in
theorem nodesCk (b1 : Nat) (word : ByteArray) (nm : Int) (x : Tr) (B : Option Addr) (c d : Nat) (w : World) (hr : RdL d w B x.ps) (hz : szT x ≤ 1048576) (hT : Tabs w) (hcn : Bx w b1 [.string word]) :
    Calls Tryd.prog 23 #[stV nm x.op x.wd x.tx x.af B x.ps.length c, .func (.func 34) #[] #[.pointer (some ⟨b1, 0, none⟩)]] w (StPost (d + 1) w w.heap.size (gdB nm x) (cgN (ckF word) nm x) (cgT (ckF word) nm x)) := by
  have HV := Lib.hid (fun w1 (h : Below w.heap.size w w1) => valid_i nm x B c d w1 (hr.below h) hz (hT.below h) (gdB nm x) rfl)
  have HC : Hid (gdB nm x = true → ∀ w1, Below w.heap.size w w1 → Calls Tryd.prog 44 #[ndV x.op x.wd x.tx x.af B x.ps.length c, .func (.func 34) #[] #[.pointer (some ⟨b1, 0, none⟩)]] w1 (NdPost (d + 1) w1 w1.heap.size (chT (ckF word) x))) := Lib.hid (fun hg w1 h => by
    have h1 : okT 5 x = true := by unfold gdB at hg; simp only [Bool.and_eq_true] at hg; exact hg.1.2
    exact chCk_all d b1 word x B c 5 w1 (hr.below h) hz h1 (show Bx w1 b1 [.string word] from hcn.below h))
  have HN : Hid (cgN (ckF word) nm x = if gdB nm x = true then nm else 0) := Lib.hid rfl
  have HG : Hid (cgT (ckF word) nm x = if gdB nm x = true then chT (ckF word) x else zT) := Lib.hid rfl
  generalize cgN (ckF word) nm x = rn at *
  generalize cgT (ckF word) nm x = rt at *
  generalize gdB nm x = ok at *
  obtain ⟨z, hz'⟩ : ∃ z, z = chT (ckF word) x := ⟨_, rfl⟩
  rw [← hz'] at HC HG
  clear hr hz hT hcn hz'
  obtain ⟨op, wd, tx, af, ps⟩ := x
  simp only [op_mk, wd_mk, tx_mk, af_mk, ps_mk] at *
  generalize ps.length = n at *
  have HB := Lib.hid (((Below.refl _ w).alloc (Nat.le_refl _) (.cells #[.int .i64 nm, .int .i64 op, .string wd, .string tx, .string af, .slice B n c] 32)).alloc (by simp) (.cells #[.int .i64 0, .int .i64 0, .string ⟨#[]⟩, .string ⟨#[]⟩, .string ⟨#[]⟩, .slice none 0 0] 32))
  have HX := Lib.hid ((Bw.new w #[.int .i64 nm, .int .i64 op, .string wd, .string tx, .string af, .slice B n c] 32).below ((Below.refl _ _).alloc (Nat.le_refl _) (.cells #[.int .i64 0, .int .i64 0, .string ⟨#[]⟩, .string ⟨#[]⟩, .string ⟨#[]⟩, .slice none 0 0] 32)))
  have HY := Lib.hid (Bw.new (w.alloc (.cells #[.int .i64 nm, .int .i64 op, .string wd, .string tx, .string af, .slice B n c] 32)) #[.int .i64 0, .int .i64 0, .string ⟨#[]⟩, .string ⟨#[]⟩, .string ⟨#[]⟩, .slice none 0 0] 32)
  have hs1 : (w.alloc (.cells #[.int .i64 nm, .int .i64 op, .string wd, .string tx, .string af, .slice B n c] 32)).heap.size = w.heap.size + 1 := by simp
  rw [hs1] at HY
  clear hs1
  go_enter Tryd.func23, Tryd.ntmps23
  go_wp2_with fail
  have HS2 : Hid (w.heap.size + 2 ≤ ((w.alloc (.cells #[.int .i64 nm, .int .i64 op, .string wd, .string tx, .string af, .slice B n c] 32)).alloc (.cells #[.int .i64 0, .int .i64 0, .string ⟨#[]⟩, .string ⟨#[]⟩, .string ⟨#[]⟩, .slice none 0 0] 32)).heap.size) := Lib.hid (by simp)
  generalize (w.alloc _).alloc _ = w0 at HB HX HY HS2 ⊢
  refine (HV.out _ HB.out).mono ?_
  rintro e w1 ⟨rfl, b1⟩
  have HX1 := Lib.hid (HX.out.below b1)
  have HY1 := Lib.hid (HY.out.below b1)
  have HB1 := Lib.hid (HB.out.trans (b1.mono HB.out.size))
  have HS3 := Lib.hid (Nat.le_trans HS2.out b1.size)
  clear b1 HX HY HB HV HS2
  cases ok with
  | false =>
    have hY := HY1.out
    have y0 := hY.1.2 0 _ rfl
    have y1 := hY.1.2 1 _ rfl
    have y2 := hY.1.2 2 _ rfl
    have y3 := hY.1.2 3 _ rfl
    have y4 := hY.1.2 4 _ rfl
    have y5 := hY.1.2 5 _ rfl
    have q0 := hY.2 0
    have q1 := hY.2 1
    have q2 := hY.2 2
    have q3 := hY.2 3
    have q4 := hY.2 4
    have q5 := hY.2 5
    have hsz : w.heap.size + 1 < w1.heap.size := hY.1.1
    clear hY HY1 HX1
    go_wp2_with fail
    refine bodyPost_ret (v := .tuple #[stV 0 0 ⟨#[]⟩ ⟨#[]⟩ ⟨#[]⟩ none 0 0, .bool false]) (by simp [results, Tryd.results23, go_sem, *]) rfl ?_
    refine ⟨none, 0, [], by rw [HN.out, HG.out]; rfl, by rw [HG.out]; exact OwL.nil, List.nodup_nil, fun b hb => (by cases hb), ?_⟩
    have B2 := HB1.out
    first
      | (iterate 6 (refine Below.setCell ?_ (by simp <;> omega) _)
         exact B2)
      | exact B2
  | true =>
    have HCd := Lib.hid (HC.out rfl w1.drew HB1.out.drew)
    have hX : Bw w1.drew w.heap.size [.int .i64 nm, .int .i64 op, .string wd, .string tx, .string af, .slice B n c] := HX1.out
    have HXd := Lib.hid hX
    have x0 := hX.1.2 0 _ rfl
    have x1 := hX.1.2 1 _ rfl
    have x2 := hX.1.2 2 _ rfl
    have x3 := hX.1.2 3 _ rfl
    have x4 := hX.1.2 4 _ rfl
    have x5 := hX.1.2 5 _ rfl
    have HYd : Hid (Bw w1.drew (w.heap.size + 1) [.int .i64 0, .int .i64 0, .string ⟨#[]⟩, .string ⟨#[]⟩, .string ⟨#[]⟩, .slice none 0 0]) := HY1
    have HSd : Hid (w.heap.size + 2 ≤ w1.drew.heap.size) := HS3
    have HBd := Lib.hid HB1.out.drew
    clear hX HX1 HY1 HB1 HC HS3
    go_wp2_with fail
    go_region_with (go_at_call 44; refine HCd.out.mono ?_; rintro e w6 ⟨A6, c6, F6, rfl, o6, n6, f6, b6⟩; have HX6 := Lib.hid (HXd.out.below b6); have HY6 := Lib.hid (HYd.out.below b6); have v0 := HX6.out.1.2 0 _ rfl; have y0 := HY6.out.1.2 0 _ rfl; have y1 := HY6.out.1.2 1 _ rfl; have y2 := HY6.out.1.2 2 _ rfl; have y3 := HY6.out.1.2 3 _ rfl; have y4 := HY6.out.1.2 4 _ rfl; have y5 := HY6.out.1.2 5 _ rfl; have q0 := HY6.out.2 0; have q1 := HY6.out.2 1; have q2 := HY6.out.2 2; have q3 := HY6.out.2 3; have q4 := HY6.out.2 4; have q5 := HY6.out.2 5; have hsz6 : w.heap.size + 1 < w6.heap.size := HY6.out.1.1)
    all_goals
      have HO6 := Lib.hid o6
      have HN6 := Lib.hid n6
      have HF6 := Lib.hid f6
      have HB6 := Lib.hid (HBd.out.trans (b6.mono HBd.out.size))
      obtain ⟨zo, zw, zt, za, zp⟩ := z
      simp only [op_mk, wd_mk, tx_mk, af_mk, ps_mk] at HO6 ⊢
      obtain ⟨zn, hzn⟩ : ∃ n, n = zp.length := ⟨_, rfl⟩
      have HZn := Lib.hid hzn
      rw [← hzn]
      clear o6 n6 f6 b6 HX6 HY6 hzn HCd HXd HYd HBd
      go_wp2_with fail
      refine bodyPost_ret (v := .tuple #[stV nm zo zw zt za A6 zn c6, .bool true]) (by simp [results, Tryd.results23, go_sem, *]) rfl ?_
      refine ⟨A6, c6, F6, by rw [HN.out, HG.out, HZn.out]; rfl, ?_, HN6.out, fun b hb => by have := HF6.out b hb; have := HSd.out; omega, ?_⟩
      · rw [HG.out]
        have O2 := HO6.out
        have hF2 : ∀ b ∈ F6, w.heap.size + 2 ≤ b := fun b hb => Nat.le_trans HSd.out (HF6.out b hb)
        iterate 6 (refine own_off ?_ hF2 (by simp <;> omega) _)
        exact O2
      · have B2 := HB6.out
        iterate 6 (refine Below.setCell ?_ (by simp <;> omega) _)
        exact B2

/-- what ReplaceField answers -/
def rpB (old fld : ByteArray) (nm : Int) (x : Tr) : Bool := isSF old && isSF fld && gdB nm x
def rpN (old fld : ByteArray) (nm : Int) (x : Tr) : Int := if rpB old fld nm x = true then nm else 0
def rpT (old fld : ByteArray) (nm : Int) (x : Tr) : Tr := if rpB old fld nm x = true then chT (rpF old fld) x else zT
theorem four_world (w : World) (cs1 cs2 cs3 cs4 : Array Value) (t1 t2 t3 t4 : TypeId) : Below w.heap.size w ((((w.alloc (.cells cs1 t1)).alloc (.cells cs2 t2)).alloc (.cells cs3 t3)).alloc (.cells cs4 t4)) ∧
    Bw ((((w.alloc (.cells cs1 t1)).alloc (.cells cs2 t2)).alloc (.cells cs3 t3)).alloc (.cells cs4 t4)) w.heap.size cs1.toList ∧ Bw ((((w.alloc (.cells cs1 t1)).alloc (.cells cs2 t2)).alloc (.cells cs3 t3)).alloc (.cells cs4 t4)) (w.heap.size + 1) cs2.toList ∧
    Bw ((((w.alloc (.cells cs1 t1)).alloc (.cells cs2 t2)).alloc (.cells cs3 t3)).alloc (.cells cs4 t4)) (w.heap.size + 2) cs3.toList ∧ Bw ((((w.alloc (.cells cs1 t1)).alloc (.cells cs2 t2)).alloc (.cells cs3 t3)).alloc (.cells cs4 t4)) (w.heap.size + 3) cs4.toList ∧
    w.heap.size + 4 ≤ ((((w.alloc (.cells cs1 t1)).alloc (.cells cs2 t2)).alloc (.cells cs3 t3)).alloc (.cells cs4 t4)).heap.size := by
  have al : ∀ (w : World) o, Below w.heap.size w (w.alloc o) := fun w o => (Below.refl _ w).alloc (Nat.le_refl _) o
  have h1 := Bw.new w cs1 t1
  have h2 := Bw.new (w.alloc (.cells cs1 t1)) cs2 t2
  have h3 := Bw.new ((w.alloc (.cells cs1 t1)).alloc (.cells cs2 t2)) cs3 t3
  have h4 := Bw.new (((w.alloc (.cells cs1 t1)).alloc (.cells cs2 t2)).alloc (.cells cs3 t3)) cs4 t4
  rw [show (w.alloc (.cells cs1 t1)).heap.size = w.heap.size + 1 by simp] at h2
  rw [show ((w.alloc (.cells cs1 t1)).alloc (.cells cs2 t2)).heap.size = w.heap.size + 2 by simp] at h3
  rw [show (((w.alloc (.cells cs1 t1)).alloc (.cells cs2 t2)).alloc (.cells cs3 t3)).heap.size = w.heap.size + 3 by simp] at h4
  exact ⟨((((al w _).alloc (by simp) _).alloc (by simp; omega) _).alloc (by simp; omega) _), ((h1.below (al _ _)).below (al _ _)).below (al _ _), (h2.below (al _ _)).below (al _ _), h3.below (al _ _), h4, by simp⟩
set_option maxRecDepth 100000 in
set_option maxHeartbeats 4000000 in
theorem replace_i (old fld : ByteArray) (nm : Int) (x : Tr) (B : Option Addr) (c d : Nat) (w : World) (hr : RdL d w B x.ps) (hz : szT x ≤ 1048576) (hT : Tabs w) :
    Calls Tryd.prog 9 #[stV nm x.op x.wd x.tx x.af B x.ps.length c, .string old, .string fld] w (StPost (d + 1) w w.heap.size (rpB old fld nm x) (rpN old fld nm x) (rpT old fld nm x)) := by
  have H1 := Lib.hid (fun w => sfield_i old (isSF old) w rfl)
  have H2 := Lib.hid (fun w => sfield_i fld (isSF fld) w rfl)
  have HC := Lib.hid (fun w1 (h : Below w.heap.size w w1) hc => nodesRp (w.heap.size + 1) (w.heap.size + 2) old fld nm x B c d w1 (hr.below h) hz (hT.below h) hc)
  have HR : Hid (rpB old fld nm x = (isSF old && isSF fld && gdB nm x)) := Lib.hid rfl
  have HN : Hid (rpN old fld nm x = if rpB old fld nm x = true then nm else 0) := Lib.hid rfl
  have HG : Hid (rpT old fld nm x = if rpB old fld nm x = true then chT (rpF old fld) x else zT) := Lib.hid rfl
  have HN1 : Hid (cgN (rpF old fld) nm x = if gdB nm x = true then nm else 0) := Lib.hid rfl
  have HG1 : Hid (cgT (rpF old fld) nm x = if gdB nm x = true then chT (rpF old fld) x else zT) := Lib.hid rfl
  generalize cgN (rpF old fld) nm x = cn at *
  generalize cgT (rpF old fld) nm x = z at *
  generalize chT (rpF old fld) x = zz at *
  generalize rpN old fld nm x = rn at *
  generalize rpT old fld nm x = rt at *
  generalize rpB old fld nm x = rb at *
  generalize gdB nm x = ok at *
  generalize isSF old = s1 at *
  generalize isSF fld = s2 at *
  clear hr hz hT
  obtain ⟨op, wd, tx, af, ps⟩ := x
  simp only [op_mk, wd_mk, tx_mk, af_mk, ps_mk] at *
  generalize ps.length = n at *
  have HW := Lib.hid (four_world w #[.int .i64 nm, .int .i64 op, .string wd, .string tx, .string af, .slice B n c] #[.string old] #[.string fld] #[.int .i64 0, .int .i64 0, .string ⟨#[]⟩, .string ⟨#[]⟩, .string ⟨#[]⟩, .slice none 0 0] 32 9 9 32)
  go_enter Tryd.func9, Tryd.ntmps9
  go_wp2_with fail
  generalize (((w.alloc _).alloc _).alloc _).alloc _ = w0 at HW ⊢
  obtain ⟨hB0, hX0, hO0, hF0, hY0, hS0⟩ := HW.out
  clear HW
  refine (H1.out _).mono ?_
  rintro e w1 ⟨rfl, b1⟩
  have HB1 := Lib.hid (hB0.trans (b1.mono hB0.size))
  have HX1 := Lib.hid (hX0.below b1)
  have HO1 := Lib.hid (hO0.below b1)
  have HF1 := Lib.hid (hF0.below b1)
  have HY1 := Lib.hid (hY0.below b1)
  have HS1 := Lib.hid (Nat.le_trans hS0 b1.size)
  clear b1 hB0 hX0 hO0 hF0 hY0 hS0
  cases s1 with
  | false =>
    have hY := HY1.out
    have y0 := hY.1.2 0 _ rfl
    have q0 := hY.2 0
    have y1 := hY.1.2 1 _ rfl
    have q1 := hY.2 1
    have y2 := hY.1.2 2 _ rfl
    have q2 := hY.2 2
    have y3 := hY.1.2 3 _ rfl
    have q3 := hY.2 3
    have y4 := hY.1.2 4 _ rfl
    have q4 := hY.2 4
    have y5 := hY.1.2 5 _ rfl
    have q5 := hY.2 5
    have hsz9 : w.heap.size + 3 < _ := hY.1.1
    go_wp2_with fail
    refine bodyPost_ret (v := .tuple #[stV 0 0 ⟨#[]⟩ ⟨#[]⟩ ⟨#[]⟩ none 0 0, .bool false]) (by simp [results, Tryd.results9, go_sem, *]) rfl ?_
    refine ⟨none, 0, [], by rw [HN.out, HG.out, HR.out]; rfl, by rw [HG.out, HR.out]; exact OwL.nil, List.nodup_nil, fun b hb => (by cases hb), ?_⟩
    have B2 := HB1.out
    first
      | (iterate 6 (refine Below.setCell ?_ (by simp <;> omega) _)
         exact B2)
      | exact B2
  | true =>
    have f0 := HF1.out.1.2 0 _ rfl
    go_wp2_with fail
    clear f0
    refine (H2.out _).mono ?_
    rintro e w2 ⟨rfl, b2⟩
    have HB2 := Lib.hid (HB1.out.trans (b2.mono HB1.out.size))
    have HX2 := Lib.hid (HX1.out.below b2)
    have HO2 := Lib.hid (HO1.out.below b2)
    have HF2 := Lib.hid (HF1.out.below b2)
    have HY2 := Lib.hid (HY1.out.below b2)
    have HS2 := Lib.hid (Nat.le_trans HS1.out b2.size)
    clear b2 HB1 HX1 HO1 HF1 HY1 HS1
    cases s2 with
    | false =>
      have hY := HY2.out
      have y0 := hY.1.2 0 _ rfl
      have q0 := hY.2 0
      have y1 := hY.1.2 1 _ rfl
      have q1 := hY.2 1
      have y2 := hY.1.2 2 _ rfl
      have q2 := hY.2 2
      have y3 := hY.1.2 3 _ rfl
      have q3 := hY.2 3
      have y4 := hY.1.2 4 _ rfl
      have q4 := hY.2 4
      have y5 := hY.1.2 5 _ rfl
      have q5 := hY.2 5
      have hsz9 : w.heap.size + 3 < _ := hY.1.1
      go_wp2_with fail
      refine bodyPost_ret (v := .tuple #[stV 0 0 ⟨#[]⟩ ⟨#[]⟩ ⟨#[]⟩ none 0 0, .bool false]) (by simp [results, Tryd.results9, go_sem, *]) rfl ?_
      refine ⟨none, 0, [], by rw [HN.out, HG.out, HR.out]; rfl, by rw [HG.out, HR.out]; exact OwL.nil, List.nodup_nil, fun b hb => (by cases hb), ?_⟩
      have B2 := HB2.out
      first
        | (iterate 6 (refine Below.setCell ?_ (by simp <;> omega) _)
           exact B2)
        | exact B2
    | true =>
      have x0 := HX2.out.1.2 0 _ rfl
      have x1 := HX2.out.1.2 1 _ rfl
      have x2 := HX2.out.1.2 2 _ rfl
      have x3 := HX2.out.1.2 3 _ rfl
      have x4 := HX2.out.1.2 4 _ rfl
      have x5 := HX2.out.1.2 5 _ rfl
      have HC2 := Lib.hid (HC.out w2 HB2.out ⟨HO2.out.1, HF2.out.1⟩)
      clear HC HX2 HO2 HF2
      go_wp2_with fail
      refine HC2.out.mono ?_
      rintro e w3 ⟨A6, c6, F6, rfl, o6, n6, f6, b6⟩
      have HO6 := Lib.hid o6
      have HN6 := Lib.hid n6
      have HF6 := Lib.hid f6
      have HB6 := Lib.hid (HB2.out.trans (b6.mono HB2.out.size))
      have hY := HY2.out.below b6
      have Hz : Hid (rt = z ∧ rn = cn ∧ rb = ok) := Lib.hid (by rw [HG.out, HG1.out, HN.out, HN1.out, HR.out]; exact ⟨rfl, rfl, rfl⟩)
      clear HG HG1 HN HN1 HR x0 x1 x2 x3 x4 x5
      obtain ⟨zo, zw, zt, za, zp⟩ := z
      simp only [op_mk, wd_mk, tx_mk, af_mk, ps_mk] at HO6 ⊢
      obtain ⟨zn, hzn⟩ : ∃ n, n = zp.length := ⟨_, rfl⟩
      have HZn := Lib.hid hzn
      rw [← hzn]
      have y0 := hY.1.2 0 _ rfl
      have q0 := hY.2 0
      have y1 := hY.1.2 1 _ rfl
      have q1 := hY.2 1
      have y2 := hY.1.2 2 _ rfl
      have q2 := hY.2 2
      have y3 := hY.1.2 3 _ rfl
      have q3 := hY.2 3
      have y4 := hY.1.2 4 _ rfl
      have q4 := hY.2 4
      have y5 := hY.1.2 5 _ rfl
      have q5 := hY.2 5
      have hsz9 : w.heap.size + 3 < w3.heap.size := hY.1.1
      clear o6 n6 f6 b6 hY HY2 hzn HC2
      go_wp2_with fail
      refine bodyPost_ret (v := .tuple #[stV cn zo zw zt za A6 zn c6, .bool ok]) (by simp [results, Tryd.results9, go_sem, *]) rfl ?_
      refine ⟨A6, c6, F6, by rw [Hz.out.1, Hz.out.2.1, Hz.out.2.2, HZn.out]; rfl, ?_, HN6.out, fun b hb => by have := HF6.out b hb; have := HS2.out; omega, ?_⟩
      · rw [Hz.out.1]
        have O2 := HO6.out
        have hF2 : ∀ b ∈ F6, w.heap.size + 4 ≤ b := fun b hb => Nat.le_trans HS2.out (HF6.out b hb)
        iterate 6 (refine own_off ?_ hF2 (by simp <;> omega) _)
        exact O2
      · have B2 := HB6.out
        iterate 6 (refine Below.setCell ?_ (by simp <;> omega) _)
        exact B2
end Go.Proofs.YtldfdfdleaemaaaDoor.Nd
