/-
  Contracts of FormatStyle of both.
-/
import Derived.Test.YtdjlcjmaikdeiaaDoorNdXi
import Derived.Deep.RegionHeld3
import Derived.Deep.RegionWith
namespace Go.Proofs.YtdjlcjmaikdeiaaDoor.Nd
open Go.RowKit NdPl Ns
set_option linter.unusedSimpArgs false
set_option linter.unusedVariables false

/-- a digit from 1 to 4 -/
def dgB (nm : Int) : ByteArray := Pl.ba (Lib.decDigits nm.toNat)
/-- the text of a style -/
def fsB (nm : Int) (x : Tr) : ByteArray := if gdB nm x = true then dgB nm ++ (⟨#[32]⟩ : ByteArray) ++ Pl.ba (tT x) else ⟨#[]⟩
theorem small_x {nm : Int} {x : Tr} (h : gdB nm x = true) : 1 ≤ nm ∧ nm ≤ 4 ∧ okT 5 x = true ∧ cntT x ≤ 30 := by
  unfold gdB at h
  simp only [Bool.and_eq_true, decide_eq_true_eq] at h
  exact ⟨h.1.1.1, h.1.1.2, h.1.2, h.2⟩
theorem itoa_i (nm : Int) (h1 : 1 ≤ nm) (h4 : nm ≤ 4) (w : World) : Calls Tryd.prog 22 #[.int .i64 nm] w fun e w' => e = .returned (.string (dgB nm)) ∧ w = w' := by
  obtain ⟨k, rfl⟩ := Int.eq_ofNat_of_zero_le (show 0 ≤ nm by omega)
  exact (Tryd.strconv_Itoa_small k (by omega) w).mono fun e w' ⟨he, hw⟩ => ⟨he, hw.symm⟩
theorem num_s (nm : Int) (h1 : 1 ≤ nm) (h4 : nm ≤ 4) (w : World) : Calls Tryd.prog 18 #[.int .i64 nm] w fun e w' => e = .returned (.string (dgB nm)) ∧ w = w' := by
  rcases (show nm = 1 ∨ nm = 2 ∨ nm = 3 ∨ nm = 4 by omega) with rfl | rfl | rfl | rfl
  · have HE : Hid (dgB 1 = ⟨#[49]⟩) := Lib.hid (by unfold dgB; simp [Lib.decDigits]; rfl)
    rw [HE.out]
    go_enter Tryd.func18, Tryd.ntmps18
    go_wp2_with fail
    go_ret
    exact ⟨rfl, rfl⟩
  · have HE : Hid (dgB 2 = ⟨#[50]⟩) := Lib.hid (by unfold dgB; simp [Lib.decDigits]; rfl)
    rw [HE.out]
    go_enter Tryd.func18, Tryd.ntmps18
    go_wp2_with fail
    go_ret
    exact ⟨rfl, rfl⟩
  · have HE : Hid (dgB 3 = ⟨#[51]⟩) := Lib.hid (by unfold dgB; simp [Lib.decDigits]; rfl)
    rw [HE.out]
    go_enter Tryd.func18, Tryd.ntmps18
    go_wp2_with fail
    go_ret
    exact ⟨rfl, rfl⟩
  · have HE : Hid (dgB 4 = ⟨#[52]⟩) := Lib.hid (by unfold dgB; simp [Lib.decDigits]; rfl)
    rw [HE.out]
    go_enter Tryd.func18, Tryd.ntmps18
    go_wp2_with fail
    go_ret
    exact ⟨rfl, rfl⟩
set_option maxRecDepth 100000 in
set_option maxHeartbeats 4000000 in
theorem format_s (nm : Int) (x : Tr) (B : Option Addr) (c d : Nat) (w : World) (hr : RdL d w B x.ps) (hz : szT x ≤ 1048576) :
    Calls Tryd.prog 6 #[stV nm x.op x.wd x.tx x.af B x.ps.length c] w fun e w' => e = .returned (.tuple #[.string (fsB nm x), .bool (gdB nm x)]) ∧ Below w.heap.size w w' := by
  have HG := Lib.hid (fun w1 (h : Below w.heap.size w w1) => good_s nm x B c d w1 (hr.below h) hz (gdB nm x) rfl)
  have HF : Hid (fsB nm x = if gdB nm x = true then dgB nm ++ (⟨#[32]⟩ : ByteArray) ++ Pl.ba (tT x) else ⟨#[]⟩) := Lib.hid rfl
  have HC : Hid (gdB nm x = true → (1 ≤ nm ∧ nm ≤ 4) ∧ ∀ w1, Below w.heap.size w w1 → Calls Tryd.prog 19 #[ndV x.op x.wd x.tx x.af B x.ps.length c] w1 fun e w' => e = .returned (.string (Pl.ba (tT x))) ∧ Below w1.heap.size w1 w') := Lib.hid (fun hg => by
    have hs := small_x hg
    exact ⟨⟨hs.1, hs.2.1⟩, fun w1 h => tx_all d x B c w1 (hr.below h) hz⟩)
  have htl := t_len x
  have hct := (cnt_szT x).1
  have hts : (Pl.ba (tT x)).size ≤ 100000000 := by rw [Pl.ba_size]; omega
  clear hr hz htl hct
  generalize fsB nm x = t at *
  generalize gdB nm x = ok at *
  generalize Pl.ba (tT x) = tt at *
  obtain ⟨op, wd, tx, af, ps⟩ := x
  simp only [op_mk, wd_mk, tx_mk, af_mk, ps_mk] at *
  generalize ps.length = n at *
  have HX := Lib.hid (Bx.new w #[.int .i64 nm, .int .i64 op, .string wd, .string tx, .string af, .slice B n c] 34)
  have HB := Lib.hid (box_below w (.cells #[.int .i64 nm, .int .i64 op, .string wd, .string tx, .string af, .slice B n c] 34))
  go_enter Tryd.func6, Tryd.ntmps6
  go_wp2_with fail
  generalize w.alloc _ = w0 at HB HX ⊢
  refine (HG.out _ HB.out).mono ?_
  rintro e w1 ⟨rfl, b1⟩
  have B1 := HB.out.trans (b1.mono HB.out.size)
  have HX1 := Lib.hid (HX.out.below b1)
  clear b1
  cases ok with
  | false =>
    go_wp2_with fail
    go_ret2
    exact ⟨by rw [HF.out]; rfl, B1⟩
  | true =>
    obtain ⟨hn, hC⟩ := HC.out (by first | rfl | trivial)
    have HNm := Lib.hid (fun w => num_s nm hn.1 hn.2 w)
    have hdz : (dgB nm).size ≤ 10 := by
      rcases (show nm = 1 ∨ nm = 2 ∨ nm = 3 ∨ nm = 4 by omega) with h | h | h | h <;> (rw [h]; unfold dgB; rw [Pl.ba_size]; simp [Lib.decDigits])
    have HF2 : Hid (t = dgB nm ++ (⟨#[32]⟩ : ByteArray) ++ tt) := Lib.hid (by rw [HF.out, if_pos rfl])
    generalize dgB nm = dg at *
    have HHC := Lib.hid hC
    have HS : Hid (∀ w', Kp w1 w' → ((w'.cell? ⟨w.heap.size, 0, none⟩ = some (.int .i64 nm) ∧ w'.cell? ⟨w.heap.size, 1, none⟩ = some (.int .i64 op) ∧ w'.cell? ⟨w.heap.size, 2, none⟩ = some (.string wd) ∧ w'.cell? ⟨w.heap.size, 3, none⟩ = some (.string tx) ∧ w'.cell? ⟨w.heap.size, 4, none⟩ = some (.string af) ∧ w'.cell? ⟨w.heap.size, 5, none⟩ = some (.slice B n c)) ∧ Kp w1 w')) := Lib.hid (fun w' h => by
      obtain ⟨_, hx⟩ := HX1.out.below h
      exact ⟨⟨hx 0 _ rfl, hx 1 _ rfl, hx 2 _ rfl, hx 3 _ rfl, hx 4 _ rfl, hx 5 _ rfl⟩, h⟩)
    obtain ⟨⟨c0, c1, c2, c3, c4, c5⟩, _⟩ := HS.out w1.drew (Kp.drew w1)
    have HK0 := Lib.hid (Kp.drew w1)
    have HCk := Lib.hid (fun w2 (h : Kp w1 w2) => hC w2 (B1.trans (Below.mono h B1.size)))
    have HBB := Lib.hid B1
    have hsd : (dg ++ (⟨#[32]⟩ : ByteArray)).size = dg.size + 1 := by rw [ByteArray.size_append]; rfl
    clear B1 HC hC HX HX1 HG HF hn HHC
    go_wp2_with fail
    go_region_with (first
      | (go_at_call 19; refine (HCk.out _ HK0.out).mono ?_; rintro e w5 ⟨rfl, b5⟩; have hk5 : Kp w1 w5 := Kp.next HK0.out b5; obtain ⟨⟨u0, u1, u2, u3, u4, u5⟩, _⟩ := HS.out w5 hk5)
      | (go_at_call 18; refine (HNm.out _).mono ?_; rintro e w6 ⟨rfl, rfl⟩))
    all_goals
      go_wp2_with fail
      go_ret2
      exact ⟨by rw [HF2.out]; rfl, HBB.out.trans (Below.mono hk5 HBB.out.size)⟩
set_option maxRecDepth 100000 in
set_option maxHeartbeats 4000000 in
theorem format_i (nm : Int) (x : Tr) (B : Option Addr) (c d : Nat) (w : World) (hr : RdL d w B x.ps) (hz : szT x ≤ 1048576) (hT : Tabs w) :
    Calls Tryd.prog 8 #[stV nm x.op x.wd x.tx x.af B x.ps.length c] w fun e w' => e = .returned (.tuple #[.string (fsB nm x), .bool (gdB nm x)]) ∧ Below w.heap.size w w' := by
  have HG := Lib.hid (fun w1 (h : Below w.heap.size w w1) => valid_i nm x B c d w1 (hr.below h) hz (hT.below h) (gdB nm x) rfl)
  have HF : Hid (fsB nm x = if gdB nm x = true then dgB nm ++ (⟨#[32]⟩ : ByteArray) ++ Pl.ba (tT x) else ⟨#[]⟩) := Lib.hid rfl
  have HC : Hid (gdB nm x = true → (1 ≤ nm ∧ nm ≤ 4) ∧ ∀ w1, Below w.heap.size w w1 → Calls Tryd.prog 23 #[ndV x.op x.wd x.tx x.af B x.ps.length c] w1 fun e w' => e = .returned (.string (Pl.ba (tT x))) ∧ Below w1.heap.size w1 w') := Lib.hid (fun hg => by
    have hs := small_x hg
    exact ⟨⟨hs.1, hs.2.1⟩, fun w1 h => nt_all d x B c 5 w1 (hr.below h) hz hs.2.2.1 (hT.below h)⟩)
  have htl := t_len x
  have hct := (cnt_szT x).1
  have hts : (Pl.ba (tT x)).size ≤ 100000000 := by rw [Pl.ba_size]; omega
  clear hr hz htl hct hT
  generalize fsB nm x = t at *
  generalize gdB nm x = ok at *
  generalize Pl.ba (tT x) = tt at *
  obtain ⟨op, wd, tx, af, ps⟩ := x
  simp only [op_mk, wd_mk, tx_mk, af_mk, ps_mk] at *
  generalize ps.length = n at *
  have HX := Lib.hid (Bx.new w #[.int .i64 nm, .int .i64 op, .string wd, .string tx, .string af, .slice B n c] 34)
  have HB := Lib.hid (box_below w (.cells #[.int .i64 nm, .int .i64 op, .string wd, .string tx, .string af, .slice B n c] 34))
  go_enter Tryd.func8, Tryd.ntmps8
  go_wp2_with fail
  generalize w.alloc _ = w0 at HB HX ⊢
  refine (HG.out _ HB.out).mono ?_
  rintro e w1 ⟨rfl, b1⟩
  have B1 := HB.out.trans (b1.mono HB.out.size)
  have HX1 := Lib.hid (HX.out.below b1)
  clear b1
  cases ok with
  | false =>
    go_wp2_with fail
    go_ret2
    exact ⟨by rw [HF.out]; rfl, B1⟩
  | true =>
    obtain ⟨hn, hC⟩ := HC.out (by first | rfl | trivial)
    have HNm := Lib.hid (fun w => itoa_i nm hn.1 hn.2 w)
    have hdz : (dgB nm).size ≤ 10 := by
      rcases (show nm = 1 ∨ nm = 2 ∨ nm = 3 ∨ nm = 4 by omega) with h | h | h | h <;> (rw [h]; unfold dgB; rw [Pl.ba_size]; simp [Lib.decDigits])
    have HF2 : Hid (t = dgB nm ++ (⟨#[32]⟩ : ByteArray) ++ tt) := Lib.hid (by rw [HF.out, if_pos rfl])
    generalize dgB nm = dg at *
    have HHC := Lib.hid hC
    have HS : Hid (∀ w', Kp w1 w' → ((w'.cell? ⟨w.heap.size, 0, none⟩ = some (.int .i64 nm) ∧ w'.cell? ⟨w.heap.size, 1, none⟩ = some (.int .i64 op) ∧ w'.cell? ⟨w.heap.size, 2, none⟩ = some (.string wd) ∧ w'.cell? ⟨w.heap.size, 3, none⟩ = some (.string tx) ∧ w'.cell? ⟨w.heap.size, 4, none⟩ = some (.string af) ∧ w'.cell? ⟨w.heap.size, 5, none⟩ = some (.slice B n c)) ∧ Kp w1 w')) := Lib.hid (fun w' h => by
      obtain ⟨_, hx⟩ := HX1.out.below h
      exact ⟨⟨hx 0 _ rfl, hx 1 _ rfl, hx 2 _ rfl, hx 3 _ rfl, hx 4 _ rfl, hx 5 _ rfl⟩, h⟩)
    obtain ⟨⟨c0, c1, c2, c3, c4, c5⟩, _⟩ := HS.out w1.drew (Kp.drew w1)
    have HK0 := Lib.hid (Kp.drew w1)
    have HCk := Lib.hid (fun w2 (h : Kp w1 w2) => hC w2 (B1.trans (Below.mono h B1.size)))
    have HBB := Lib.hid B1
    have hsd : (dg ++ (⟨#[32]⟩ : ByteArray)).size = dg.size + 1 := by rw [ByteArray.size_append]; rfl
    clear B1 HC hC HX HX1 HG HF hn HHC
    go_wp2_with fail
    go_region_with (first
      | (go_at_call 23; refine (HCk.out _ HK0.out).mono ?_; rintro e w5 ⟨rfl, b5⟩; have hk5 : Kp w1 w5 := Kp.next HK0.out b5; obtain ⟨⟨u0, u1, u2, u3, u4, u5⟩, _⟩ := HS.out w5 hk5)
      | (go_at_call 22; refine (HNm.out _).mono ?_; rintro e w6 ⟨rfl, rfl⟩))
    all_goals
      go_wp2_with fail
      go_ret2
      exact ⟨by rw [HF2.out]; rfl, HBB.out.trans (Below.mono hk5 HBB.out.size)⟩
end Go.Proofs.YtdjlcjmaikdeiaaDoor.Nd
