/-
  Drawing functions of chapter 3: anyDate.
-/
import Derived.Test.YtlhkfhgnlopejaaDoorDtD
namespace Go.Proofs.YtlhkfhgnlopejaaDoor.DtD
open Go.RowKit Pl Cur Draw0 Among DtPl Dt Law2 St
set_option linter.unusedSimpArgs false
set_option linter.unusedVariables false

/-- any date -/
def AnyD (w : World) (g : Nat) (A : Option Addr) (n c k m : Nat) (e : Ending) (w' : World) : Prop := ∃ y mo d ci, e = .returned (dtV y mo d ci) ∧ LeftC w g A n c k m w'

set_option maxHeartbeats 2000000 in
theorem anyDate_any (g : Nat) (A : Option Addr) (n c k : Nat) (s : Int) (w : World) (hk : k ≤ 1047000) (hn : n ≤ 1048576) (hcur : IsCur w g A n c k s) (hr : RdB w A n) (ha : Apart A n g) :
    Calls Tryd.prog 34 #[.pointer (some ⟨g, 0, none⟩)] w (AnyD w g A n c k 20) := by
  have hgl : g < w.heap.size := hcur.lt
  have HA := Lib.hid ha
  have HZ := Lib.hid (D4F.new w 0 0 0 false 25)
  have HS1 := Lib.hid ((St.start hcur hr ha).alloc (.cells #[.int .i64 0, .int .i64 0, .int .i64 0, .bool false] 25))
  have HSz : Hid ((w.alloc (.cells #[.int .i64 0, .int .i64 0, .int .i64 0, .bool false] 25)).heap.size = w.heap.size + 1) := Lib.hid (by simp)
  clear hcur hr ha
  go_enter Tryd.func34, Tryd.ntmps34
  go_wp2_with fail
  generalize hW : w.alloc _ = w1 at HZ HS1 HSz ⊢
  clear hW
  obtain ⟨k1, s1, hk1, hc1⟩ := HS1.out.cur
  refine (date_any g A n c k1 s1 _ (by omega) hn hc1 HS1.out.rd HA.out).mono ?_
  rintro e w2 ⟨y, m, d, ci, _, rfl, hl⟩
  have HS2 := Lib.hid (HS1.out.call hk1 hl)
  have HZ2 := Lib.hid (d4f_grown hl.2 (by omega) HZ.out)
  have hle2 : w.heap.size + 1 ≤ w2.heap.size := by have h1 := hl.2.size; have h2 := HSz.out; omega
  clear hl hc1 HS1 HZ HSz
  have HB3 := Lib.hid (D4F.new w2 y m d ci 25)
  have HS3 := Lib.hid (HS2.out.alloc (.cells #[.int .i64 y, .int .i64 m, .int .i64 d, .bool ci] 25))
  have HZ3 := Lib.hid (D4F.below (box_below w2 (.cells #[.int .i64 y, .int .i64 m, .int .i64 d, .bool ci] 25)) HZ2.out)
  clear HS2 HZ2
  go_wp2_with fail
  generalize hW : w2.alloc _ = w3 at HB3 HS3 HZ3 ⊢
  clear hW
  generalize hb : w2.heap.size = bx at *
  clear hb
  obtain ⟨k3, s3, hk3, hc3⟩ := HS3.out.cur
  refine (pick_any 14 (by omega) (by omega) g A n c k3 s3 _ (by omega) hn hc3 HS3.out.rd HA.out).mono ?_
  rintro e w4 ⟨r, rfl, hr0, hr1, hl⟩
  have HS4 := Lib.hid (HS3.out.call hk3 hl)
  have HZ4 := Lib.hid (d4f_grown hl.2 (by omega) HZ3.out)
  have HB4 := Lib.hid (d4f_grown hl.2 (by omega) HB3.out)
  clear hl hc3 HS3 HZ3 HB3
  obtain ⟨i, rfl⟩ := Int.eq_ofNat_of_zero_le hr0
  have HNe : Hid (w.heap.size ≠ bx) := Lib.hid (by omega)
  have hbx : w.heap.size ≤ bx := by omega
  have hgx : bx ≠ g := by omega
  rcases (show i = 0 ∨ i = 1 ∨ i = 2 ∨ i = 3 ∨ 4 ≤ i by omega) with rfl | rfl | rfl | rfl | hi
  · obtain ⟨⟨bl, b0, b1, b2, b3⟩, bf0, bf1, bf2, bf3⟩ := HB4.out
    go_wp2_with fail
    obtain ⟨k4, s4, hk4, hc4⟩ := HS4.out.cur
    have hg4 : g < w4.heap.size := hc4.lt
    refine (among_in _ _ 5 [0, -1, 2999, 3000, 1] rfl (by omega) (by omega) g (by omega) A n c k4 s4 _ (by omega) hn (hc4.alloc _) (HS4.out.rd.alloc HA.out hc4.lt _) HA.out (Its.lit rfl)).mono ?_
    rintro e w5 ⟨a, _, rfl, hl⟩
    have HS5 := Lib.hid (HS4.out.call hk4 hl.alloc)
    have HZ5 := Lib.hid (d4f_grown hl.alloc.2 (by omega) HZ4.out)
    have HB5 := Lib.hid (d4f_grown hl.alloc.2 (by omega) HB4.out)
    clear hl hc4 HS4 HZ4 HB4 bl b0 b1 b2 b3 bf0 bf1 bf2 bf3 hg4
    obtain ⟨⟨zl, z0, z1, z2, z3⟩, zf0, zf1, zf2, zf3⟩ := HZ5.out
    obtain ⟨⟨bl, b0, b1, b2, b3⟩, bf0, bf1, bf2, bf3⟩ := HB5.out
    have hne : w.heap.size ≠ bx := HNe.out
    go_wp2_with fail
    exact bodyPost_ret (v := dtV a m d ci) (by simp [results, Tryd.results34, go_sem, z0, z1, z2, z3, b0, b1, b2, b3]) rfl ⟨_, _, _, _, rfl, (St.mono ((HS5.out.set bx 0 _ (by omega)).set4 w.heap.size _ _ _ _ (Nat.le_refl _)) (by omega)).left⟩
  · obtain ⟨⟨bl, b0, b1, b2, b3⟩, bf0, bf1, bf2, bf3⟩ := HB4.out
    go_wp2_with fail
    obtain ⟨k4, s4, hk4, hc4⟩ := HS4.out.cur
    have hg4 : g < w4.heap.size := hc4.lt
    refine (among_in _ _ 3 [13, -1, 2] rfl (by omega) (by omega) g (by omega) A n c k4 s4 _ (by omega) hn (hc4.alloc _) (HS4.out.rd.alloc HA.out hc4.lt _) HA.out (Its.lit rfl)).mono ?_
    rintro e w5 ⟨a, _, rfl, hl⟩
    have HS5 := Lib.hid (HS4.out.call hk4 hl.alloc)
    have HZ5 := Lib.hid (d4f_grown hl.alloc.2 (by omega) HZ4.out)
    have HB5 := Lib.hid (d4f_grown hl.alloc.2 (by omega) HB4.out)
    clear hl hc4 HS4 HZ4 HB4 bl b0 b1 b2 b3 bf0 bf1 bf2 bf3 hg4
    obtain ⟨⟨zl, z0, z1, z2, z3⟩, zf0, zf1, zf2, zf3⟩ := HZ5.out
    obtain ⟨⟨bl, b0, b1, b2, b3⟩, bf0, bf1, bf2, bf3⟩ := HB5.out
    have hne : w.heap.size ≠ bx := HNe.out
    go_wp2_with fail
    exact bodyPost_ret (v := dtV y a d ci) (by simp [results, Tryd.results34, go_sem, z0, z1, z2, z3, b0, b1, b2, b3]) rfl ⟨_, _, _, _, rfl, (St.mono ((HS5.out.set bx 1 _ (by omega)).set4 w.heap.size _ _ _ _ (Nat.le_refl _)) (by omega)).left⟩
  · obtain ⟨⟨bl, b0, b1, b2, b3⟩, bf0, bf1, bf2, bf3⟩ := HB4.out
    go_wp2_with fail
    obtain ⟨k4, s4, hk4, hc4⟩ := HS4.out.cur
    have hg4 : g < w4.heap.size := hc4.lt
    refine (among_in _ _ 5 [29, 30, 31, 32, -1] rfl (by omega) (by omega) g (by omega) A n c k4 s4 _ (by omega) hn (hc4.alloc _) (HS4.out.rd.alloc HA.out hc4.lt _) HA.out (Its.lit rfl)).mono ?_
    rintro e w5 ⟨a, _, rfl, hl⟩
    have HS5 := Lib.hid (HS4.out.call hk4 hl.alloc)
    have HZ5 := Lib.hid (d4f_grown hl.alloc.2 (by omega) HZ4.out)
    have HB5 := Lib.hid (d4f_grown hl.alloc.2 (by omega) HB4.out)
    clear hl hc4 HS4 HZ4 HB4 bl b0 b1 b2 b3 bf0 bf1 bf2 bf3 hg4
    obtain ⟨⟨zl, z0, z1, z2, z3⟩, zf0, zf1, zf2, zf3⟩ := HZ5.out
    obtain ⟨⟨bl, b0, b1, b2, b3⟩, bf0, bf1, bf2, bf3⟩ := HB5.out
    have hne : w.heap.size ≠ bx := HNe.out
    go_wp2_with fail
    exact bodyPost_ret (v := dtV y m a ci) (by simp [results, Tryd.results34, go_sem, z0, z1, z2, z3, b0, b1, b2, b3]) rfl ⟨_, _, _, _, rfl, (St.mono ((HS5.out.set bx 2 _ (by omega)).set4 w.heap.size _ _ _ _ (Nat.le_refl _)) (by omega)).left⟩
  · obtain ⟨⟨zl, z0, z1, z2, z3⟩, zf0, zf1, zf2, zf3⟩ := HZ4.out
    obtain ⟨⟨bl, b0, b1, b2, b3⟩, bf0, bf1, bf2, bf3⟩ := HB4.out
    have hne : w.heap.size ≠ bx := HNe.out
    go_wp2_with fail
    exact bodyPost_ret (v := dtV y m d (!ci)) (by simp [results, Tryd.results34, go_sem, z0, z1, z2, z3, b0, b1, b2, b3]) rfl ⟨_, _, _, _, rfl, (St.mono ((HS4.out.set bx 3 _ (by omega)).set4 w.heap.size _ _ _ _ (Nat.le_refl _)) (by omega)).left⟩
  · have h0 : ((i : Int) == 0) = false := by simp; omega
    have h1 : ((i : Int) == 1) = false := by simp; omega
    have h2 : ((i : Int) == 2) = false := by simp; omega
    have h3 : ((i : Int) == 3) = false := by simp; omega
    obtain ⟨⟨zl, z0, z1, z2, z3⟩, zf0, zf1, zf2, zf3⟩ := HZ4.out
    obtain ⟨⟨bl, b0, b1, b2, b3⟩, bf0, bf1, bf2, bf3⟩ := HB4.out
    have hne : w.heap.size ≠ bx := HNe.out
    go_wp2_with fail
    exact bodyPost_ret (v := dtV y m d ci) (by simp [results, Tryd.results34, go_sem, z0, z1, z2, z3, b0, b1, b2, b3]) rfl ⟨_, _, _, _, rfl, (St.mono (HS4.out.set4 w.heap.size _ _ _ _ (Nat.le_refl _)) (by omega)).left⟩

end Go.Proofs.YtlhkfhgnlopejaaDoor.DtD
