/-
  Drawing functions of chapter 3: date.
-/
import Derived.Test.YtlhkfhgnlopejaaDoorSt
import Derived.Test.YtlhkfhgnlopejaaDoorDt8
namespace Go.Proofs.YtlhkfhgnlopejaaDoor.DtD
open Go.RowKit Pl Cur Draw0 Among DtPl Dt Law2 St
set_option linter.unusedSimpArgs false
set_option linter.unusedVariables false

/-- a date that is valid -/
def ADate (w : World) (g : Nat) (A : Option Addr) (n c k m : Nat) (e : Ending) (w' : World) : Prop := ∃ y mo d ci, okB y mo d ci = true ∧ e = .returned (dtV y mo d ci) ∧ LeftC w g A n c k m w'
theorem ok_of {y m d : Int} {c : Bool} (h : okP y m d c) : okB y m d c = true := okB_iff.2 h

set_option maxHeartbeats 2000000 in
theorem date_any (g : Nat) (A : Option Addr) (n c k : Nat) (s : Int) (w : World) (hk : k ≤ 1048000) (hn : n ≤ 1048576) (hcur : IsCur w g A n c k s) (hr : RdB w A n) (ha : Apart A n g) :
    Calls Tryd.prog 23 #[.pointer (some ⟨g, 0, none⟩)] w (ADate w g A n c k 10) := by
  have hgl : g < w.heap.size := hcur.lt
  have HA := Lib.hid ha
  have HZ := Lib.hid (D4F.new w 0 0 0 false 25)
  have HS1 := Lib.hid ((St.start hcur hr ha).alloc (.cells #[.int .i64 0, .int .i64 0, .int .i64 0, .bool false] 25))
  have HSz : Hid ((w.alloc (.cells #[.int .i64 0, .int .i64 0, .int .i64 0, .bool false] 25)).heap.size = w.heap.size + 1) := Lib.hid (by simp)
  clear hcur hr ha
  go_enter Tryd.func23, Tryd.ntmps23
  go_wp2_with fail
  generalize hW : w.alloc _ = w1 at HZ HS1 HSz ⊢
  clear hW
  obtain ⟨k1, s1, hk1, hc1⟩ := HS1.out.cur
  have HC1 := Lib.hid hc1
  clear hc1
  refine (among_in _ _ 6 [1999, 2000, 1850, 987, 1900, 2024] rfl (by omega) (by omega) g (by omega) A n c k1 s1 _ (by omega) hn (HC1.out.alloc _) (HS1.out.rd.alloc HA.out HC1.out.lt _) HA.out (its_at HSz.out rfl)).mono ?_
  rintro e w2 ⟨y, hy, rfl, hl⟩
  have hyb : 1 ≤ y ∧ y ≤ 2999 := by simp at hy; omega
  have HS2 := Lib.hid (HS1.out.call hk1 hl.alloc)
  have HZ2 := Lib.hid (d4f_grown hl.alloc.2 (by omega) HZ.out)
  have hle2 : w.heap.size + 1 ≤ w2.heap.size := by have h1 := hl.alloc.2.size; have h2 := HSz.out; omega
  clear hl hy HC1 HS1 HZ HSz
  have HB3 := Lib.hid (D4F.new w2 y 0 0 false 25)
  have HS3 := Lib.hid (HS2.out.alloc (.cells #[.int .i64 y, .int .i64 0, .int .i64 0, .bool false] 25))
  have HZ3 := Lib.hid (D4F.below (box_below w2 (.cells #[.int .i64 y, .int .i64 0, .int .i64 0, .bool false] 25)) HZ2.out)
  clear HS2 HZ2
  go_wp2_with fail
  generalize hW : w2.alloc _ = w3 at HB3 HS3 HZ3 ⊢
  clear hW
  generalize hb : w2.heap.size = bx at *
  clear hb
  obtain ⟨k3, s3, hk3, hc3⟩ := HS3.out.cur
  refine (pick_any 5 (by omega) (by omega) g A n c k3 s3 _ (by omega) hn hc3 HS3.out.rd HA.out).mono ?_
  rintro e w4 ⟨r, rfl, hr0, hr1, hl⟩
  have HS4 := Lib.hid (HS3.out.call hk3 hl)
  have HZ4 := Lib.hid (d4f_grown hl.2 (by omega) HZ3.out)
  have HB4 := Lib.hid (d4f_grown hl.2 (by omega) HB3.out)
  clear hl hc3 HS3 HZ3 HB3
  obtain ⟨i, rfl⟩ := Int.eq_ofNat_of_zero_le hr0
  have HNe : Hid (w.heap.size ≠ bx) := Lib.hid (by omega)
  rcases (show i = 0 ∨ i = 1 ∨ i = 2 ∨ i = 3 ∨ i = 4 by omega) with rfl | rfl | rfl | rfl | rfl
  · obtain ⟨⟨zl, z0, z1, z2, z3⟩, zf0, zf1, zf2, zf3⟩ := HZ4.out
    obtain ⟨⟨bl, b0, b1, b2, b3⟩, bf0, bf1, bf2, bf3⟩ := HB4.out
    have hne : w.heap.size ≠ bx := HNe.out
    go_wp2_with fail
    exact bodyPost_ret (v := dtV 0 0 0 false) (by simp [results, Tryd.results23, go_sem, z0, z1, z2, z3, b0, b1, b2, b3]) rfl ⟨_, _, _, _, ok_of (.inl ⟨rfl, rfl, rfl, rfl⟩), rfl, (St.mono (HS4.out.set4 w.heap.size _ _ _ _ (Nat.le_refl _)) (by omega)).left⟩
  · obtain ⟨⟨zl, z0, z1, z2, z3⟩, zf0, zf1, zf2, zf3⟩ := HZ4.out
    obtain ⟨⟨bl, b0, b1, b2, b3⟩, bf0, bf1, bf2, bf3⟩ := HB4.out
    have hne : w.heap.size ≠ bx := HNe.out
    go_wp2_with fail
    exact bodyPost_ret (v := dtV y 0 0 true) (by simp [results, Tryd.results23, go_sem, z0, z1, z2, z3, b0, b1, b2, b3]) rfl ⟨_, _, _, _, ok_of (.inr (.inl ⟨hyb.1, hyb.2, rfl, rfl⟩)), rfl, (St.mono ((HS4.out.set bx 3 _ (by omega)).set4 w.heap.size _ _ _ _ (Nat.le_refl _)) (by omega)).left⟩
  · obtain ⟨⟨bl, b0, b1, b2, b3⟩, bf0, bf1, bf2, bf3⟩ := HB4.out
    go_wp2_with fail
    obtain ⟨k4, s4, hk4, hc4⟩ := HS4.out.cur
    refine (pick_any 12 (by omega) (by omega) g A n c k4 s4 _ (by omega) hn hc4 HS4.out.rd HA.out).mono ?_
    rintro e w5 ⟨a, rfl, ha0, ha1, hl⟩
    have HS5 := Lib.hid (HS4.out.call hk4 hl)
    have HZ5 := Lib.hid (d4f_grown hl.2 (by omega) HZ4.out)
    have HB5 := Lib.hid (d4f_grown hl.2 (by omega) HB4.out)
    clear hl hc4 HS4 HZ4 HB4 bl b0 b1 b2 b3 bf0 bf1 bf2 bf3
    obtain ⟨⟨zl, z0, z1, z2, z3⟩, zf0, zf1, zf2, zf3⟩ := HZ5.out
    obtain ⟨⟨bl, b0, b1, b2, b3⟩, bf0, bf1, bf2, bf3⟩ := HB5.out
    have hne : w.heap.size ≠ bx := HNe.out
    go_wp2_with fail
    exact bodyPost_ret (v := dtV y (1 + a) 0 false) (by simp [results, Tryd.results23, go_sem, z0, z1, z2, z3, b0, b1, b2, b3]) rfl ⟨_, _, _, _, ok_of (.inr (.inr ⟨hyb.1, hyb.2, by omega, by omega, by omega, by have := dim_bd y (1 + a); omega, rfl⟩)), rfl, (St.mono ((HS5.out.set bx 1 _ (by omega)).set4 w.heap.size _ _ _ _ (Nat.le_refl _)) (by omega)).left⟩
  · obtain ⟨⟨bl, b0, b1, b2, b3⟩, bf0, bf1, bf2, bf3⟩ := HB4.out
    go_wp2_with fail
    obtain ⟨k4, s4, hk4, hc4⟩ := HS4.out.cur
    refine (pick_any 12 (by omega) (by omega) g A n c k4 s4 _ (by omega) hn hc4 HS4.out.rd HA.out).mono ?_
    rintro e w5 ⟨a, rfl, ha0, ha1, hl⟩
    have HS5 := Lib.hid (HS4.out.call hk4 hl)
    have HZ5 := Lib.hid (d4f_grown hl.2 (by omega) HZ4.out)
    have HB5 := Lib.hid (d4f_grown hl.2 (by omega) HB4.out)
    clear hl hc4 HS4 HZ4 HB4 bl b0 b1 b2 b3 bf0 bf1 bf2 bf3
    obtain ⟨⟨bl, b0, b1, b2, b3⟩, bf0, bf1, bf2, bf3⟩ := HB5.out
    have HS6 := Lib.hid (HS5.out.set bx 1 (.int .i64 (1 + a)) (by omega))
    have HZ6 := Lib.hid (d4f_set (j := 1) (v := .int .i64 (1 + a)) (Ne.symm HNe.out) HZ5.out)
    have HB6 := Lib.hid (d4f_set1 (1 + a) HB5.out)
    go_wp2_with fail
    generalize hW : w5.setCell _ _ = w6 at HS6 HZ6 HB6 ⊢
    clear hW bl b0 b1 b2 b3 bf0 bf1 bf2 bf3 HS5 HZ5 HB5
    obtain ⟨k6, s6, hk6, hc6⟩ := HS6.out.cur
    refine (pick_any 28 (by omega) (by omega) g A n c k6 s6 _ (by omega) hn hc6 HS6.out.rd HA.out).mono ?_
    rintro e w7 ⟨b, rfl, hb0, hb1, hl⟩
    have HS7 := Lib.hid (HS6.out.call hk6 hl)
    have HZ7 := Lib.hid (d4f_grown hl.2 (by omega) HZ6.out)
    have HB7 := Lib.hid (d4f_grown hl.2 (by omega) HB6.out)
    clear hl hc6 HS6 HZ6 HB6
    obtain ⟨⟨zl, z0, z1, z2, z3⟩, zf0, zf1, zf2, zf3⟩ := HZ7.out
    obtain ⟨⟨bl, b0, b1, b2, b3⟩, bf0, bf1, bf2, bf3⟩ := HB7.out
    have hne : w.heap.size ≠ bx := HNe.out
    go_wp2_with fail
    exact bodyPost_ret (v := dtV y (1 + a) (1 + b) false) (by simp [results, Tryd.results23, go_sem, z0, z1, z2, z3, b0, b1, b2, b3]) rfl ⟨_, _, _, _, ok_of (.inr (.inr ⟨hyb.1, hyb.2, by omega, by omega, by omega, by have := dim_bd y (1 + a); omega, rfl⟩)), rfl, (St.mono ((HS7.out.set bx 2 _ (by omega)).set4 w.heap.size _ _ _ _ (Nat.le_refl _)) (by omega)).left⟩
  · obtain ⟨⟨zl, z0, z1, z2, z3⟩, zf0, zf1, zf2, zf3⟩ := HZ4.out
    obtain ⟨⟨bl, b0, b1, b2, b3⟩, bf0, bf1, bf2, bf3⟩ := HB4.out
    have hne : w.heap.size ≠ bx := HNe.out
    go_wp2_with fail
    exact bodyPost_ret (v := dtV y 0 0 false) (by simp [results, Tryd.results23, go_sem, z0, z1, z2, z3, b0, b1, b2, b3]) rfl ⟨_, _, _, _, ok_of (.inr (.inl ⟨hyb.1, hyb.2, rfl, rfl⟩)), rfl, (St.mono (HS4.out.set4 w.heap.size _ _ _ _ (Nat.le_refl _)) (by omega)).left⟩

end Go.Proofs.YtlhkfhgnlopejaaDoor.DtD
