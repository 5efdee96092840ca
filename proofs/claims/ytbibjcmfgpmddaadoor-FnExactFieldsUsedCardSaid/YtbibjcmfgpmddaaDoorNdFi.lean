/-
  The shape of a node: the table of forms; contracts of fitsWord, fitsForm.
-/
import Derived.Test.YtbibjcmfgpmddaaDoorNdF
namespace Go.Proofs.YtbibjcmfgpmddaaDoor.Ns
open Go.ChangeShapes Go.WideShapes Go.ChangeAt
open Go.RowKit NdPl Pl NmPl LaidS
set_option linter.unusedSimpArgs false
set_option linter.unusedVariables false

/-- the forms, a cell at a time -/
def fcells : List Value := [.string ⟨#[]⟩, .bool false, .bool false, .bool false, .bool false, .int .i64 0, .int .i64 0,
  .string ⟨#[]⟩, .bool true, .bool false, .bool false, .bool false, .int .i64 0, .int .i64 0,
  .string ⟨#[]⟩, .bool false, .bool false, .bool true, .bool false, .int .i64 0, .int .i64 0,
  .string ⟨#[103, 114, 111, 117, 112]⟩, .bool false, .bool false, .bool true, .bool false, .int .i64 1, .int .i64 6,
  .string ⟨#[105, 102]⟩, .bool true, .bool false, .bool false, .bool false, .int .i64 2, .int .i64 2,
  .string ⟨#[107, 105, 110, 100]⟩, .bool false, .bool true, .bool false, .bool false, .int .i64 2, .int .i64 2,
  .string ⟨#[102, 105, 114, 115, 116]⟩, .bool false, .bool false, .bool false, .bool false, .int .i64 1, .int .i64 6,
  .string ⟨#[97, 102, 102, 105, 120]⟩, .bool false, .bool false, .bool true, .bool true, .int .i64 1, .int .i64 1,
  .string ⟨#[105, 116, 97, 108, 105, 99]⟩, .bool false, .bool false, .bool false, .bool false, .int .i64 1, .int .i64 1,
  .string ⟨#[98, 111, 108, 100]⟩, .bool false, .bool false, .bool false, .bool false, .int .i64 1, .int .i64 1]
def FormTab (w : World) : Prop := Bx w 0 fcells
set_option maxHeartbeats 2000000 in
theorem fitsWord_f (nm : ByteArray) (fk : Bool) (ft fa : Bool) (lo hi : Int) (wd : ByteArray) (w : World) :
    Calls Tryd.prog 61 #[.agg #[.string nm, .bool true, .bool fk, .bool ft, .bool fa, .int .i64 lo, .int .i64 hi], .string wd] w fun e w' => e = .returned (.bool (isSF wd)) ∧ Below w.heap.size w w' := by
  have HB := Lib.hid ((Below.refl _ w).alloc (Nat.le_refl _) (.cells #[.string nm, .bool true, .bool fk, .bool ft, .bool fa, .int .i64 lo, .int .i64 hi] 63))
  have HF := Lib.hid (fun w => sfield_i wd (isSF wd) w rfl)
  generalize isSF wd = r at *
  go_enter Tryd.func61, Tryd.ntmps61
  go_wp2_with fail
  generalize w.alloc _ = w0 at HB ⊢
  refine (HF.out _).mono ?_
  rintro e w1 ⟨rfl, b1⟩
  have B1 := HB.out.trans (b1.mono HB.out.size)
  go_wp2_with fail
  go_ret
  exact ⟨rfl, B1⟩
set_option maxHeartbeats 2000000 in
theorem fitsWord_k (nm : ByteArray) (ft fa : Bool) (lo hi : Int) (wd : ByteArray) (w : World) (ht : StrTab 1 kdw w) :
    Calls Tryd.prog 61 #[.agg #[.string nm, .bool false, .bool true, .bool ft, .bool fa, .int .i64 lo, .int .i64 hi], .string wd] w fun e w' => e = .returned (.bool (decide (0 < (kd wd : Int)))) ∧ Below w.heap.size w w' := by
  have HB := Lib.hid ((Below.refl _ w).alloc (Nat.le_refl _) (.cells #[.string nm, .bool false, .bool true, .bool ft, .bool fa, .int .i64 lo, .int .i64 hi] 63))
  have HF := Lib.hid (kind_i wd _ (ht.below HB.out))
  have HV := Lib.hid (show kdV wd = if kd wd = 0 then .tuple #[.int .i64 0, .bool false] else .tuple #[.int .i64 (kd wd), .bool true] from rfl)
  clear ht
  by_cases hk : kd wd = 0
  · have HR : Hid (decide (0 < (kd wd : Int)) = false) := Lib.hid (decide_eq_false (by omega))
    have e : kdV wd = .tuple #[.int .i64 0, .bool false] := by rw [HV.out, if_pos hk]
    rw [e] at HF
    clear HV e hk
    rw [HR.out]
    go_enter Tryd.func61, Tryd.ntmps61
    go_wp2_with fail
    refine HF.out.mono ?_
    rintro e w1 ⟨rfl, rfl⟩
    go_wp2_with fail
    go_ret
    exact ⟨rfl, HB.out⟩
  · have HR : Hid (decide (0 < (kd wd : Int)) = true) := Lib.hid (decide_eq_true (by omega))
    have e : kdV wd = .tuple #[.int .i64 (kd wd), .bool true] := by rw [HV.out, if_neg hk]
    rw [e] at HF
    clear HV e hk
    rw [HR.out]
    generalize kd wd = q at *
    go_enter Tryd.func61, Tryd.ntmps61
    go_wp2_with fail
    refine HF.out.mono ?_
    rintro e w1 ⟨rfl, rfl⟩
    go_wp2_with fail
    go_ret
    exact ⟨rfl, HB.out⟩
set_option maxHeartbeats 2000000 in
theorem fitsWord_n (nm : ByteArray) (ft fa : Bool) (lo hi : Int) (wd : ByteArray) (w : World) :
    Calls Tryd.prog 61 #[.agg #[.string nm, .bool false, .bool false, .bool ft, .bool fa, .int .i64 lo, .int .i64 hi], .string wd] w fun e w' => e = .returned (.bool (em wd)) ∧ Below w.heap.size w w' := by
  have HB := Lib.hid ((Below.refl _ w).alloc (Nat.le_refl _) (.cells #[.string nm, .bool false, .bool false, .bool ft, .bool fa, .int .i64 lo, .int .i64 hi] 63))
  obtain ⟨w1, w2⟩ := em_forms wd
  generalize em wd = ew at *
  go_enter Tryd.func61, Tryd.ntmps61
  go_wp2_with fail
  go_ret
  exact ⟨by first | rfl | rw [w1] | rw [w2], HB.out⟩
set_option maxRecDepth 100000 in
set_option maxHeartbeats 4000000 in
theorem fits_1 (wd tx af : ByteArray) (A : Option Addr) (n c : Nat) (w : World) (hn : n ≤ 1048576) (ht : FormTab w) :
    Calls Tryd.prog 51 #[ndV 1 wd tx af A n c] w fun e w' => e = .returned (.bool (shB 1 wd tx af n)) ∧ Below w.heap.size w w' := by
  have HB := Lib.hid ((Below.refl _ w).alloc (Nat.le_refl _) (.cells #[.int .i64 1, .string wd, .string tx, .string af, .slice A n c] 33))
  have HX := Lib.hid (Bx.new w #[.int .i64 1, .string wd, .string tx, .string af, .slice A n c] 33)
  obtain ⟨w1, w2⟩ := em_forms wd
  obtain ⟨t1, t2⟩ := em_forms tx
  obtain ⟨a1, a2⟩ := em_forms af
  have HEt := Lib.hid (em_pc tx)
  have HEa := Lib.hid (em_pc af)
  have HS : Hid (shB 1 wd tx af n = (isSF wd && em tx && em af && ((n : Int) == 0))) := Lib.hid rfl
  have g0 : w.cell? ⟨0, 7, none⟩ = some (.string ⟨#[]⟩) := ht.2 7 _ rfl
  have g1 : w.cell? ⟨0, 8, none⟩ = some (.bool true) := ht.2 8 _ rfl
  have g2 : w.cell? ⟨0, 9, none⟩ = some (.bool false) := ht.2 9 _ rfl
  have g3 : w.cell? ⟨0, 10, none⟩ = some (.bool false) := ht.2 10 _ rfl
  have g4 : w.cell? ⟨0, 11, none⟩ = some (.bool false) := ht.2 11 _ rfl
  have g5 : w.cell? ⟨0, 12, none⟩ = some (.int .i64 0) := ht.2 12 _ rfl
  have g6 : w.cell? ⟨0, 13, none⟩ = some (.int .i64 0) := ht.2 13 _ rfl
  have hg := ht.1
  have HB2 := Lib.hid (HB.out.alloc (by simp) (.cells #[.string ⟨#[]⟩, .bool true, .bool false, .bool false, .bool false, .int .i64 0, .int .i64 0] 63))
  have HX2 := Lib.hid (HX.out.below ((Below.refl _ _).alloc (Nat.le_refl _) (.cells #[.string ⟨#[]⟩, .bool true, .bool false, .bool false, .bool false, .int .i64 0, .int .i64 0] 63)))
  have HY2 := Lib.hid (Bx.new (w.alloc (.cells #[.int .i64 1, .string wd, .string tx, .string af, .slice A n c] 33)) #[.string ⟨#[]⟩, .bool true, .bool false, .bool false, .bool false, .int .i64 0, .int .i64 0] 63)
  have HF := Lib.hid (fun w => fitsWord_f ⟨#[]⟩ false false false 0 0 wd w)
  clear ht
  generalize shB 1 wd tx af n = z at *
  generalize em wd = ew at *
  generalize em tx = et at *
  generalize em af = ea at *
  generalize isSF wd = r at *
  go_enter Tryd.func51, Tryd.ntmps51
  go_wp2_with fail
  generalize (w.alloc _).alloc _ = w0 at HB2 HX2 HY2 ⊢
  refine (HF.out _).mono ?_
  rintro e w1 ⟨rfl, b1⟩
  have hx1 := HX2.out.below b1
  have hy1 := HY2.out.below b1
  have c0 := hx1.2 0 _ rfl
  have c2 := hx1.2 2 _ rfl
  have c3 := hx1.2 3 _ rfl
  have c4 := hx1.2 4 _ rfl
  have d3 := hy1.2 3 _ rfl
  have d4 := hy1.2 4 _ rfl
  have d5 := hy1.2 5 _ rfl
  have d6 := hy1.2 6 _ rfl
  have B1 := Lib.hid (HB2.out.trans (b1.mono HB2.out.size))
  simp only [World.size_alloc] at *
  clear b1 HX2 HY2 HB2 HX HB HF hx1 hy1
  go_wp2_with (fail)
  all_goals
    go_ret
    exact ⟨ret_bool (by rw [HS.out]; first | (simp [*]; done) | (rw [Bool.eq_iff_iff]; simp [*] <;> omega) | (have := HEt.out; have := HEa.out; simp_all; done) | (have := HEt.out; have := HEa.out; rw [Bool.eq_iff_iff]; simp_all <;> omega)), B1.out⟩
set_option maxRecDepth 100000 in
set_option maxHeartbeats 4000000 in
theorem fits_2 (wd tx af : ByteArray) (A : Option Addr) (n c : Nat) (w : World) (hn : n ≤ 1048576) (ht : FormTab w) :
    Calls Tryd.prog 51 #[ndV 2 wd tx af A n c] w fun e w' => e = .returned (.bool (shB 2 wd tx af n)) ∧ Below w.heap.size w w' := by
  have HB := Lib.hid ((Below.refl _ w).alloc (Nat.le_refl _) (.cells #[.int .i64 2, .string wd, .string tx, .string af, .slice A n c] 33))
  have HX := Lib.hid (Bx.new w #[.int .i64 2, .string wd, .string tx, .string af, .slice A n c] 33)
  obtain ⟨w1, w2⟩ := em_forms wd
  obtain ⟨t1, t2⟩ := em_forms tx
  obtain ⟨a1, a2⟩ := em_forms af
  have HEt := Lib.hid (em_pc tx)
  have HEa := Lib.hid (em_pc af)
  have HS : Hid (shB 2 wd tx af n = (em wd && !(em tx) && pcB tx && em af && ((n : Int) == 0))) := Lib.hid rfl
  have g0 : w.cell? ⟨0, 14, none⟩ = some (.string ⟨#[]⟩) := ht.2 14 _ rfl
  have g1 : w.cell? ⟨0, 15, none⟩ = some (.bool false) := ht.2 15 _ rfl
  have g2 : w.cell? ⟨0, 16, none⟩ = some (.bool false) := ht.2 16 _ rfl
  have g3 : w.cell? ⟨0, 17, none⟩ = some (.bool true) := ht.2 17 _ rfl
  have g4 : w.cell? ⟨0, 18, none⟩ = some (.bool false) := ht.2 18 _ rfl
  have g5 : w.cell? ⟨0, 19, none⟩ = some (.int .i64 0) := ht.2 19 _ rfl
  have g6 : w.cell? ⟨0, 20, none⟩ = some (.int .i64 0) := ht.2 20 _ rfl
  have hg := ht.1
  have HB2 := Lib.hid (HB.out.alloc (by simp) (.cells #[.string ⟨#[]⟩, .bool false, .bool false, .bool true, .bool false, .int .i64 0, .int .i64 0] 63))
  have HX2 := Lib.hid (HX.out.below ((Below.refl _ _).alloc (Nat.le_refl _) (.cells #[.string ⟨#[]⟩, .bool false, .bool false, .bool true, .bool false, .int .i64 0, .int .i64 0] 63)))
  have HY2 := Lib.hid (Bx.new (w.alloc (.cells #[.int .i64 2, .string wd, .string tx, .string af, .slice A n c] 33)) #[.string ⟨#[]⟩, .bool false, .bool false, .bool true, .bool false, .int .i64 0, .int .i64 0] 63)
  have HF := Lib.hid (fun w => fitsWord_n ⟨#[]⟩ true false 0 0 wd w)
  have HPt := Lib.hid (fun w => piece_i tx (pcB tx) w rfl)
  clear ht
  generalize shB 2 wd tx af n = z at *
  generalize em wd = ew at *
  generalize em tx = et at *
  generalize em af = ea at *
  generalize pcB tx = pt at *
  go_enter Tryd.func51, Tryd.ntmps51
  go_wp2_with fail
  generalize (w.alloc _).alloc _ = w0 at HB2 HX2 HY2 ⊢
  refine (HF.out _).mono ?_
  rintro e w1 ⟨rfl, b1⟩
  have hx1 := HX2.out.below b1
  have hy1 := HY2.out.below b1
  have c0 := hx1.2 0 _ rfl
  have c2 := hx1.2 2 _ rfl
  have c3 := hx1.2 3 _ rfl
  have c4 := hx1.2 4 _ rfl
  have d3 := hy1.2 3 _ rfl
  have d4 := hy1.2 4 _ rfl
  have d5 := hy1.2 5 _ rfl
  have d6 := hy1.2 6 _ rfl
  have B1 := Lib.hid (HB2.out.trans (b1.mono HB2.out.size))
  simp only [World.size_alloc] at *
  clear b1 HX2 HY2 HB2 HX HB HF hx1 hy1
  go_wp2_with (first | (go_at_call 62; with_reducible refine (HPt.out _).mono ?_; rintro e w1 ⟨rfl, rfl⟩))
  all_goals
    go_ret
    exact ⟨ret_bool (by rw [HS.out]; first | (simp [*]; done) | (rw [Bool.eq_iff_iff]; simp [*] <;> omega) | (have := HEt.out; have := HEa.out; simp_all; done) | (have := HEt.out; have := HEa.out; rw [Bool.eq_iff_iff]; simp_all <;> omega)), B1.out⟩
set_option maxRecDepth 100000 in
set_option maxHeartbeats 4000000 in
theorem fits_3 (wd tx af : ByteArray) (A : Option Addr) (n c : Nat) (w : World) (hn : n ≤ 1048576) (ht : FormTab w) :
    Calls Tryd.prog 51 #[ndV 3 wd tx af A n c] w fun e w' => e = .returned (.bool (shB 3 wd tx af n)) ∧ Below w.heap.size w w' := by
  have HB := Lib.hid ((Below.refl _ w).alloc (Nat.le_refl _) (.cells #[.int .i64 3, .string wd, .string tx, .string af, .slice A n c] 33))
  have HX := Lib.hid (Bx.new w #[.int .i64 3, .string wd, .string tx, .string af, .slice A n c] 33)
  obtain ⟨w1, w2⟩ := em_forms wd
  obtain ⟨t1, t2⟩ := em_forms tx
  obtain ⟨a1, a2⟩ := em_forms af
  have HEt := Lib.hid (em_pc tx)
  have HEa := Lib.hid (em_pc af)
  have HS : Hid (shB 3 wd tx af n = (em wd && pcB tx && em af && decide (1 ≤ (n : Int) ∧ (n : Int) ≤ 6))) := Lib.hid rfl
  have g0 : w.cell? ⟨0, 21, none⟩ = some (.string ⟨#[103, 114, 111, 117, 112]⟩) := ht.2 21 _ rfl
  have g1 : w.cell? ⟨0, 22, none⟩ = some (.bool false) := ht.2 22 _ rfl
  have g2 : w.cell? ⟨0, 23, none⟩ = some (.bool false) := ht.2 23 _ rfl
  have g3 : w.cell? ⟨0, 24, none⟩ = some (.bool true) := ht.2 24 _ rfl
  have g4 : w.cell? ⟨0, 25, none⟩ = some (.bool false) := ht.2 25 _ rfl
  have g5 : w.cell? ⟨0, 26, none⟩ = some (.int .i64 1) := ht.2 26 _ rfl
  have g6 : w.cell? ⟨0, 27, none⟩ = some (.int .i64 6) := ht.2 27 _ rfl
  have hg := ht.1
  have HB2 := Lib.hid (HB.out.alloc (by simp) (.cells #[.string ⟨#[103, 114, 111, 117, 112]⟩, .bool false, .bool false, .bool true, .bool false, .int .i64 1, .int .i64 6] 63))
  have HX2 := Lib.hid (HX.out.below ((Below.refl _ _).alloc (Nat.le_refl _) (.cells #[.string ⟨#[103, 114, 111, 117, 112]⟩, .bool false, .bool false, .bool true, .bool false, .int .i64 1, .int .i64 6] 63)))
  have HY2 := Lib.hid (Bx.new (w.alloc (.cells #[.int .i64 3, .string wd, .string tx, .string af, .slice A n c] 33)) #[.string ⟨#[103, 114, 111, 117, 112]⟩, .bool false, .bool false, .bool true, .bool false, .int .i64 1, .int .i64 6] 63)
  have HF := Lib.hid (fun w => fitsWord_n ⟨#[103, 114, 111, 117, 112]⟩ true false 1 6 wd w)
  have HPt := Lib.hid (fun w => piece_i tx (pcB tx) w rfl)
  clear ht
  generalize shB 3 wd tx af n = z at *
  generalize em wd = ew at *
  generalize em tx = et at *
  generalize em af = ea at *
  generalize pcB tx = pt at *
  go_enter Tryd.func51, Tryd.ntmps51
  go_wp2_with fail
  generalize (w.alloc _).alloc _ = w0 at HB2 HX2 HY2 ⊢
  refine (HF.out _).mono ?_
  rintro e w1 ⟨rfl, b1⟩
  have hx1 := HX2.out.below b1
  have hy1 := HY2.out.below b1
  have c0 := hx1.2 0 _ rfl
  have c2 := hx1.2 2 _ rfl
  have c3 := hx1.2 3 _ rfl
  have c4 := hx1.2 4 _ rfl
  have d3 := hy1.2 3 _ rfl
  have d4 := hy1.2 4 _ rfl
  have d5 := hy1.2 5 _ rfl
  have d6 := hy1.2 6 _ rfl
  have B1 := Lib.hid (HB2.out.trans (b1.mono HB2.out.size))
  simp only [World.size_alloc] at *
  clear b1 HX2 HY2 HB2 HX HB HF hx1 hy1
  go_wp2_with (first | (go_at_call 62; with_reducible refine (HPt.out _).mono ?_; rintro e w1 ⟨rfl, rfl⟩))
  all_goals
    go_ret
    exact ⟨ret_bool (by rw [HS.out]; first | (simp [*]; done) | (rw [Bool.eq_iff_iff]; simp [*] <;> omega) | (have := HEt.out; have := HEa.out; simp_all; done) | (have := HEt.out; have := HEa.out; rw [Bool.eq_iff_iff]; simp_all <;> omega)), B1.out⟩
set_option maxRecDepth 100000 in
set_option maxHeartbeats 4000000 in
theorem fits_4 (wd tx af : ByteArray) (A : Option Addr) (n c : Nat) (w : World) (hn : n ≤ 1048576) (ht : FormTab w) :
    Calls Tryd.prog 51 #[ndV 4 wd tx af A n c] w fun e w' => e = .returned (.bool (shB 4 wd tx af n)) ∧ Below w.heap.size w w' := by
  have HB := Lib.hid ((Below.refl _ w).alloc (Nat.le_refl _) (.cells #[.int .i64 4, .string wd, .string tx, .string af, .slice A n c] 33))
  have HX := Lib.hid (Bx.new w #[.int .i64 4, .string wd, .string tx, .string af, .slice A n c] 33)
  obtain ⟨w1, w2⟩ := em_forms wd
  obtain ⟨t1, t2⟩ := em_forms tx
  obtain ⟨a1, a2⟩ := em_forms af
  have HEt := Lib.hid (em_pc tx)
  have HEa := Lib.hid (em_pc af)
  have HS : Hid (shB 4 wd tx af n = (isSF wd && em tx && em af && ((n : Int) == 2))) := Lib.hid rfl
  have g0 : w.cell? ⟨0, 28, none⟩ = some (.string ⟨#[105, 102]⟩) := ht.2 28 _ rfl
  have g1 : w.cell? ⟨0, 29, none⟩ = some (.bool true) := ht.2 29 _ rfl
  have g2 : w.cell? ⟨0, 30, none⟩ = some (.bool false) := ht.2 30 _ rfl
  have g3 : w.cell? ⟨0, 31, none⟩ = some (.bool false) := ht.2 31 _ rfl
  have g4 : w.cell? ⟨0, 32, none⟩ = some (.bool false) := ht.2 32 _ rfl
  have g5 : w.cell? ⟨0, 33, none⟩ = some (.int .i64 2) := ht.2 33 _ rfl
  have g6 : w.cell? ⟨0, 34, none⟩ = some (.int .i64 2) := ht.2 34 _ rfl
  have hg := ht.1
  have HB2 := Lib.hid (HB.out.alloc (by simp) (.cells #[.string ⟨#[105, 102]⟩, .bool true, .bool false, .bool false, .bool false, .int .i64 2, .int .i64 2] 63))
  have HX2 := Lib.hid (HX.out.below ((Below.refl _ _).alloc (Nat.le_refl _) (.cells #[.string ⟨#[105, 102]⟩, .bool true, .bool false, .bool false, .bool false, .int .i64 2, .int .i64 2] 63)))
  have HY2 := Lib.hid (Bx.new (w.alloc (.cells #[.int .i64 4, .string wd, .string tx, .string af, .slice A n c] 33)) #[.string ⟨#[105, 102]⟩, .bool true, .bool false, .bool false, .bool false, .int .i64 2, .int .i64 2] 63)
  have HF := Lib.hid (fun w => fitsWord_f ⟨#[105, 102]⟩ false false false 2 2 wd w)
  clear ht
  generalize shB 4 wd tx af n = z at *
  generalize em wd = ew at *
  generalize em tx = et at *
  generalize em af = ea at *
  generalize isSF wd = r at *
  go_enter Tryd.func51, Tryd.ntmps51
  go_wp2_with fail
  generalize (w.alloc _).alloc _ = w0 at HB2 HX2 HY2 ⊢
  refine (HF.out _).mono ?_
  rintro e w1 ⟨rfl, b1⟩
  have hx1 := HX2.out.below b1
  have hy1 := HY2.out.below b1
  have c0 := hx1.2 0 _ rfl
  have c2 := hx1.2 2 _ rfl
  have c3 := hx1.2 3 _ rfl
  have c4 := hx1.2 4 _ rfl
  have d3 := hy1.2 3 _ rfl
  have d4 := hy1.2 4 _ rfl
  have d5 := hy1.2 5 _ rfl
  have d6 := hy1.2 6 _ rfl
  have B1 := Lib.hid (HB2.out.trans (b1.mono HB2.out.size))
  simp only [World.size_alloc] at *
  clear b1 HX2 HY2 HB2 HX HB HF hx1 hy1
  go_wp2_with (fail)
  all_goals
    go_ret
    exact ⟨ret_bool (by rw [HS.out]; first | (simp [*]; done) | (rw [Bool.eq_iff_iff]; simp [*] <;> omega) | (have := HEt.out; have := HEa.out; simp_all; done) | (have := HEt.out; have := HEa.out; rw [Bool.eq_iff_iff]; simp_all <;> omega)), B1.out⟩
set_option maxRecDepth 100000 in
set_option maxHeartbeats 4000000 in
theorem fits_5 (wd tx af : ByteArray) (A : Option Addr) (n c : Nat) (w : World) (hn : n ≤ 1048576) (ht : FormTab w) (hk : StrTab 1 kdw w) :
    Calls Tryd.prog 51 #[ndV 5 wd tx af A n c] w fun e w' => e = .returned (.bool (shB 5 wd tx af n)) ∧ Below w.heap.size w w' := by
  have HB := Lib.hid ((Below.refl _ w).alloc (Nat.le_refl _) (.cells #[.int .i64 5, .string wd, .string tx, .string af, .slice A n c] 33))
  have HX := Lib.hid (Bx.new w #[.int .i64 5, .string wd, .string tx, .string af, .slice A n c] 33)
  obtain ⟨w1, w2⟩ := em_forms wd
  obtain ⟨t1, t2⟩ := em_forms tx
  obtain ⟨a1, a2⟩ := em_forms af
  have HEt := Lib.hid (em_pc tx)
  have HEa := Lib.hid (em_pc af)
  have HS : Hid (shB 5 wd tx af n = (decide (0 < (kd wd : Int)) && em tx && em af && ((n : Int) == 2))) := Lib.hid rfl
  have g0 : w.cell? ⟨0, 35, none⟩ = some (.string ⟨#[107, 105, 110, 100]⟩) := ht.2 35 _ rfl
  have g1 : w.cell? ⟨0, 36, none⟩ = some (.bool false) := ht.2 36 _ rfl
  have g2 : w.cell? ⟨0, 37, none⟩ = some (.bool true) := ht.2 37 _ rfl
  have g3 : w.cell? ⟨0, 38, none⟩ = some (.bool false) := ht.2 38 _ rfl
  have g4 : w.cell? ⟨0, 39, none⟩ = some (.bool false) := ht.2 39 _ rfl
  have g5 : w.cell? ⟨0, 40, none⟩ = some (.int .i64 2) := ht.2 40 _ rfl
  have g6 : w.cell? ⟨0, 41, none⟩ = some (.int .i64 2) := ht.2 41 _ rfl
  have hg := ht.1
  have HB2 := Lib.hid (HB.out.alloc (by simp) (.cells #[.string ⟨#[107, 105, 110, 100]⟩, .bool false, .bool true, .bool false, .bool false, .int .i64 2, .int .i64 2] 63))
  have HX2 := Lib.hid (HX.out.below ((Below.refl _ _).alloc (Nat.le_refl _) (.cells #[.string ⟨#[107, 105, 110, 100]⟩, .bool false, .bool true, .bool false, .bool false, .int .i64 2, .int .i64 2] 63)))
  have HY2 := Lib.hid (Bx.new (w.alloc (.cells #[.int .i64 5, .string wd, .string tx, .string af, .slice A n c] 33)) #[.string ⟨#[107, 105, 110, 100]⟩, .bool false, .bool true, .bool false, .bool false, .int .i64 2, .int .i64 2] 63)
  have HF := Lib.hid (fun w1 (h : Below w.heap.size w w1) => fitsWord_k ⟨#[107, 105, 110, 100]⟩ false false 2 2 wd w1 (hk.below h))
  clear ht hk
  generalize shB 5 wd tx af n = z at *
  generalize em wd = ew at *
  generalize em tx = et at *
  generalize em af = ea at *
  generalize decide (0 < (kd wd : Int)) = r at *
  go_enter Tryd.func51, Tryd.ntmps51
  go_wp2_with fail
  generalize (w.alloc _).alloc _ = w0 at HB2 HX2 HY2 ⊢
  refine (HF.out _ HB2.out).mono ?_
  rintro e w1 ⟨rfl, b1⟩
  have hx1 := HX2.out.below b1
  have hy1 := HY2.out.below b1
  have c0 := hx1.2 0 _ rfl
  have c2 := hx1.2 2 _ rfl
  have c3 := hx1.2 3 _ rfl
  have c4 := hx1.2 4 _ rfl
  have d3 := hy1.2 3 _ rfl
  have d4 := hy1.2 4 _ rfl
  have d5 := hy1.2 5 _ rfl
  have d6 := hy1.2 6 _ rfl
  have B1 := Lib.hid (HB2.out.trans (b1.mono HB2.out.size))
  simp only [World.size_alloc] at *
  clear b1 HX2 HY2 HB2 HX HB HF hx1 hy1
  go_wp2_with (fail)
  all_goals
    go_ret
    exact ⟨ret_bool (by rw [HS.out]; first | (simp [*]; done) | (rw [Bool.eq_iff_iff]; simp [*] <;> omega) | (have := HEt.out; have := HEa.out; simp_all; done) | (have := HEt.out; have := HEa.out; rw [Bool.eq_iff_iff]; simp_all <;> omega)), B1.out⟩
set_option maxRecDepth 100000 in
set_option maxHeartbeats 4000000 in
theorem fits_6 (wd tx af : ByteArray) (A : Option Addr) (n c : Nat) (w : World) (hn : n ≤ 1048576) (ht : FormTab w) :
    Calls Tryd.prog 51 #[ndV 6 wd tx af A n c] w fun e w' => e = .returned (.bool (shB 6 wd tx af n)) ∧ Below w.heap.size w w' := by
  have HB := Lib.hid ((Below.refl _ w).alloc (Nat.le_refl _) (.cells #[.int .i64 6, .string wd, .string tx, .string af, .slice A n c] 33))
  have HX := Lib.hid (Bx.new w #[.int .i64 6, .string wd, .string tx, .string af, .slice A n c] 33)
  obtain ⟨w1, w2⟩ := em_forms wd
  obtain ⟨t1, t2⟩ := em_forms tx
  obtain ⟨a1, a2⟩ := em_forms af
  have HEt := Lib.hid (em_pc tx)
  have HEa := Lib.hid (em_pc af)
  have HS : Hid (shB 6 wd tx af n = (em wd && em tx && em af && decide (1 ≤ (n : Int) ∧ (n : Int) ≤ 6))) := Lib.hid rfl
  have g0 : w.cell? ⟨0, 42, none⟩ = some (.string ⟨#[102, 105, 114, 115, 116]⟩) := ht.2 42 _ rfl
  have g1 : w.cell? ⟨0, 43, none⟩ = some (.bool false) := ht.2 43 _ rfl
  have g2 : w.cell? ⟨0, 44, none⟩ = some (.bool false) := ht.2 44 _ rfl
  have g3 : w.cell? ⟨0, 45, none⟩ = some (.bool false) := ht.2 45 _ rfl
  have g4 : w.cell? ⟨0, 46, none⟩ = some (.bool false) := ht.2 46 _ rfl
  have g5 : w.cell? ⟨0, 47, none⟩ = some (.int .i64 1) := ht.2 47 _ rfl
  have g6 : w.cell? ⟨0, 48, none⟩ = some (.int .i64 6) := ht.2 48 _ rfl
  have hg := ht.1
  have HB2 := Lib.hid (HB.out.alloc (by simp) (.cells #[.string ⟨#[102, 105, 114, 115, 116]⟩, .bool false, .bool false, .bool false, .bool false, .int .i64 1, .int .i64 6] 63))
  have HX2 := Lib.hid (HX.out.below ((Below.refl _ _).alloc (Nat.le_refl _) (.cells #[.string ⟨#[102, 105, 114, 115, 116]⟩, .bool false, .bool false, .bool false, .bool false, .int .i64 1, .int .i64 6] 63)))
  have HY2 := Lib.hid (Bx.new (w.alloc (.cells #[.int .i64 6, .string wd, .string tx, .string af, .slice A n c] 33)) #[.string ⟨#[102, 105, 114, 115, 116]⟩, .bool false, .bool false, .bool false, .bool false, .int .i64 1, .int .i64 6] 63)
  have HF := Lib.hid (fun w => fitsWord_n ⟨#[102, 105, 114, 115, 116]⟩ false false 1 6 wd w)
  clear ht
  generalize shB 6 wd tx af n = z at *
  generalize em wd = ew at *
  generalize em tx = et at *
  generalize em af = ea at *
  go_enter Tryd.func51, Tryd.ntmps51
  go_wp2_with fail
  generalize (w.alloc _).alloc _ = w0 at HB2 HX2 HY2 ⊢
  refine (HF.out _).mono ?_
  rintro e w1 ⟨rfl, b1⟩
  have hx1 := HX2.out.below b1
  have hy1 := HY2.out.below b1
  have c0 := hx1.2 0 _ rfl
  have c2 := hx1.2 2 _ rfl
  have c3 := hx1.2 3 _ rfl
  have c4 := hx1.2 4 _ rfl
  have d3 := hy1.2 3 _ rfl
  have d4 := hy1.2 4 _ rfl
  have d5 := hy1.2 5 _ rfl
  have d6 := hy1.2 6 _ rfl
  have B1 := Lib.hid (HB2.out.trans (b1.mono HB2.out.size))
  simp only [World.size_alloc] at *
  clear b1 HX2 HY2 HB2 HX HB HF hx1 hy1
  go_wp2_with (fail)
  all_goals
    go_ret
    exact ⟨ret_bool (by rw [HS.out]; first | (simp [*]; done) | (rw [Bool.eq_iff_iff]; simp [*] <;> omega) | (have := HEt.out; have := HEa.out; simp_all; done) | (have := HEt.out; have := HEa.out; rw [Bool.eq_iff_iff]; simp_all <;> omega)), B1.out⟩
set_option maxRecDepth 100000 in
set_option maxHeartbeats 4000000 in
theorem fits_7 (wd tx af : ByteArray) (A : Option Addr) (n c : Nat) (w : World) (hn : n ≤ 1048576) (ht : FormTab w) :
    Calls Tryd.prog 51 #[ndV 7 wd tx af A n c] w fun e w' => e = .returned (.bool (shB 7 wd tx af n)) ∧ Below w.heap.size w w' := by
  have HB := Lib.hid ((Below.refl _ w).alloc (Nat.le_refl _) (.cells #[.int .i64 7, .string wd, .string tx, .string af, .slice A n c] 33))
  have HX := Lib.hid (Bx.new w #[.int .i64 7, .string wd, .string tx, .string af, .slice A n c] 33)
  obtain ⟨w1, w2⟩ := em_forms wd
  obtain ⟨t1, t2⟩ := em_forms tx
  obtain ⟨a1, a2⟩ := em_forms af
  have HEt := Lib.hid (em_pc tx)
  have HEa := Lib.hid (em_pc af)
  have HS : Hid (shB 7 wd tx af n = (em wd && pcB tx && pcB af && ((n : Int) == 1))) := Lib.hid rfl
  have g0 : w.cell? ⟨0, 49, none⟩ = some (.string ⟨#[97, 102, 102, 105, 120]⟩) := ht.2 49 _ rfl
  have g1 : w.cell? ⟨0, 50, none⟩ = some (.bool false) := ht.2 50 _ rfl
  have g2 : w.cell? ⟨0, 51, none⟩ = some (.bool false) := ht.2 51 _ rfl
  have g3 : w.cell? ⟨0, 52, none⟩ = some (.bool true) := ht.2 52 _ rfl
  have g4 : w.cell? ⟨0, 53, none⟩ = some (.bool true) := ht.2 53 _ rfl
  have g5 : w.cell? ⟨0, 54, none⟩ = some (.int .i64 1) := ht.2 54 _ rfl
  have g6 : w.cell? ⟨0, 55, none⟩ = some (.int .i64 1) := ht.2 55 _ rfl
  have hg := ht.1
  have HB2 := Lib.hid (HB.out.alloc (by simp) (.cells #[.string ⟨#[97, 102, 102, 105, 120]⟩, .bool false, .bool false, .bool true, .bool true, .int .i64 1, .int .i64 1] 63))
  have HX2 := Lib.hid (HX.out.below ((Below.refl _ _).alloc (Nat.le_refl _) (.cells #[.string ⟨#[97, 102, 102, 105, 120]⟩, .bool false, .bool false, .bool true, .bool true, .int .i64 1, .int .i64 1] 63)))
  have HY2 := Lib.hid (Bx.new (w.alloc (.cells #[.int .i64 7, .string wd, .string tx, .string af, .slice A n c] 33)) #[.string ⟨#[97, 102, 102, 105, 120]⟩, .bool false, .bool false, .bool true, .bool true, .int .i64 1, .int .i64 1] 63)
  have HF := Lib.hid (fun w => fitsWord_n ⟨#[97, 102, 102, 105, 120]⟩ true true 1 1 wd w)
  have HPt := Lib.hid (fun w => piece_i tx (pcB tx) w rfl)
  have HPa := Lib.hid (fun w => piece_i af (pcB af) w rfl)
  clear ht
  generalize shB 7 wd tx af n = z at *
  generalize em wd = ew at *
  generalize em tx = et at *
  generalize em af = ea at *
  generalize pcB tx = pt at *
  generalize pcB af = pa at *
  go_enter Tryd.func51, Tryd.ntmps51
  go_wp2_with fail
  generalize (w.alloc _).alloc _ = w0 at HB2 HX2 HY2 ⊢
  refine (HF.out _).mono ?_
  rintro e w1 ⟨rfl, b1⟩
  have hx1 := HX2.out.below b1
  have hy1 := HY2.out.below b1
  have c0 := hx1.2 0 _ rfl
  have c2 := hx1.2 2 _ rfl
  have c3 := hx1.2 3 _ rfl
  have c4 := hx1.2 4 _ rfl
  have d3 := hy1.2 3 _ rfl
  have d4 := hy1.2 4 _ rfl
  have d5 := hy1.2 5 _ rfl
  have d6 := hy1.2 6 _ rfl
  have B1 := Lib.hid (HB2.out.trans (b1.mono HB2.out.size))
  simp only [World.size_alloc] at *
  clear b1 HX2 HY2 HB2 HX HB HF hx1 hy1
  go_wp2_with (first | (go_at_call 62; with_reducible refine (HPt.out _).mono ?_; rintro e w1 ⟨rfl, rfl⟩) | (go_at_call 62; with_reducible refine (HPa.out _).mono ?_; rintro e w1 ⟨rfl, rfl⟩))
  all_goals
    go_ret
    exact ⟨ret_bool (by rw [HS.out]; first | (simp [*]; done) | (rw [Bool.eq_iff_iff]; simp [*] <;> omega) | (have := HEt.out; have := HEa.out; simp_all; done) | (have := HEt.out; have := HEa.out; rw [Bool.eq_iff_iff]; simp_all <;> omega)), B1.out⟩
set_option maxRecDepth 100000 in
set_option maxHeartbeats 4000000 in
theorem fits_8 (wd tx af : ByteArray) (A : Option Addr) (n c : Nat) (w : World) (hn : n ≤ 1048576) (ht : FormTab w) :
    Calls Tryd.prog 51 #[ndV 8 wd tx af A n c] w fun e w' => e = .returned (.bool (shB 8 wd tx af n)) ∧ Below w.heap.size w w' := by
  have HB := Lib.hid ((Below.refl _ w).alloc (Nat.le_refl _) (.cells #[.int .i64 8, .string wd, .string tx, .string af, .slice A n c] 33))
  have HX := Lib.hid (Bx.new w #[.int .i64 8, .string wd, .string tx, .string af, .slice A n c] 33)
  obtain ⟨w1, w2⟩ := em_forms wd
  obtain ⟨t1, t2⟩ := em_forms tx
  obtain ⟨a1, a2⟩ := em_forms af
  have HEt := Lib.hid (em_pc tx)
  have HEa := Lib.hid (em_pc af)
  have HS : Hid (shB 8 wd tx af n = (em wd && em tx && em af && ((n : Int) == 1))) := Lib.hid rfl
  have g0 : w.cell? ⟨0, 56, none⟩ = some (.string ⟨#[105, 116, 97, 108, 105, 99]⟩) := ht.2 56 _ rfl
  have g1 : w.cell? ⟨0, 57, none⟩ = some (.bool false) := ht.2 57 _ rfl
  have g2 : w.cell? ⟨0, 58, none⟩ = some (.bool false) := ht.2 58 _ rfl
  have g3 : w.cell? ⟨0, 59, none⟩ = some (.bool false) := ht.2 59 _ rfl
  have g4 : w.cell? ⟨0, 60, none⟩ = some (.bool false) := ht.2 60 _ rfl
  have g5 : w.cell? ⟨0, 61, none⟩ = some (.int .i64 1) := ht.2 61 _ rfl
  have g6 : w.cell? ⟨0, 62, none⟩ = some (.int .i64 1) := ht.2 62 _ rfl
  have hg := ht.1
  have HB2 := Lib.hid (HB.out.alloc (by simp) (.cells #[.string ⟨#[105, 116, 97, 108, 105, 99]⟩, .bool false, .bool false, .bool false, .bool false, .int .i64 1, .int .i64 1] 63))
  have HX2 := Lib.hid (HX.out.below ((Below.refl _ _).alloc (Nat.le_refl _) (.cells #[.string ⟨#[105, 116, 97, 108, 105, 99]⟩, .bool false, .bool false, .bool false, .bool false, .int .i64 1, .int .i64 1] 63)))
  have HY2 := Lib.hid (Bx.new (w.alloc (.cells #[.int .i64 8, .string wd, .string tx, .string af, .slice A n c] 33)) #[.string ⟨#[105, 116, 97, 108, 105, 99]⟩, .bool false, .bool false, .bool false, .bool false, .int .i64 1, .int .i64 1] 63)
  have HF := Lib.hid (fun w => fitsWord_n ⟨#[105, 116, 97, 108, 105, 99]⟩ false false 1 1 wd w)
  clear ht
  generalize shB 8 wd tx af n = z at *
  generalize em wd = ew at *
  generalize em tx = et at *
  generalize em af = ea at *
  go_enter Tryd.func51, Tryd.ntmps51
  go_wp2_with fail
  generalize (w.alloc _).alloc _ = w0 at HB2 HX2 HY2 ⊢
  refine (HF.out _).mono ?_
  rintro e w1 ⟨rfl, b1⟩
  have hx1 := HX2.out.below b1
  have hy1 := HY2.out.below b1
  have c0 := hx1.2 0 _ rfl
  have c2 := hx1.2 2 _ rfl
  have c3 := hx1.2 3 _ rfl
  have c4 := hx1.2 4 _ rfl
  have d3 := hy1.2 3 _ rfl
  have d4 := hy1.2 4 _ rfl
  have d5 := hy1.2 5 _ rfl
  have d6 := hy1.2 6 _ rfl
  have B1 := Lib.hid (HB2.out.trans (b1.mono HB2.out.size))
  simp only [World.size_alloc] at *
  clear b1 HX2 HY2 HB2 HX HB HF hx1 hy1
  go_wp2_with (fail)
  all_goals
    go_ret
    exact ⟨ret_bool (by rw [HS.out]; first | (simp [*]; done) | (rw [Bool.eq_iff_iff]; simp [*] <;> omega) | (have := HEt.out; have := HEa.out; simp_all; done) | (have := HEt.out; have := HEa.out; rw [Bool.eq_iff_iff]; simp_all <;> omega)), B1.out⟩
set_option maxRecDepth 100000 in
set_option maxHeartbeats 4000000 in
theorem fits_9 (wd tx af : ByteArray) (A : Option Addr) (n c : Nat) (w : World) (hn : n ≤ 1048576) (ht : FormTab w) :
    Calls Tryd.prog 51 #[ndV 9 wd tx af A n c] w fun e w' => e = .returned (.bool (shB 9 wd tx af n)) ∧ Below w.heap.size w w' := by
  have HB := Lib.hid ((Below.refl _ w).alloc (Nat.le_refl _) (.cells #[.int .i64 9, .string wd, .string tx, .string af, .slice A n c] 33))
  have HX := Lib.hid (Bx.new w #[.int .i64 9, .string wd, .string tx, .string af, .slice A n c] 33)
  obtain ⟨w1, w2⟩ := em_forms wd
  obtain ⟨t1, t2⟩ := em_forms tx
  obtain ⟨a1, a2⟩ := em_forms af
  have HEt := Lib.hid (em_pc tx)
  have HEa := Lib.hid (em_pc af)
  have HS : Hid (shB 9 wd tx af n = (em wd && em tx && em af && ((n : Int) == 1))) := Lib.hid rfl
  have g0 : w.cell? ⟨0, 63, none⟩ = some (.string ⟨#[98, 111, 108, 100]⟩) := ht.2 63 _ rfl
  have g1 : w.cell? ⟨0, 64, none⟩ = some (.bool false) := ht.2 64 _ rfl
  have g2 : w.cell? ⟨0, 65, none⟩ = some (.bool false) := ht.2 65 _ rfl
  have g3 : w.cell? ⟨0, 66, none⟩ = some (.bool false) := ht.2 66 _ rfl
  have g4 : w.cell? ⟨0, 67, none⟩ = some (.bool false) := ht.2 67 _ rfl
  have g5 : w.cell? ⟨0, 68, none⟩ = some (.int .i64 1) := ht.2 68 _ rfl
  have g6 : w.cell? ⟨0, 69, none⟩ = some (.int .i64 1) := ht.2 69 _ rfl
  have hg := ht.1
  have HB2 := Lib.hid (HB.out.alloc (by simp) (.cells #[.string ⟨#[98, 111, 108, 100]⟩, .bool false, .bool false, .bool false, .bool false, .int .i64 1, .int .i64 1] 63))
  have HX2 := Lib.hid (HX.out.below ((Below.refl _ _).alloc (Nat.le_refl _) (.cells #[.string ⟨#[98, 111, 108, 100]⟩, .bool false, .bool false, .bool false, .bool false, .int .i64 1, .int .i64 1] 63)))
  have HY2 := Lib.hid (Bx.new (w.alloc (.cells #[.int .i64 9, .string wd, .string tx, .string af, .slice A n c] 33)) #[.string ⟨#[98, 111, 108, 100]⟩, .bool false, .bool false, .bool false, .bool false, .int .i64 1, .int .i64 1] 63)
  have HF := Lib.hid (fun w => fitsWord_n ⟨#[98, 111, 108, 100]⟩ false false 1 1 wd w)
  clear ht
  generalize shB 9 wd tx af n = z at *
  generalize em wd = ew at *
  generalize em tx = et at *
  generalize em af = ea at *
  go_enter Tryd.func51, Tryd.ntmps51
  go_wp2_with fail
  generalize (w.alloc _).alloc _ = w0 at HB2 HX2 HY2 ⊢
  refine (HF.out _).mono ?_
  rintro e w1 ⟨rfl, b1⟩
  have hx1 := HX2.out.below b1
  have hy1 := HY2.out.below b1
  have c0 := hx1.2 0 _ rfl
  have c2 := hx1.2 2 _ rfl
  have c3 := hx1.2 3 _ rfl
  have c4 := hx1.2 4 _ rfl
  have d3 := hy1.2 3 _ rfl
  have d4 := hy1.2 4 _ rfl
  have d5 := hy1.2 5 _ rfl
  have d6 := hy1.2 6 _ rfl
  have B1 := Lib.hid (HB2.out.trans (b1.mono HB2.out.size))
  simp only [World.size_alloc] at *
  clear b1 HX2 HY2 HB2 HX HB HF hx1 hy1
  go_wp2_with (fail)
  all_goals
    go_ret
    exact ⟨ret_bool (by rw [HS.out]; first | (simp [*]; done) | (rw [Bool.eq_iff_iff]; simp [*] <;> omega) | (have := HEt.out; have := HEa.out; simp_all; done) | (have := HEt.out; have := HEa.out; rw [Bool.eq_iff_iff]; simp_all <;> omega)), B1.out⟩
set_option maxRecDepth 100000 in
set_option maxHeartbeats 4000000 in
theorem fits_0 (op : Int) (wd tx af : ByteArray) (A : Option Addr) (n c : Nat) (w : World) (hn : n ≤ 1048576) (ho : op < 1 ∨ 9 < op) :
    Calls Tryd.prog 51 #[ndV op wd tx af A n c] w fun e w' => e = .returned (.bool (shB op wd tx af n)) ∧ Below w.heap.size w w' := by
  have HB := Lib.hid ((Below.refl _ w).alloc (Nat.le_refl _) (.cells #[.int .i64 op, .string wd, .string tx, .string af, .slice A n c] 33))
  have HS : Hid (shB op wd tx af n = false) := Lib.hid (by
    unfold shB
    rw [if_neg (show ¬ op = 1 by omega)]
    rw [if_neg (show ¬ op = 2 by omega)]
    rw [if_neg (show ¬ op = 3 by omega)]
    rw [if_neg (show ¬ op = 4 by omega)]
    rw [if_neg (show ¬ op = 5 by omega)]
    rw [if_neg (show ¬ op = 6 by omega)]
    rw [if_neg (show ¬ op = 7 by omega)]
    rw [if_neg (show ¬ op = 8 by omega)]
    rw [if_neg (show ¬ op = 9 by omega)])
  by_cases h1 : op < 1
  · have e1 : decide (op < 1) = true := decide_eq_true h1
    clear ho
    go_enter Tryd.func51, Tryd.ntmps51
    go_wp2_with fail
    go_ret
    exact ⟨ret_bool HS.out.symm, HB.out⟩
  · have e1 : decide (op < 1) = false := decide_eq_false h1
    have e2 : decide (9 < op) = true := decide_eq_true (by omega)
    clear ho
    go_enter Tryd.func51, Tryd.ntmps51
    go_wp2_with fail
    go_ret
    exact ⟨ret_bool HS.out.symm, HB.out⟩
theorem fits_i (op : Int) (wd tx af : ByteArray) (A : Option Addr) (n c : Nat) (w : World) (hn : n ≤ 1048576) (ht : FormTab w) (hk : StrTab 1 kdw w) :
    Calls Tryd.prog 51 #[ndV op wd tx af A n c] w fun e w' => e = .returned (.bool (shB op wd tx af n)) ∧ Below w.heap.size w w' := by
  by_cases h0 : op < 1 ∨ 9 < op
  · exact fits_0 op wd tx af A n c w hn h0
  · rcases (show op = 1 ∨ op = 2 ∨ op = 3 ∨ op = 4 ∨ op = 5 ∨ op = 6 ∨ op = 7 ∨ op = 8 ∨ op = 9 by omega) with rfl | rfl | rfl | rfl | rfl | rfl | rfl | rfl | rfl
    · exact fits_1 wd tx af A n c w hn ht
    · exact fits_2 wd tx af A n c w hn ht
    · exact fits_3 wd tx af A n c w hn ht
    · exact fits_4 wd tx af A n c w hn ht
    · exact fits_5 wd tx af A n c w hn ht hk
    · exact fits_6 wd tx af A n c w hn ht
    · exact fits_7 wd tx af A n c w hn ht
    · exact fits_8 wd tx af A n c w hn ht
    · exact fits_9 wd tx af A n c w hn ht
end Go.Proofs.YtbibjcmfgpmddaaDoor.Ns
