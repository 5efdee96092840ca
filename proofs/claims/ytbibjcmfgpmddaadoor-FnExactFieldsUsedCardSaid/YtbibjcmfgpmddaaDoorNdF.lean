/-
  The shape of a node: contracts of l9Shape; fitsWord, fitsForm.
-/
import Derived.Test.YtbibjcmfgpmddaaDoorNdS3
import Derived.Test.YtbibjcmfgpmddaaDoorL1In
namespace Go.Proofs.YtbibjcmfgpmddaaDoor.Ns
open Go.RowKit NdPl Pl NmPl LaidS
open Dt (l1In_any)
set_option linter.unusedSimpArgs false
set_option linter.unusedVariables false

/-- empty -/
def em (s : ByteArray) : Bool := decide (s.size = 0)
/-- what a node is apart from its parts; n: how many parts -/
def shB (op : Int) (wd tx af : ByteArray) (n : Nat) : Bool :=
  if op = 1 then isSF wd && em tx && em af && ((n : Int) == 0)
  else if op = 2 then em wd && !(em tx) && pcB tx && em af && ((n : Int) == 0)
  else if op = 3 then em wd && pcB tx && em af && decide (1 ≤ (n : Int) ∧ (n : Int) ≤ 6)
  else if op = 4 then isSF wd && em tx && em af && ((n : Int) == 2)
  else if op = 5 then decide (0 < (kd wd : Int)) && em tx && em af && ((n : Int) == 2)
  else if op = 6 then em wd && em tx && em af && decide (1 ≤ (n : Int) ∧ (n : Int) ≤ 6)
  else if op = 7 then em wd && pcB tx && pcB af && ((n : Int) == 1)
  else if op = 8 then em wd && em tx && em af && ((n : Int) == 1)
  else if op = 9 then em wd && em tx && em af && ((n : Int) == 1)
  else false
theorem em_forms (s : ByteArray) : (s.toList == []) = em s ∧ s.toList.isEmpty = em s := by
  unfold em
  by_cases h : 0 < s.size
  · have := Kt.ne_str h
    rw [decide_eq_false (by omega)]
    exact this
  · obtain rfl := Kt.nil_str h
    rw [Lib.toList_data]
    exact ⟨rfl, rfl⟩
theorem em_pc (s : ByteArray) (h : em s = true) : pcB s = true := by
  obtain rfl := Kt.nil_str (s := s) (by have := of_decide_eq_true (show decide (s.size = 0) = true from h); omega)
  rfl
/-- block b begins with these cells -/
def Bx (W : World) (b : Nat) (vs : List Value) : Prop := b < W.heap.size ∧ ∀ i v, vs[i]? = some v → W.cell? ⟨b, i, none⟩ = some v
theorem Bx.below {W w' : World} {b : Nat} {vs : List Value} (h : Bx W b vs) (hb : Below W.heap.size W w') : Bx w' b vs :=
  ⟨Nat.lt_of_lt_of_le h.1 hb.size, fun i v hv => (hb.cell (p := ⟨b, i, none⟩) h.1).trans (h.2 i v hv)⟩
theorem Bx.new (w : World) (cs : Array Value) (t : TypeId) : Bx (w.alloc (.cells cs t)) w.heap.size cs.toList :=
  ⟨by simp, fun i v hv => by
    have h1 : cs[i]? = some v := by rw [← Array.getElem?_toList]; exact hv
    simp [h1]⟩
set_option maxRecDepth 100000 in
set_option maxHeartbeats 4000000 in
theorem shape_1 (wd tx af : ByteArray) (A : Option Addr) (n c : Nat) (w : World) (hn : n ≤ 1048576) (hx : tx.size ≤ 1048576) (hy : af.size ≤ 1048576) :
    Calls Tryd.prog 35 #[ndV 1 wd tx af A n c] w fun e w' => e = .returned (.bool (shB 1 wd tx af n)) ∧ Below w.heap.size w w' := by
  have HB := Lib.hid ((Below.refl _ w).alloc (Nat.le_refl _) (.cells #[.int .i64 1, .string wd, .string tx, .string af, .slice A n c] 33))
  have HX := Lib.hid (Bx.new w #[.int .i64 1, .string wd, .string tx, .string af, .slice A n c] 33)
  obtain ⟨w1, w2⟩ := em_forms wd
  obtain ⟨t1, t2⟩ := em_forms tx
  obtain ⟨a1, a2⟩ := em_forms af
  have HEt := Lib.hid (em_pc tx)
  have HEa := Lib.hid (em_pc af)
  have HS : Hid (shB 1 wd tx af n = (isSF wd && em tx && em af && ((n : Int) == 0))) := Lib.hid rfl
  have HF := Lib.hid (fun w => sfield_s wd (isSF wd) w rfl)
  generalize shB 1 wd tx af n = z at *
  generalize em wd = ew at *
  generalize em tx = et at *
  generalize em af = ea at *
  generalize isSF wd = r at *
  go_enter Tryd.func35, Tryd.ntmps35
  go_wp2_with fail
  generalize w.alloc _ = w0 at HB HX ⊢
  refine (HF.out _).mono ?_
  rintro e w1 ⟨rfl, b1⟩
  have hx1 := HX.out.below b1
  have c2 := hx1.2 2 _ rfl
  have c3 := hx1.2 3 _ rfl
  have c4 := hx1.2 4 _ rfl
  have B1 := Lib.hid (HB.out.trans (b1.mono HB.out.size))
  clear b1 HX HB HF hx1
  go_wp2_with fail
  all_goals
    go_ret
    exact ⟨ret_bool (by rw [HS.out]; simp [*]), B1.out⟩
set_option maxRecDepth 100000 in
set_option maxHeartbeats 4000000 in
theorem shape_2 (wd tx af : ByteArray) (A : Option Addr) (n c : Nat) (w : World) (hn : n ≤ 1048576) (hx : tx.size ≤ 1048576) (hy : af.size ≤ 1048576) :
    Calls Tryd.prog 35 #[ndV 2 wd tx af A n c] w fun e w' => e = .returned (.bool (shB 2 wd tx af n)) ∧ Below w.heap.size w w' := by
  have HB := Lib.hid ((Below.refl _ w).alloc (Nat.le_refl _) (.cells #[.int .i64 2, .string wd, .string tx, .string af, .slice A n c] 33))
  have HX := Lib.hid (Bx.new w #[.int .i64 2, .string wd, .string tx, .string af, .slice A n c] 33)
  obtain ⟨w1, w2⟩ := em_forms wd
  obtain ⟨t1, t2⟩ := em_forms tx
  obtain ⟨a1, a2⟩ := em_forms af
  have HEt := Lib.hid (em_pc tx)
  have HEa := Lib.hid (em_pc af)
  have HS : Hid (shB 2 wd tx af n = (em wd && !(em tx) && pcB tx && em af && ((n : Int) == 0))) := Lib.hid rfl
  have HPt := Lib.hid (fun w => piece_s tx (pcB tx) w hx rfl)
  generalize shB 2 wd tx af n = z at *
  generalize em wd = ew at *
  generalize em tx = et at *
  generalize em af = ea at *
  generalize pcB tx = pt at *
  go_enter Tryd.func35, Tryd.ntmps35
  go_wp2_with (first | (go_at_call 49; with_reducible refine (HPt.out _).mono ?_; rintro e w1 ⟨rfl, rfl⟩))
  all_goals
    go_ret
    exact ⟨ret_bool (by rw [HS.out]; simp [*]), HB.out⟩
set_option maxRecDepth 100000 in
set_option maxHeartbeats 4000000 in
theorem shape_3 (wd tx af : ByteArray) (A : Option Addr) (n c : Nat) (w : World) (hn : n ≤ 1048576) (hx : tx.size ≤ 1048576) (hy : af.size ≤ 1048576) :
    Calls Tryd.prog 35 #[ndV 3 wd tx af A n c] w fun e w' => e = .returned (.bool (shB 3 wd tx af n)) ∧ Below w.heap.size w w' := by
  have HB := Lib.hid ((Below.refl _ w).alloc (Nat.le_refl _) (.cells #[.int .i64 3, .string wd, .string tx, .string af, .slice A n c] 33))
  have HX := Lib.hid (Bx.new w #[.int .i64 3, .string wd, .string tx, .string af, .slice A n c] 33)
  obtain ⟨w1, w2⟩ := em_forms wd
  obtain ⟨t1, t2⟩ := em_forms tx
  obtain ⟨a1, a2⟩ := em_forms af
  have HEt := Lib.hid (em_pc tx)
  have HEa := Lib.hid (em_pc af)
  have HS : Hid (shB 3 wd tx af n = (em wd && pcB tx && em af && decide (1 ≤ (n : Int) ∧ (n : Int) ≤ 6))) := Lib.hid rfl
  have HPt := Lib.hid (fun w => piece_s tx (pcB tx) w hx rfl)
  have HI := Lib.hid (fun w => l1In_any (n : Int) 1 6 (decide (1 ≤ (n : Int) ∧ (n : Int) ≤ 6)) w rfl)
  generalize shB 3 wd tx af n = z at *
  generalize em wd = ew at *
  generalize em tx = et at *
  generalize em af = ea at *
  generalize pcB tx = pt at *
  generalize decide (1 ≤ (n : Int) ∧ (n : Int) ≤ 6) = q at *
  go_enter Tryd.func35, Tryd.ntmps35
  go_wp2_with (first | (go_at_call 49; with_reducible refine (HPt.out _).mono ?_; rintro e w1 ⟨rfl, rfl⟩) | (go_at_call 25; with_reducible refine (HI.out _).mono ?_; rintro e w1 ⟨rfl, rfl⟩))
  all_goals
    go_ret
    exact ⟨ret_bool (by rw [HS.out]; simp [*]), HB.out⟩
set_option maxRecDepth 100000 in
set_option maxHeartbeats 4000000 in
theorem shape_4 (wd tx af : ByteArray) (A : Option Addr) (n c : Nat) (w : World) (hn : n ≤ 1048576) (hx : tx.size ≤ 1048576) (hy : af.size ≤ 1048576) :
    Calls Tryd.prog 35 #[ndV 4 wd tx af A n c] w fun e w' => e = .returned (.bool (shB 4 wd tx af n)) ∧ Below w.heap.size w w' := by
  have HB := Lib.hid ((Below.refl _ w).alloc (Nat.le_refl _) (.cells #[.int .i64 4, .string wd, .string tx, .string af, .slice A n c] 33))
  have HX := Lib.hid (Bx.new w #[.int .i64 4, .string wd, .string tx, .string af, .slice A n c] 33)
  obtain ⟨w1, w2⟩ := em_forms wd
  obtain ⟨t1, t2⟩ := em_forms tx
  obtain ⟨a1, a2⟩ := em_forms af
  have HEt := Lib.hid (em_pc tx)
  have HEa := Lib.hid (em_pc af)
  have HS : Hid (shB 4 wd tx af n = (isSF wd && em tx && em af && ((n : Int) == 2))) := Lib.hid rfl
  have HF := Lib.hid (fun w => sfield_s wd (isSF wd) w rfl)
  generalize shB 4 wd tx af n = z at *
  generalize em wd = ew at *
  generalize em tx = et at *
  generalize em af = ea at *
  generalize isSF wd = r at *
  go_enter Tryd.func35, Tryd.ntmps35
  go_wp2_with fail
  generalize w.alloc _ = w0 at HB HX ⊢
  refine (HF.out _).mono ?_
  rintro e w1 ⟨rfl, b1⟩
  have hx1 := HX.out.below b1
  have c2 := hx1.2 2 _ rfl
  have c3 := hx1.2 3 _ rfl
  have c4 := hx1.2 4 _ rfl
  have B1 := Lib.hid (HB.out.trans (b1.mono HB.out.size))
  clear b1 HX HB HF hx1
  go_wp2_with fail
  all_goals
    go_ret
    exact ⟨ret_bool (by rw [HS.out]; simp [*]), B1.out⟩
set_option maxRecDepth 100000 in
set_option maxHeartbeats 4000000 in
theorem shape_5 (wd tx af : ByteArray) (A : Option Addr) (n c : Nat) (w : World) (hn : n ≤ 1048576) (hx : tx.size ≤ 1048576) (hy : af.size ≤ 1048576) :
    Calls Tryd.prog 35 #[ndV 5 wd tx af A n c] w fun e w' => e = .returned (.bool (shB 5 wd tx af n)) ∧ Below w.heap.size w w' := by
  have HB := Lib.hid ((Below.refl _ w).alloc (Nat.le_refl _) (.cells #[.int .i64 5, .string wd, .string tx, .string af, .slice A n c] 33))
  have HX := Lib.hid (Bx.new w #[.int .i64 5, .string wd, .string tx, .string af, .slice A n c] 33)
  obtain ⟨w1, w2⟩ := em_forms wd
  obtain ⟨t1, t2⟩ := em_forms tx
  obtain ⟨a1, a2⟩ := em_forms af
  have HEt := Lib.hid (em_pc tx)
  have HEa := Lib.hid (em_pc af)
  have HS : Hid (shB 5 wd tx af n = (decide (0 < (kd wd : Int)) && em tx && em af && ((n : Int) == 2))) := Lib.hid rfl
  have HF := Lib.hid (fun w => kind_s wd w)
  generalize shB 5 wd tx af n = z at *
  generalize em wd = ew at *
  generalize em tx = et at *
  generalize em af = ea at *
  obtain ⟨kq, hkq⟩ : ∃ kq, kd wd = kq := ⟨_, rfl⟩
  rw [hkq] at HF HS
  clear hkq
  go_enter Tryd.func35, Tryd.ntmps35
  go_wp2_with fail
  generalize w.alloc _ = w0 at HB HX ⊢
  refine (HF.out _).mono ?_
  rintro e w1 ⟨rfl, b1⟩
  have hx1 := HX.out.below b1
  have c2 := hx1.2 2 _ rfl
  have c3 := hx1.2 3 _ rfl
  have c4 := hx1.2 4 _ rfl
  have B1 := Lib.hid (HB.out.trans (b1.mono HB.out.size))
  clear b1 HX HB HF hx1
  go_wp2_with fail
  all_goals
    go_ret
    exact ⟨ret_bool (by rw [HS.out]; simp [*]), B1.out⟩
set_option maxRecDepth 100000 in
set_option maxHeartbeats 4000000 in
theorem shape_6 (wd tx af : ByteArray) (A : Option Addr) (n c : Nat) (w : World) (hn : n ≤ 1048576) (hx : tx.size ≤ 1048576) (hy : af.size ≤ 1048576) :
    Calls Tryd.prog 35 #[ndV 6 wd tx af A n c] w fun e w' => e = .returned (.bool (shB 6 wd tx af n)) ∧ Below w.heap.size w w' := by
  have HB := Lib.hid ((Below.refl _ w).alloc (Nat.le_refl _) (.cells #[.int .i64 6, .string wd, .string tx, .string af, .slice A n c] 33))
  have HX := Lib.hid (Bx.new w #[.int .i64 6, .string wd, .string tx, .string af, .slice A n c] 33)
  obtain ⟨w1, w2⟩ := em_forms wd
  obtain ⟨t1, t2⟩ := em_forms tx
  obtain ⟨a1, a2⟩ := em_forms af
  have HEt := Lib.hid (em_pc tx)
  have HEa := Lib.hid (em_pc af)
  have HS : Hid (shB 6 wd tx af n = (em wd && em tx && em af && decide (1 ≤ (n : Int) ∧ (n : Int) ≤ 6))) := Lib.hid rfl
  have HI := Lib.hid (fun w => l1In_any (n : Int) 1 6 (decide (1 ≤ (n : Int) ∧ (n : Int) ≤ 6)) w rfl)
  generalize shB 6 wd tx af n = z at *
  generalize em wd = ew at *
  generalize em tx = et at *
  generalize em af = ea at *
  generalize decide (1 ≤ (n : Int) ∧ (n : Int) ≤ 6) = q at *
  go_enter Tryd.func35, Tryd.ntmps35
  go_wp2_with (first | (go_at_call 25; with_reducible refine (HI.out _).mono ?_; rintro e w1 ⟨rfl, rfl⟩))
  all_goals
    go_ret
    exact ⟨ret_bool (by rw [HS.out]; simp [*]), HB.out⟩
set_option maxRecDepth 100000 in
set_option maxHeartbeats 4000000 in
theorem shape_7 (wd tx af : ByteArray) (A : Option Addr) (n c : Nat) (w : World) (hn : n ≤ 1048576) (hx : tx.size ≤ 1048576) (hy : af.size ≤ 1048576) :
    Calls Tryd.prog 35 #[ndV 7 wd tx af A n c] w fun e w' => e = .returned (.bool (shB 7 wd tx af n)) ∧ Below w.heap.size w w' := by
  have HB := Lib.hid ((Below.refl _ w).alloc (Nat.le_refl _) (.cells #[.int .i64 7, .string wd, .string tx, .string af, .slice A n c] 33))
  have HX := Lib.hid (Bx.new w #[.int .i64 7, .string wd, .string tx, .string af, .slice A n c] 33)
  obtain ⟨w1, w2⟩ := em_forms wd
  obtain ⟨t1, t2⟩ := em_forms tx
  obtain ⟨a1, a2⟩ := em_forms af
  have HEt := Lib.hid (em_pc tx)
  have HEa := Lib.hid (em_pc af)
  have HS : Hid (shB 7 wd tx af n = (em wd && pcB tx && pcB af && ((n : Int) == 1))) := Lib.hid rfl
  have HPt := Lib.hid (fun w => piece_s tx (pcB tx) w hx rfl)
  have HPa := Lib.hid (fun w => piece_s af (pcB af) w hy rfl)
  generalize shB 7 wd tx af n = z at *
  generalize em wd = ew at *
  generalize em tx = et at *
  generalize em af = ea at *
  generalize pcB tx = pt at *
  generalize pcB af = pa at *
  go_enter Tryd.func35, Tryd.ntmps35
  go_wp2_with (first | (go_at_call 49; with_reducible refine (HPt.out _).mono ?_; rintro e w1 ⟨rfl, rfl⟩) | (go_at_call 49; with_reducible refine (HPa.out _).mono ?_; rintro e w1 ⟨rfl, rfl⟩))
  all_goals
    go_ret
    exact ⟨ret_bool (by rw [HS.out]; simp [*]), HB.out⟩
set_option maxRecDepth 100000 in
set_option maxHeartbeats 4000000 in
theorem shape_8 (wd tx af : ByteArray) (A : Option Addr) (n c : Nat) (w : World) (hn : n ≤ 1048576) (hx : tx.size ≤ 1048576) (hy : af.size ≤ 1048576) :
    Calls Tryd.prog 35 #[ndV 8 wd tx af A n c] w fun e w' => e = .returned (.bool (shB 8 wd tx af n)) ∧ Below w.heap.size w w' := by
  have HB := Lib.hid ((Below.refl _ w).alloc (Nat.le_refl _) (.cells #[.int .i64 8, .string wd, .string tx, .string af, .slice A n c] 33))
  have HX := Lib.hid (Bx.new w #[.int .i64 8, .string wd, .string tx, .string af, .slice A n c] 33)
  obtain ⟨w1, w2⟩ := em_forms wd
  obtain ⟨t1, t2⟩ := em_forms tx
  obtain ⟨a1, a2⟩ := em_forms af
  have HEt := Lib.hid (em_pc tx)
  have HEa := Lib.hid (em_pc af)
  have HS : Hid (shB 8 wd tx af n = (em wd && em tx && em af && ((n : Int) == 1))) := Lib.hid rfl
  generalize shB 8 wd tx af n = z at *
  generalize em wd = ew at *
  generalize em tx = et at *
  generalize em af = ea at *
  go_enter Tryd.func35, Tryd.ntmps35
  go_wp2_with (fail)
  all_goals
    go_ret
    exact ⟨ret_bool (by rw [HS.out]; simp [*]), HB.out⟩
set_option maxRecDepth 100000 in
set_option maxHeartbeats 4000000 in
theorem shape_9 (wd tx af : ByteArray) (A : Option Addr) (n c : Nat) (w : World) (hn : n ≤ 1048576) (hx : tx.size ≤ 1048576) (hy : af.size ≤ 1048576) :
    Calls Tryd.prog 35 #[ndV 9 wd tx af A n c] w fun e w' => e = .returned (.bool (shB 9 wd tx af n)) ∧ Below w.heap.size w w' := by
  have HB := Lib.hid ((Below.refl _ w).alloc (Nat.le_refl _) (.cells #[.int .i64 9, .string wd, .string tx, .string af, .slice A n c] 33))
  have HX := Lib.hid (Bx.new w #[.int .i64 9, .string wd, .string tx, .string af, .slice A n c] 33)
  obtain ⟨w1, w2⟩ := em_forms wd
  obtain ⟨t1, t2⟩ := em_forms tx
  obtain ⟨a1, a2⟩ := em_forms af
  have HEt := Lib.hid (em_pc tx)
  have HEa := Lib.hid (em_pc af)
  have HS : Hid (shB 9 wd tx af n = (em wd && em tx && em af && ((n : Int) == 1))) := Lib.hid rfl
  generalize shB 9 wd tx af n = z at *
  generalize em wd = ew at *
  generalize em tx = et at *
  generalize em af = ea at *
  go_enter Tryd.func35, Tryd.ntmps35
  go_wp2_with (fail)
  all_goals
    go_ret
    exact ⟨ret_bool (by rw [HS.out]; simp [*]), HB.out⟩
set_option maxRecDepth 100000 in
set_option maxHeartbeats 4000000 in
theorem shape_0 (op : Int) (wd tx af : ByteArray) (A : Option Addr) (n c : Nat) (w : World) (hn : n ≤ 1048576) (ho : op < 1 ∨ 9 < op) :
    Calls Tryd.prog 35 #[ndV op wd tx af A n c] w fun e w' => e = .returned (.bool (shB op wd tx af n)) ∧ Below w.heap.size w w' := by
  have HB := Lib.hid ((Below.refl _ w).alloc (Nat.le_refl _) (.cells #[.int .i64 op, .string wd, .string tx, .string af, .slice A n c] 33))
  have HS : Hid (shB op wd tx af n = false) := Lib.hid (by
    unfold shB
    rw [if_neg (show ¬ op = 1 by omega)]
    rw [if_neg (show ¬ op = 2 by omega)]
    rw [if_neg (show ¬ op = 3 by omega)]
    rw [if_neg (show ¬ op = 4 by omega)]
    rw [if_neg (show ¬ op = 5 by omega)]
    rw [if_neg (show ¬ op = 6 by omega)]
    rw [if_neg (show ¬ op = 7 by omega)]
    rw [if_neg (show ¬ op = 8 by omega)]
    rw [if_neg (show ¬ op = 9 by omega)])
  have e1 : (op == 1) = false := by rw [beq_eq_false_iff_ne]; omega
  have e2 : (op == 2) = false := by rw [beq_eq_false_iff_ne]; omega
  have e3 : (op == 3) = false := by rw [beq_eq_false_iff_ne]; omega
  have e4 : (op == 4) = false := by rw [beq_eq_false_iff_ne]; omega
  have e5 : (op == 5) = false := by rw [beq_eq_false_iff_ne]; omega
  have e6 : (op == 6) = false := by rw [beq_eq_false_iff_ne]; omega
  have e7 : (op == 7) = false := by rw [beq_eq_false_iff_ne]; omega
  have e8 : (op == 8) = false := by rw [beq_eq_false_iff_ne]; omega
  have e9 : (op == 9) = false := by rw [beq_eq_false_iff_ne]; omega
  clear ho
  go_enter Tryd.func35, Tryd.ntmps35
  go_wp2_with fail
  go_ret
  exact ⟨ret_bool HS.out.symm, HB.out⟩
theorem shape_s (op : Int) (wd tx af : ByteArray) (A : Option Addr) (n c : Nat) (w : World) (hn : n ≤ 1048576) (hx : tx.size ≤ 1048576) (hy : af.size ≤ 1048576) :
    Calls Tryd.prog 35 #[ndV op wd tx af A n c] w fun e w' => e = .returned (.bool (shB op wd tx af n)) ∧ Below w.heap.size w w' := by
  by_cases h0 : op < 1 ∨ 9 < op
  · exact shape_0 op wd tx af A n c w hn h0
  · rcases (show op = 1 ∨ op = 2 ∨ op = 3 ∨ op = 4 ∨ op = 5 ∨ op = 6 ∨ op = 7 ∨ op = 8 ∨ op = 9 by omega) with rfl | rfl | rfl | rfl | rfl | rfl | rfl | rfl | rfl
    · exact shape_1 wd tx af A n c w hn hx hy
    · exact shape_2 wd tx af A n c w hn hx hy
    · exact shape_3 wd tx af A n c w hn hx hy
    · exact shape_4 wd tx af A n c w hn hx hy
    · exact shape_5 wd tx af A n c w hn hx hy
    · exact shape_6 wd tx af A n c w hn hx hy
    · exact shape_7 wd tx af A n c w hn hx hy
    · exact shape_8 wd tx af A n c w hn hx hy
    · exact shape_9 wd tx af A n c w hn hx hy
end Go.Proofs.YtbibjcmfgpmddaaDoor.Ns
