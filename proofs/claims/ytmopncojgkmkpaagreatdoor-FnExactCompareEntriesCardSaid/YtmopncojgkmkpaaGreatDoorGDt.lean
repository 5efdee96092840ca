/-
  Several texts of one claim in one file: Dt3, Dt4, DtBx, Dt7, Law2, Dt5, Dt6.
-/
import Derived.Test.YtmopncojgkmkpaaGreatDoorDt2
import Derived.Test.YtmopncojgkmkpaaGreatDoorDt1
import Derived.Test.YtmopncojgkmkpaaGreatDoorOpenD
import Derived.LoopTactic
import Derived.Deep.RegionHeld3
/-
  Contracts of chapter 3: l3Refines, refines, Refines of both.
-/
namespace Go.Proofs.YtmopncojgkmkpaaGreatDoor.Dt
open Go.RowKit DtPl
set_option linter.unusedSimpArgs false
set_option linter.unusedVariables false

theorem box2 (w : World) (o o' : Obj) : Below w.heap.size w ((w.alloc o).alloc o') := ((Below.refl _ w).alloc (Nat.le_refl _) o).alloc (by simp) o'
theorem rf_eq {y m d : Int} {c : Bool} {y' m' d' : Int} {c' b : Bool} (h : b = true ↔ (y' = 0 ∨ (y = y' ∧ (m' = 0 ∨ m = m') ∧ (d' = 0 ∨ d = d') ∧ (c = true → c' = true)))) : b = rfB y m d c y' m' d' c' := by
  unfold rfB; rw [Bool.eq_iff_iff, decide_eq_true_iff]; exact h

end Go.Proofs.YtmopncojgkmkpaaGreatDoor.Dt
/-
  Contracts of chapter 3: refines, Refines of both.
-/
namespace Go.Proofs.YtmopncojgkmkpaaGreatDoor.Dt
open Go.RowKit DtPl
set_option linter.unusedSimpArgs false
set_option linter.unusedVariables false

end Go.Proofs.YtmopncojgkmkpaaGreatDoor.Dt
/-
  A box that holds a date and may be written.
-/
namespace Go.Proofs.YtmopncojgkmkpaaGreatDoor.Dt
open Go.RowKit DtPl
set_option linter.unusedSimpArgs false
set_option linter.unusedVariables false

/-- block b holds a date and may be written -/
def F4 (W : World) (b : Nat) : Prop := W.frozen? ⟨b, 0, none⟩ = false ∧ W.frozen? ⟨b, 1, none⟩ = false ∧ W.frozen? ⟨b, 2, none⟩ = false ∧ W.frozen? ⟨b, 3, none⟩ = false
theorem F4.below {W w' : World} {b : Nat} (hlt : b < W.heap.size) (h : F4 W b) (hb : Below W.heap.size W w') : F4 w' b :=
  ⟨(hb.frozen (p := ⟨b, 0, none⟩) hlt).trans h.1, (hb.frozen (p := ⟨b, 1, none⟩) hlt).trans h.2.1, (hb.frozen (p := ⟨b, 2, none⟩) hlt).trans h.2.2.1, (hb.frozen (p := ⟨b, 3, none⟩) hlt).trans h.2.2.2⟩
/-- four stores into a new block -/
theorem set4 {W w1 : World} {b : Nat} {v0 v1 v2 v3 : Value} (h : Below W.heap.size W w1) (hb : W.heap.size ≤ b) : Below W.heap.size W ((((w1.setCell ⟨b, 0, none⟩ v0).setCell ⟨b, 1, none⟩ v1).setCell ⟨b, 2, none⟩ v2).setCell ⟨b, 3, none⟩ v3) :=
  (((h.setCell (p := ⟨b, 0, none⟩) hb _).setCell (p := ⟨b, 1, none⟩) hb _).setCell (p := ⟨b, 2, none⟩) hb _).setCell (p := ⟨b, 3, none⟩) hb _

/-- a box that may still be written -/
def D4F (W : World) (b : Nat) (y m d : Int) (c : Bool) : Prop := D4 W b y m d c ∧ F4 W b
theorem D4F.below {W w' : World} {b : Nat} {y m d : Int} {c : Bool} (hb : Below W.heap.size W w') (h : D4F W b y m d c) : D4F w' b y m d c := ⟨h.1.below hb, F4.below h.1.1 h.2 hb⟩
theorem D4F.new (w : World) (y m d : Int) (c : Bool) (t : TypeId) : D4F (w.alloc (.cells #[.int .i64 y, .int .i64 m, .int .i64 d, .bool c] t)) w.heap.size y m d c :=
  ⟨D4.new w y m d c t, by simp, by simp, by simp, by simp⟩
theorem D4F.newD (w : World) (y m d : Int) (c : Bool) (t : TypeId) : D4F (w.alloc (.cells #[.int .i64 y, .int .i64 m, .int .i64 d, .bool c] t)).drew w.heap.size y m d c := D4F.new w y m d c t
theorem c_ne {W : World} {b i j : Nat} {v : Value} (h : i ≠ j) : (W.setCell ⟨b, i, none⟩ v).cell? ⟨b, j, none⟩ = W.cell? ⟨b, j, none⟩ := World.cell?_setCell_other W _ _ _ (fun e => h (by cases e; rfl))
theorem D4F.set4 {W : World} {b : Nat} {y m d : Int} {c : Bool} (h : D4F W b y m d c) (y' m' d' : Int) (c' : Bool) : D4 ((((W.setCell ⟨b, 0, none⟩ (.int .i64 y')).setCell ⟨b, 1, none⟩ (.int .i64 m')).setCell ⟨b, 2, none⟩ (.int .i64 d')).setCell ⟨b, 3, none⟩ (.bool c')) b y' m' d' c' := by
  obtain ⟨⟨hl, h0, h1, h2, h3⟩, _⟩ := h
  refine ⟨by simpa [World.setCell] using hl, ?_, ?_, ?_, ?_⟩
  · rw [c_ne (by decide), c_ne (by decide), c_ne (by decide)]; exact World.cell?_setCell_same _ _ _ h0
  · rw [c_ne (by decide), c_ne (by decide)]; exact World.cell?_setCell_same _ _ _ (by rw [c_ne (by decide)]; exact h1)
  · rw [c_ne (by decide)]; exact World.cell?_setCell_same _ _ _ (by rw [c_ne (by decide), c_ne (by decide)]; exact h2)
  · exact World.cell?_setCell_same _ _ _ (by rw [c_ne (by decide), c_ne (by decide), c_ne (by decide)]; exact h3)
/-- a new box with four stores -/
theorem new4 (W : World) (y m d : Int) (c : Bool) (t : TypeId) :
    Below W.heap.size W (((((W.alloc (.cells #[.int .i64 0, .int .i64 0, .int .i64 0, .bool false] t)).setCell ⟨W.heap.size, 0, none⟩ (.int .i64 y)).setCell ⟨W.heap.size, 1, none⟩ (.int .i64 m)).setCell ⟨W.heap.size, 2, none⟩ (.int .i64 d)).setCell ⟨W.heap.size, 3, none⟩ (.bool c)) ∧
    D4 (((((W.alloc (.cells #[.int .i64 0, .int .i64 0, .int .i64 0, .bool false] t)).setCell ⟨W.heap.size, 0, none⟩ (.int .i64 y)).setCell ⟨W.heap.size, 1, none⟩ (.int .i64 m)).setCell ⟨W.heap.size, 2, none⟩ (.int .i64 d)).setCell ⟨W.heap.size, 3, none⟩ (.bool c)) W.heap.size y m d c :=
  ⟨set4 (box_below W _) (Nat.le_refl _), D4F.set4 (D4F.new W 0 0 0 false t) y m d c⟩
end Go.Proofs.YtmopncojgkmkpaaGreatDoor.Dt
/-
  Contracts of chapter 3: MergeDates of both.
-/
namespace Go.Proofs.YtmopncojgkmkpaaGreatDoor.Dt
open Go.RowKit DtPl
set_option linter.unusedSimpArgs false
set_option linter.unusedVariables false

def zeroV : Value := .tuple #[dtV 0 0 0 false, .bool false]
/-- what MergeDates answers -/
def mgV (y m d : Int) (c : Bool) (y' m' d' : Int) (c' : Bool) : Value :=
  if okB y m d c = true ∧ okB y' m' d' c' = true then
    (if rfB y m d c y' m' d' c' = true then .tuple #[dtV y m d c, .bool true] else if rfB y' m' d' c' y m d c = true then .tuple #[dtV y' m' d' c', .bool true] else zeroV) else zeroV
theorem mg_no {y m d : Int} {c : Bool} {y' m' d' : Int} {c' : Bool} (h : okB y m d c = false ∨ okB y' m' d' c' = false) : mgV y m d c y' m' d' c' = zeroV := by
  unfold mgV
  rw [if_neg]
  rintro ⟨h1, h2⟩
  rcases h with h | h <;> simp_all
theorem mg_form (y m d : Int) (c : Bool) (y' m' d' : Int) (c' : Bool) : ∃ a b e f r, mgV y m d c y' m' d' c' = .tuple #[dtV a b e f, .bool r] := by
  unfold mgV
  split
  · split
    · exact ⟨_, _, _, _, _, rfl⟩
    · split
      · exact ⟨_, _, _, _, _, rfl⟩
      · exact ⟨_, _, _, _, _, rfl⟩
  · exact ⟨_, _, _, _, _, rfl⟩
theorem box3 (w : World) (o o' o2 : Obj) : Below w.heap.size w (((w.alloc o).alloc o').alloc o2) := (box2 w o o').alloc (by simp; omega) o2
/-- the boxes of the two arguments and of the result -/
structure Three (W : World) (n : Nat) (y m d : Int) (c : Bool) (y' m' d' : Int) (c' : Bool) : Prop where
  a : D4 W n y m d c
  b : D4 W (n + 1) y' m' d' c'
  z : D4 W (n + 1 + 1) 0 0 0 false ∧ F4 W (n + 1 + 1)
theorem Three.below {W w' : World} {n : Nat} {y m d : Int} {c : Bool} {y' m' d' : Int} {c' : Bool} (h : Three W n y m d c y' m' d' c') (hb : Below W.heap.size W w') : Three w' n y m d c y' m' d' c' :=
  ⟨h.a.below hb, h.b.below hb, h.z.1.below hb, F4.below h.z.1.1 h.z.2 hb⟩
theorem three (w : World) (y m d : Int) (c : Bool) (y' m' d' : Int) (c' : Bool) : Three (((w.alloc (.cells #[.int .i64 y, .int .i64 m, .int .i64 d, .bool c] 31)).alloc (.cells #[.int .i64 y', .int .i64 m', .int .i64 d', .bool c'] 31)).alloc (.cells #[.int .i64 0, .int .i64 0, .int .i64 0, .bool false] 31)) w.heap.size y m d c y' m' d' c' := by
  have h1 : (w.alloc (.cells #[.int .i64 y, .int .i64 m, .int .i64 d, .bool c] 31)).heap.size = w.heap.size + 1 := by simp
  have h2 : ((w.alloc (.cells #[.int .i64 y, .int .i64 m, .int .i64 d, .bool c] 31)).alloc (.cells #[.int .i64 y', .int .i64 m', .int .i64 d', .bool c'] 31)).heap.size = w.heap.size + 1 + 1 := by simp
  have a := (D4.new w y m d c 31).below (box_below _ (.cells #[.int .i64 y', .int .i64 m', .int .i64 d', .bool c'] 31))
  have b := D4.new (w.alloc (.cells #[.int .i64 y, .int .i64 m, .int .i64 d, .bool c] 31)) y' m' d' c' 31
  rw [h1] at b
  have z := D4.new ((w.alloc (.cells #[.int .i64 y, .int .i64 m, .int .i64 d, .bool c] 31)).alloc (.cells #[.int .i64 y', .int .i64 m', .int .i64 d', .bool c'] 31)) 0 0 0 false 31
  rw [h2] at z
  refine ⟨a.below (box_below _ _), b.below (box_below _ _), z, ?_⟩
  have e : ((w.alloc (.cells #[.int .i64 y, .int .i64 m, .int .i64 d, .bool c] 31)).alloc (.cells #[.int .i64 y', .int .i64 m', .int .i64 d', .bool c'] 31)).heap.size = w.heap.size + 1 + 1 := h2
  generalize (w.alloc (.cells #[.int .i64 y, .int .i64 m, .int .i64 d, .bool c] 31)).alloc (.cells #[.int .i64 y', .int .i64 m', .int .i64 d', .bool c'] 31) = W at *
  rw [← e]
  exact ⟨by simp, by simp, by simp, by simp⟩
end Go.Proofs.YtmopncojgkmkpaaGreatDoor.Dt
/-
  Two boxes that hold dates, through worlds in which nothing old has changed.
-/
namespace Go.Proofs.YtmopncojgkmkpaaGreatDoor.Law2
open Go.RowKit DtPl Dt OpenD

/-- nothing of W has changed -/
def Kept (W w' : World) : Prop := Below W.heap.size W w'
theorem Kept.drew (W : World) : Kept W W.drew := ⟨rfl, rfl, rfl, Nat.le_refl _, fun _ _ => rfl⟩
theorem Kept.next {W w1 w2 : World} (h : Kept W w1) (hb : Below w1.heap.size w1 w2) : Kept W w2 := Below.trans h (hb.mono (Below.size h))
theorem Kept.alloc {W w1 : World} (h : Kept W w1) (o : Obj) : Kept W (w1.alloc o) := Below.alloc h (Below.size h) o
/-- the cells of two boxes -/
def Two (w : World) (a b : Nat) (y m d : Int) (c : Bool) (y' m' d' : Int) (c' : Bool) : Prop := D4 w a y m d c ∧ D4 w b y' m' d' c'
theorem Two.below {W w' : World} {a b : Nat} {y m d : Int} {c : Bool} {y' m' d' : Int} {c' : Bool} (h : Two W a b y m d c y' m' d' c') (hb : Below W.heap.size W w') : Two w' a b y m d c y' m' d' c' := ⟨h.1.below hb, h.2.below hb⟩
theorem Two.new (w : World) (y m d : Int) (c : Bool) (y' m' d' : Int) (c' : Bool) (t t' : TypeId) : Two ((w.alloc (.cells #[.int .i64 y, .int .i64 m, .int .i64 d, .bool c] t)).alloc (.cells #[.int .i64 y', .int .i64 m', .int .i64 d', .bool c'] t')) w.heap.size (w.heap.size + 1) y m d c y' m' d' c' := by
  refine ⟨(D4.new w y m d c t).below (box_below _ _), ?_⟩
  have h := D4.new (w.alloc (.cells #[.int .i64 y, .int .i64 m, .int .i64 d, .bool c] t)) y' m' d' c' t'
  rwa [show (w.alloc (.cells #[.int .i64 y, .int .i64 m, .int .i64 d, .bool c] t)).heap.size = w.heap.size + 1 by simp] at h
/-! a box that a region makes at a moment of its own choice -/
theorem Kept.size {W w' : World} (h : Kept W w') : W.heap.size ≤ w'.heap.size := Below.size h
theorem Kept.new1 (W : World) (o : Obj) : Kept W (W.alloc o).drew := by
  have h := box_below W o
  exact ⟨h.os, h.tape, h.output, h.size, h.block⟩
theorem Kept.set4 {W w1 : World} {b : Nat} {v0 v1 v2 v3 : Value} (h : Kept W w1) (hb : W.heap.size ≤ b) : Kept W ((((w1.setCell ⟨b, 0, none⟩ v0).setCell ⟨b, 1, none⟩ v1).setCell ⟨b, 2, none⟩ v2).setCell ⟨b, 3, none⟩ v3) := Dt.set4 h hb
/-- behind the model's call: its answer lies in a box of its own -/
structure Mid1 (w W1 : World) (B : Nat) (y m d : Int) (c : Bool) (y' m' d' : Int) (c' : Bool) (a b e : Int) (f : Bool) : Prop where
  k : Below w.heap.size w W1
  t : Two W1 w.heap.size (w.heap.size + 1) y m d c y' m' d' c'
  d : D4 W1 B a b e f
theorem Mid1.mk' {w W0 W1 : World} {B : Nat} {y m d : Int} {c : Bool} {y' m' d' : Int} {c' : Bool} {a b e : Int} {f : Bool} (hb : Below w.heap.size w W0) (ht : Two W0 w.heap.size (w.heap.size + 1) y m d c y' m' d' c') (hk : Kept W0 W1) (hd : D4 W1 B a b e f) : Mid1 w W1 B y m d c y' m' d' c' a b e f :=
  ⟨hb.trans (Below.mono hk hb.size), ht.below hk, hd⟩
/-- behind the program's call too -/
structure Mid2 (w W1 : World) (B C : Nat) (a b e : Int) (f : Bool) : Prop where
  k : Below w.heap.size w W1
  d : D4 W1 B a b e f
  d' : D4 W1 C a b e f
theorem Mid2.mk' {w W0 W1 : World} {B C : Nat} {a b e : Int} {f : Bool} (hb : Below w.heap.size w W0) (h1 : D4 W0 B a b e f) (hk : Kept W0 W1) (hd : D4 W1 C a b e f) : Mid2 w W1 B C a b e f :=
  ⟨hb.trans (Below.mono hk hb.size), h1.below hk, hd⟩
end Go.Proofs.YtmopncojgkmkpaaGreatDoor.Law2
/-
  Contracts of chapter 3: l3Compare, cmp.Compare and cmp.Or at int, compareBools.
-/
namespace Go.Proofs.YtmopncojgkmkpaaGreatDoor.Dt
open Go.RowKit DtPl
set_option linter.unusedSimpArgs false
set_option linter.unusedVariables false

theorem isNaN (x : Int) (w : World) : Calls Tryz.prog 69 #[.int .i64 x] w fun e w' => e = .returned (.bool false) ∧ w = w' := by
  go_enter Tryz.func69, Tryz.ntmps69
  go_wp2_with fail
  go_ret
  exact ⟨ret_bool (by simp), rfl⟩
set_option maxHeartbeats 1000000 in
theorem compareInt (x y : Int) (w : World) : Calls Tryz.prog 43 #[.int .i64 x, .int .i64 y] w fun e w' => e = .returned (.int .i64 (cmpI x y)) ∧ w = w' := by
  go_enter Tryz.func43, Tryz.ntmps43
  go_wp2_with fail
  refine (isNaN x _).mono ?_
  rintro e w' ⟨rfl, rfl⟩
  go_wp2_with fail
  refine (isNaN y _).mono ?_
  rintro e w' ⟨rfl, rfl⟩
  go_wp2_with fail
  all_goals go_ret
  all_goals refine ⟨ret_int ?_, rfl⟩
  all_goals unfold cmpI
  all_goals repeat' split
  all_goals omega
theorem compareBools (a b : Bool) (w : World) : Calls Tryz.prog 84 #[.bool a, .bool b] w fun e w' => e = .returned (.int .i64 (cmpB a b)) ∧ w = w' := by
  cases a <;> cases b
  all_goals
    go_enter Tryz.func84, Tryz.ntmps84
    go_wp2_with fail
    go_ret
    exact ⟨rfl, rfl⟩
/-- the slice of numbers at A -/
def RdI (w : World) (A : Option Addr) (xs : List Int) : Prop := ∀ j x, xs[j]? = some x → ∃ g o, A = some ⟨g, o, none⟩ ∧ w.cell? ⟨g, o + j, none⟩ = some (.int .i64 x)
/-- the first number that is not 0 -/
def orL (xs : List Int) : Int := xs.foldr orI 0
theorem orL_skip {xs : List Int} {k : Nat} (h : ∀ j, j < k → xs[j]? = some 0 ∨ xs[j]? = none) : orL xs = orL (xs.drop k) := by
  induction k generalizing xs with
  | zero => rfl
  | succ k ih =>
    cases xs with
    | nil => rfl
    | cons x r =>
      have h0 := h 0 (by omega)
      simp at h0
      subst h0
      have := ih (xs := r) (fun j hj => by have := h (j + 1) (by omega); simpa using this)
      show orI 0 (orL r) = _
      rw [this]; rfl
set_option maxHeartbeats 1000000 in
theorem orInt (A : Option Addr) (n c : Nat) (xs : List Int) (w : World) (h : RdI w A xs) (hn : xs.length = n) (hle : n ≤ 1000) :
    Calls Tryz.prog 36 #[.slice A n c] w fun e w' => e = .returned (.int .i64 (orL xs)) ∧ w = w' := by
  have H := Lib.hid h
  have HN := Lib.hid hn
  clear h hn
  go_enter Tryz.func36, Tryz.ntmps36
  go_wp2_with fail
  go_loop [8] (fun i => ∃ k : Nat, k ≤ n ∧ i = .int .i64 k ∧ Hid (∀ j, j < k → xs[j]? = some 0 ∨ xs[j]? = none)) (fun i => n - (intOf i).toNat)
  case atStart => exact ⟨0, Nat.zero_le _, rfl, Lib.hid (fun j hj => by omega)⟩
  case round =>
    obtain ⟨k, hk, rfl, HZ⟩ := hrel
    by_cases hlt : k < n
    · have hkx : k < xs.length := by rw [HN.out]; exact hlt
      have hx? := List.getElem?_eq_getElem hkx
      obtain ⟨g, of, rfl, hc⟩ := H.out k xs[k] hx?
      have HX := Lib.hid hx?
      clear hx?
      generalize xs[k] = x at *
      by_cases hx0 : x = 0
      · subst hx0
        go_wp2_with fail
        go_round
        case rel =>
          refine ⟨k + 1, by omega, by go_num, Lib.hid (fun j hj => ?_)⟩
          rcases Nat.lt_or_ge j k with h | h
          · exact HZ.out j h
          · obtain rfl : j = k := by omega
            exact .inl HX.out
        case measure => simp [intOf]; omega
      · have HO : Hid (orL xs = x) := Lib.hid (by
          rw [orL_skip HZ.out]
          obtain ⟨hl, he⟩ := List.getElem?_eq_some_iff.1 HX.out
          rw [List.drop_eq_getElem_cons hl, he]
          show orI x _ = x
          unfold orI; rw [if_neg hx0])
        have hx1 : (x != 0) = true := by simpa using hx0
        go_wp2_with fail
        go_ret
        exact ⟨ret_int HO.out.symm, rfl⟩
    · have HO : Hid (orL xs = 0) := Lib.hid (by
        rw [orL_skip HZ.out, List.drop_eq_nil_of_le (by rw [HN.out]; omega)]; rfl)
      go_wp2_with fail
      go_ret
      exact ⟨ret_int HO.out.symm, rfl⟩

theorem pos_form (x : Int) (c c' : Bool) (h : 0 < x) : (if x < 0 ∨ (x = 0 ∧ c = false ∧ c' = true) then (-1 : Int) else if 0 < x ∨ (c = true ∧ c' = false) then 1 else 0) = 1 := by
  rw [if_neg (by rintro (h1 | ⟨h1, _⟩) <;> omega), if_pos (.inl h)]
theorem neg_form (x : Int) (c c' : Bool) (h : x < 0) : (if x < 0 ∨ (x = 0 ∧ c = false ∧ c' = true) then (-1 : Int) else if 0 < x ∨ (c = true ∧ c' = false) then 1 else 0) = -1 := by
  rw [if_pos (.inl h)]
set_option maxHeartbeats 4000000 in
theorem cmp_model {y m d : Int} {c : Bool} {y' m' d' : Int} {c' : Bool} (h : okB y m d c = true) (h' : okB y' m' d' c' = true) (x : Int) (hx : x = (y * 13 + m) * 32 + d - (y' * 13 + m') * 32 - d') :
    cmpD y m d c y' m' d' c' = if x < 0 ∨ (x = 0 ∧ c = false ∧ c' = true) then -1 else if 0 < x ∨ (c = true ∧ c' = false) then 1 else 0 := by
  have b := ok_bd h
  have b' := ok_bd h'
  clear h h'
  have hcb : cmpB c c' = if c = c' then 0 else if c' = true then -1 else 1 := rfl
  unfold cmpD orI cmpI
  rw [hcb]
  clear hcb
  rcases Int.lt_trichotomy y y' with h1 | h1 | h1
  · have hx0 : x < 0 := by omega
    rw [neg_form x c c' hx0, if_pos h1]; rfl
  · subst h1
    rcases Int.lt_trichotomy m m' with h2 | h2 | h2
    · have hx0 : x < 0 := by omega
      rw [neg_form x c c' hx0, if_pos h2]; simp
    · subst h2
      rcases Int.lt_trichotomy d d' with h3 | h3 | h3
      · have hx0 : x < 0 := by omega
        rw [neg_form x c c' hx0, if_pos h3]; simp
      · subst h3
        have hx0 : x = 0 := by omega
        subst hx0
        cases c <;> cases c' <;> simp
      · have hx0 : 0 < x := by omega
        rw [pos_form x c c' hx0]
        have : ¬ d < d' := by omega
        simp [this, h3]
    · have hx0 : 0 < x := by omega
      rw [pos_form x c c' hx0]
      have : ¬ m < m' := by omega
      simp [this, h2]
  · have hx0 : 0 < x := by omega
    rw [pos_form x c c' hx0]
    have : ¬ y < y' := by omega
    simp [this, h1]
end Go.Proofs.YtmopncojgkmkpaaGreatDoor.Dt
/-
  Contracts of chapter 3: l3Compare, CompareDates of both.
-/
namespace Go.Proofs.YtmopncojgkmkpaaGreatDoor.Dt
open Go.RowKit DtPl Law2
set_option linter.unusedSimpArgs false
set_option linter.unusedVariables false

set_option maxHeartbeats 4000000 in
theorem l3Compare (y m d : Int) (c : Bool) (y' m' d' : Int) (c' : Bool) (x : Int) (w : World) (hv : okB y m d c = true) (hv' : okB y' m' d' c' = true) (hx : cmpD y m d c y' m' d' c' = x) :
    Calls Tryz.prog 26 #[dtV y m d c, dtV y' m' d' c'] w fun e w' => e = .returned (.int .i64 x) ∧ Below w.heap.size w w' := by
  have HX := Lib.hid hx
  have HM := Lib.hid (cmp_model hv hv' _ rfl)
  obtain ⟨a0, a1, a2, a3, a4, a5⟩ := ok_bd hv
  obtain ⟨b0, b1, b2, b3, b4, b5⟩ := ok_bd hv'
  clear hx hv hv'
  cases c <;> cases c'
  all_goals
    go_enter Tryz.func26, Tryz.ntmps26
    go_wp2_with fail
    all_goals go_ret
    all_goals refine ⟨ret_int ?_, box2 _ _ _⟩
    all_goals rw [← HX.out, HM.out]
    all_goals try simp only [beq_iff_eq, beq_eq_false_iff_ne, ne_eq] at *
    all_goals simp
    all_goals omega
theorem compareInt_r (x y r : Int) (w : World) (hr : cmpI x y = r) : Calls Tryz.prog 43 #[.int .i64 x, .int .i64 y] w fun e w' => e = .returned (.int .i64 r) ∧ w = w' := by
  subst hr; exact compareInt x y w
theorem compareBools_r (a b : Bool) (r : Int) (w : World) (hr : cmpB a b = r) : Calls Tryz.prog 84 #[.bool a, .bool b] w fun e w' => e = .returned (.int .i64 r) ∧ w = w' := by
  subst hr; exact compareBools a b w
theorem rdi_lit {w : World} {cs : Array Value} {t : TypeId} {xs : List Int} (h : cs = (xs.map (Value.int .i64)).toArray) : RdI (w.alloc (.cells cs t)) (some ⟨w.heap.size, 0, none⟩) xs := by
  intro j x hx
  subst h
  refine ⟨w.heap.size, 0, rfl, ?_⟩
  rw [Nat.zero_add, World.cell?_alloc_mark]
  simp [hx]
theorem rdi4 (a b c d : Int) (w : World) : RdI (w.alloc (.cells #[.int .i64 a, .int .i64 b, .int .i64 c, .int .i64 d] 3)).drew (some ⟨w.heap.size, 0, none⟩) [a, b, c, d] :=
  fun j x hx => rdi_lit (xs := [a, b, c, d]) (w := w) (t := 3) rfl j x hx
theorem or4 (a b c d : Int) : orL [a, b, c, d] = orI a (orI b (orI c d)) := by
  unfold orL orI
  simp only [List.foldr_cons, List.foldr_nil]
  have h : (if d = 0 then 0 else d) = d := by split <;> omega
  rw [h]
theorem box_drew1 (w : World) (o : Obj) : Below w.heap.size w (w.alloc o).drew := by
  have h := box_below w o
  exact ⟨h.os, h.tape, h.output, h.size, h.block⟩

set_option maxHeartbeats 2000000 in
theorem iCompare (y m d : Int) (c : Bool) (y' m' d' : Int) (c' : Bool) (ra rb : Bool) (x : Int) (w : World) (ha : okB y m d c = ra) (hb : okB y' m' d' c' = rb) (hx : (if (ra && rb) = true then orI (cmpI y y') (orI (cmpI m m') (orI (cmpI d d') (cmpB c c'))) else 0) = x) :
    Calls Tryz.prog 64 #[dtV y m d c, dtV y' m' d' c'] w fun e w' => e = .returned (.tuple #[.int .i64 x, .bool (ra && rb)]) ∧ Below w.heap.size w w' := by
  have HVa := Lib.hid ha
  have HVb := Lib.hid hb
  have HX := Lib.hid hx
  have HK := Lib.hid (box2 w (.cells #[.int .i64 y, .int .i64 m, .int .i64 d, .bool c] 31) (.cells #[.int .i64 y', .int .i64 m', .int .i64 d', .bool c'] 31))
  have HA := Lib.hid ((D4.new w y m d c 31).below (box_below (w.alloc (.cells #[.int .i64 y, .int .i64 m, .int .i64 d, .bool c] 31)) (.cells #[.int .i64 y', .int .i64 m', .int .i64 d', .bool c'] 31)))
  have HB : Hid (D4 ((w.alloc (.cells #[.int .i64 y, .int .i64 m, .int .i64 d, .bool c] 31)).alloc (.cells #[.int .i64 y', .int .i64 m', .int .i64 d', .bool c'] 31)) (w.heap.size + 1) y' m' d' c') := Lib.hid (by
    have h := D4.new (w.alloc (.cells #[.int .i64 y, .int .i64 m, .int .i64 d, .bool c] 31)) y' m' d' c' 31
    rwa [show (w.alloc (.cells #[.int .i64 y, .int .i64 m, .int .i64 d, .bool c] 31)).heap.size = w.heap.size + 1 by simp] at h)
  clear ha hb hx
  cases ra with
  | false =>
    go_enter Tryz.func64, Tryz.ntmps64
    go_wp2_with fail
    refine (iValid y m d c false _ HVa.out).mono ?_
    rintro e w1 ⟨rfl, b1⟩
    go_wp2_with fail
    go_ret2
    exact ⟨by rw [← HX.out]; rfl, HK.out.trans (b1.mono HK.out.size)⟩
  | true =>
    cases rb with
    | false =>
      go_enter Tryz.func64, Tryz.ntmps64
      go_wp2_with fail
      refine (iValid y m d c true _ HVa.out).mono ?_
      rintro e w1 ⟨rfl, b1⟩
      have k1 := HK.out.trans (b1.mono HK.out.size)
      obtain ⟨hbl, hb0, hb1, hb2, hb3⟩ := HB.out.below b1
      clear b1
      go_wp2_with fail
      refine (iValid y' m' d' c' false _ HVb.out).mono ?_
      rintro e w2 ⟨rfl, b2⟩
      have k2 := k1.trans (b2.mono k1.size)
      clear hbl hb0 hb1 hb2 hb3 b2 k1
      go_wp2_with fail
      go_ret2
      exact ⟨by rw [← HX.out]; rfl, k2⟩
    | true =>
      go_enter Tryz.func64, Tryz.ntmps64
      go_wp2_with fail
      refine (iValid y m d c true _ HVa.out).mono ?_
      rintro e w1 ⟨rfl, b1⟩
      have k1 := HK.out.trans (b1.mono HK.out.size)
      have HA1 := Lib.hid (HA.out.below b1)
      have HB1 := Lib.hid (HB.out.below b1)
      obtain ⟨hbl, hb0, hb1, hb2, hb3⟩ := HB1.out
      clear b1
      go_wp2_with fail
      refine (iValid y' m' d' c' true _ HVb.out).mono ?_
      rintro e w2 ⟨rfl, b2⟩
      have k2 := k1.trans (b2.mono k1.size)
      have HA2 := Lib.hid (HA1.out.below b2)
      have HB2 := Lib.hid (HB1.out.below b2)
      clear hbl hb0 hb1 hb2 hb3 b2 k1 HA1 HB1
      obtain ⟨hbl, hb0, hb1, hb2, hb3⟩ := HB2.out
      obtain ⟨hal, ha0, ha1, ha2, ha3⟩ := HA2.out
      go_wp2_with fail
      clear hbl hb0 hb1 hb2 hb3 hal ha0 ha1 ha2 ha3
      have HS : Hid (∀ w', Kept w2 w' → ((w'.cell? ⟨w.heap.size, 0, none⟩ = some (.int .i64 y) ∧ w'.cell? ⟨w.heap.size, 1, none⟩ = some (.int .i64 m) ∧ w'.cell? ⟨w.heap.size, 2, none⟩ = some (.int .i64 d) ∧ w'.cell? ⟨w.heap.size, 3, none⟩ = some (.bool c)) ∧ (w'.cell? ⟨w.heap.size + 1, 0, none⟩ = some (.int .i64 y') ∧ w'.cell? ⟨w.heap.size + 1, 1, none⟩ = some (.int .i64 m') ∧ w'.cell? ⟨w.heap.size + 1, 2, none⟩ = some (.int .i64 d') ∧ w'.cell? ⟨w.heap.size + 1, 3, none⟩ = some (.bool c')) ∧ Kept w2 w')) := Lib.hid (fun w' h => ⟨(HA2.out.below h).2, (HB2.out.below h).2, h⟩)
      have HK0 := Lib.hid (Kept.drew w2)
      generalize hq1 : cmpI y y' = q1 at HX
      generalize hq2 : cmpI m m' = q2 at HX
      generalize hq3 : cmpI d d' = q3 at HX
      generalize hq4 : cmpB c c' = q4 at HX
      have HQ1 := Lib.hid hq1
      have HQ2 := Lib.hid hq2
      have HQ3 := Lib.hid hq3
      have HQ4 := Lib.hid hq4
      clear hq1 hq2 hq3 hq4
      go_wp2_with fail
      go_region_held3 (fun w' => (w'.cell? ⟨w.heap.size, 0, none⟩ = some (.int .i64 y) ∧ w'.cell? ⟨w.heap.size, 1, none⟩ = some (.int .i64 m) ∧ w'.cell? ⟨w.heap.size, 2, none⟩ = some (.int .i64 d) ∧ w'.cell? ⟨w.heap.size, 3, none⟩ = some (.bool c)) ∧ (w'.cell? ⟨w.heap.size + 1, 0, none⟩ = some (.int .i64 y') ∧ w'.cell? ⟨w.heap.size + 1, 1, none⟩ = some (.int .i64 m') ∧ w'.cell? ⟨w.heap.size + 1, 2, none⟩ = some (.int .i64 d') ∧ w'.cell? ⟨w.heap.size + 1, 3, none⟩ = some (.bool c')) ∧ Kept w2 w')
        (first | exact HS.out _ HK0.out | exact HS.out _ (box_drew1 _ _) | exact HS.out _ (by assumption))
        (first
          | (go_at_call 43; (with_reducible refine (compareInt_r y y' q1 _ HQ1.out).mono ?_); rintro e w' ⟨rfl, rfl⟩)
          | (go_at_call 43; (with_reducible refine (compareInt_r m m' q2 _ HQ2.out).mono ?_); rintro e w' ⟨rfl, rfl⟩)
          | (go_at_call 43; (with_reducible refine (compareInt_r d d' q3 _ HQ3.out).mono ?_); rintro e w' ⟨rfl, rfl⟩)
          | (go_at_call 84; (with_reducible refine (compareBools_r c c' q4 _ HQ4.out).mono ?_); rintro e w' ⟨rfl, rfl⟩)
          | (go_at_call 36; (with_reducible refine (orInt _ 4 _ [q1, q2, q3, q4] _ (rdi4 q1 q2 q3 q4 w2) rfl (by omega)).mono ?_); rintro e w' ⟨rfl, rfl⟩))
      have b3 := box_drew1 w2 (.cells #[.int .i64 q1, .int .i64 q2, .int .i64 q3, .int .i64 q4] 3)
      have HO : Hid (orL [q1, q2, q3, q4] = x) := Lib.hid (by rw [← HX.out]; exact or4 q1 q2 q3 q4)
      rw [HO.out]
      go_wp2_with fail
      go_ret2
      exact ⟨rfl, k2.trans (b3.mono k2.size)⟩


theorem iCompareD (y m d : Int) (c : Bool) (y' m' d' : Int) (c' : Bool) (ra rb : Bool) (x : Int) (w : World) (ha : okB y m d c = ra) (hb : okB y' m' d' c' = rb) (hx : (if (ra && rb) = true then cmpD y m d c y' m' d' c' else 0) = x) :
    Calls Tryz.prog 64 #[dtV y m d c, dtV y' m' d' c'] w fun e w' => e = .returned (.tuple #[.int .i64 x, .bool (ra && rb)]) ∧ Below w.heap.size w w' :=
  iCompare y m d c y' m' d' c' ra rb x w ha hb hx
end Go.Proofs.YtmopncojgkmkpaaGreatDoor.Dt
