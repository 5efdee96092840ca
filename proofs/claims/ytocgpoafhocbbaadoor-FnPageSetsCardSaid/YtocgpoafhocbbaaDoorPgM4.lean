/-
  Contracts of MergePages and CountPages, of the program and of the model.
-/
import Derived.Test.YtocgpoafhocbbaaDoorPgM3
namespace Go.Proofs.YtocgpoafhocbbaaDoor.PgM
open Go.RowKit PgPl NmPl Pg PgMe PgSo PgHit
set_option linter.unusedSimpArgs false
set_option linter.unusedVariables false

/-- the pages of a merged list, counted -/
def cnt (M : List Pr) : Int := (M.map fun x => x.t - x.f + 1).sum
theorem cnt_take {M : List Pr} {k : Nat} {x : Pr} (h : M[k]? = some x) : cnt (M.take (k + 1)) = cnt (M.take k) + (x.t - x.f + 1) := by
  unfold cnt
  rw [List.take_add_one, h, List.map_append, List.sum_append]
  simp
theorem cnt_bd {M : List Pr} (hok : ∀ x ∈ M, x.ok = true) : ∀ k, 0 ≤ cnt (M.take k) ∧ cnt (M.take k) ≤ 99999 * k := by
  intro k
  induction k with
  | zero => simp [cnt]
  | succ k ih =>
    cases h : M[k]? with
    | none =>
      have e : M.take (k + 1) = M.take k := by rw [List.take_add_one, h]; simp
      rw [e]
      omega
    | some x =>
      obtain ⟨_, h1, h2, h3⟩ := okR_yes (hok x (List.mem_of_getElem? h))
      rw [cnt_take h]
      omega
/-- what MergePages answers -/
def mrg (z : Bool) (L : List Pr) : List Pr := if z then mL L else []
def ctn (z : Bool) (L : List Pr) : Int := if z then cnt (mL L) else 0
theorem ret_int {k : IntKind} {a b : Int} (h : a = b) : Ending.returned (.int k a) = .returned (.int k b) := by rw [h]
theorem own_nil0 (w : World) : (w.alloc (.cells #[] 34)).ownsRow w.heap.size 34 3 (.slice (some ⟨w.heap.size, 0, none⟩) 0 0) 0 (pcells []) :=
  World.ownsRow_lit (base := w.heap.size) (e := 34) (size := 3) w #[] 0 (Nat.le_refl _) (by decide) (by simp)

set_option maxHeartbeats 1000000 in
theorem merges_i (A : Option Addr) (c N : Nat) (L : List Pr) (z : Bool) (R : List Pr) (w : World) (h : RdP w A L) (hn : L.length = N) (hN : N ≤ 1048576) (hz : okL L = z) (hr : mrg z L = R) :
    Calls Tryd.prog 6 #[.slice A N c] w fun e w' => ∃ v, e = .returned (.tuple #[v, .bool z]) ∧ w'.ownsRow w.heap.size 34 3 v R.length (pcells R) ∧ Below w.heap.size w w' := by
  have HG := Lib.hid (pages_i A c N L z w h hn hN hz)
  cases z with
  | false =>
    obtain rfl : R = [] := hr.symm
    clear h hz hr
    go_enter Tryd.func6, Tryd.ntmps6
    go_wp2_with fail
    refine HG.out.mono ?_
    rintro e w1 ⟨rfl, b1⟩
    have ho := row_base' b1.size (own_nil0 w1)
    have hb := b1.trans ((box_below w1 (.cells #[] 34)).mono b1.size)
    go_wp2_with fail
    go_ret2
    exact ⟨_, rfl, ho, hb⟩
  | true =>
    obtain ⟨h1, h8, hok⟩ := okL_yes hz
    have HR : Hid (mL L = R) := Lib.hid hr
    have HM := Lib.hid (fun w' (hb : Below w.heap.size w w') => merge_i A c N L w' (h.below hb) hn (by omega) (by omega) hok)
    rw [HR.out] at HM
    clear h hz hr h1 h8 hok
    go_enter Tryd.func6, Tryd.ntmps6
    go_wp2_with fail
    refine HG.out.mono ?_
    rintro e w1 ⟨rfl, b1⟩
    go_wp2_with fail
    refine (HM.out _ b1).mono ?_
    rintro e w2 ⟨v, rfl, o2, b2⟩
    have hb := b1.trans (b2.mono b1.size)
    have ho := row_base' b1.size o2
    obtain ⟨A2, c2, rfl, _, _, _⟩ := own_rdp o2
    clear b1 b2 o2
    go_wp2_with fail
    go_ret2
    exact ⟨_, rfl, ho, hb⟩

set_option maxHeartbeats 1000000 in
theorem merges_s (A : Option Addr) (c N : Nat) (L : List Pr) (z : Bool) (R : List Pr) (w : World) (h : RdP w A L) (hn : L.length = N) (hN : N ≤ 1048576) (hz : okL L = z) (hr : mrg z L = R) :
    Calls Tryd.prog 7 #[.slice A N c] w fun e w' => ∃ v, e = .returned (.tuple #[v, .bool z]) ∧ w'.ownsRow w.heap.size 34 3 v R.length (pcells R) ∧ Below w.heap.size w w' := by
  have HG := Lib.hid (good_s A c N L z w h hn hN hz)
  cases z with
  | false =>
    obtain rfl : R = [] := hr.symm
    clear h hz hr
    go_enter Tryd.func7, Tryd.ntmps7
    go_wp2_with fail
    refine HG.out.mono ?_
    rintro e w1 ⟨rfl, b1⟩
    have ho := row_base' b1.size (own_nil0 w1)
    have hb := b1.trans ((box_below w1 (.cells #[] 34)).mono b1.size)
    go_wp2_with fail
    go_ret2
    exact ⟨_, rfl, ho, hb⟩
  | true =>
    obtain ⟨h1, h8, hok⟩ := okL_yes hz
    have HR : Hid (mL L = R) := Lib.hid hr
    have HM := Lib.hid (fun w' (hb : Below w.heap.size w w') => merge_s A c N L w' (h.below hb) hn (by omega) hok)
    rw [HR.out] at HM
    clear h hz hr h1 h8 hok
    go_enter Tryd.func7, Tryd.ntmps7
    go_wp2_with fail
    refine HG.out.mono ?_
    rintro e w1 ⟨rfl, b1⟩
    go_wp2_with fail
    refine (HM.out _ b1).mono ?_
    rintro e w2 ⟨v, rfl, o2, b2⟩
    have hb := b1.trans (b2.mono b1.size)
    have ho := row_base' b1.size o2
    obtain ⟨A2, c2, rfl, _, _, _⟩ := own_rdp o2
    clear b1 b2 o2
    go_wp2_with fail
    go_ret2
    exact ⟨_, rfl, ho, hb⟩

set_option maxHeartbeats 2000000 in
theorem count_i (A : Option Addr) (c N : Nat) (L : List Pr) (w : World) (h : RdP w A L) (hn : L.length = N) (h8 : N ≤ 8) (h1 : 1 ≤ N) (hok : ∀ x ∈ L, x.ok = true) :
    Calls Tryd.prog 19 #[.slice A N c] w fun e w' => e = .returned (.int .i64 (cnt (mL L))) ∧ Below w.heap.size w w' := by
  have HM := Lib.hid (fun w' (hb : Below w.heap.size w w') => merge_i A c N L w' (h.below hb) hn h8 h1 hok)
  obtain ⟨m1, _, _, m4⟩ := mL_facts hok
  have HO := Lib.hid m1
  have HBd := Lib.hid (cnt_bd m1)
  have hml : (mL L).length ≤ 8 := by omega
  clear h hok m1 m4 hn
  generalize mL L = M at *
  go_enter Tryd.func19, Tryd.ntmps19
  go_wp2_with fail
  refine (HM.out _ (Below.refl _ _)).mono ?_
  rintro e w2 ⟨v, rfl, o2, b2⟩
  obtain ⟨A2, c2, rfl, _, R2, _⟩ := own_rdp o2
  have HR := Lib.hid R2
  clear o2 R2
  obtain ⟨n, HMl⟩ : ∃ n, Hid (M.length = n) := ⟨_, Lib.hid rfl⟩
  rw [HMl.out] at hml ⊢
  go_wp2_with fail
  go_loopw [3, 9] (fun s q wr => ∃ (k : Nat), k ≤ n ∧ q = .int .i64 k ∧ (∃ z : Int, s = .int .i64 z ∧ Hid (z = cnt (M.take k)) ∧ 0 ≤ z ∧ z ≤ 99999 * k) ∧ Kp w2 wr) (fun _ q _ => n - (intOf q).toNat)
  case atStart => exact ⟨0, Nat.zero_le _, rfl, ⟨0, rfl, Lib.hid rfl, Int.le_refl _, by simp⟩, Kp.refl' _⟩
  case round =>
    obtain ⟨k, hk, rfl, ⟨z, rfl, HZ, hz0, hz1⟩, hkp⟩ := hrel
    by_cases hlt : k < n
    · have hkx : k < M.length := by rw [HMl.out]; exact hlt
      have hx? := List.getElem?_eq_getElem hkx
      obtain ⟨g, o, rfl, hg, c0, c1, c2⟩ := (HR.out.below hkp) k M[k] hx?
      have HT := Lib.hid (cnt_take hx?)
      obtain ⟨_, x1, x2, x3⟩ := okR_yes (HO.out _ (List.getElem_mem hkx))
      clear hx?
      generalize M[k] = x at *
      obtain ⟨l, f, t⟩ := x
      dsimp only at c0 c1 c2 x1 x2 x3 HT
      have hbx : Kp w2 (wr.alloc (.cells #[.string l, .int .i64 f, .int .i64 t] 34)) := Kp.al hkp _
      go_wp2_with fail
      go_roundw
      case rel => exact ⟨k + 1, by omega, by go_num, ⟨_, rfl, Lib.hid (by rw [HT.out, ← HZ.out]), by omega, by omega⟩, hbx⟩
      case measure => (simp [intOf] <;> omega)
    · have HE : Hid (z = cnt M) := Lib.hid (by rw [HZ.out, List.take_of_length_le (by rw [HMl.out]; omega)])
      go_wp2_with fail
      go_ret
      exact ⟨by rw [← HE.out]; rfl, b2.trans (Below.mono hkp b2.size)⟩

set_option maxHeartbeats 2000000 in
theorem count_s (A : Option Addr) (c N : Nat) (L : List Pr) (w : World) (h : RdP w A L) (hn : L.length = N) (h8 : N ≤ 8) (h1 : 1 ≤ N) (hok : ∀ x ∈ L, x.ok = true) :
    Calls Tryd.prog 25 #[.slice A N c] w fun e w' => e = .returned (.int .i64 (cnt (mL L))) ∧ Below w.heap.size w w' := by
  have HM := Lib.hid (fun w' (hb : Below w.heap.size w w') => merge_s A c N L w' (h.below hb) hn h8 hok)
  obtain ⟨m1, _, _, m4⟩ := mL_facts hok
  have HO := Lib.hid m1
  have HBd := Lib.hid (cnt_bd m1)
  have hml : (mL L).length ≤ 8 := by omega
  clear h hok m1 m4 hn
  generalize mL L = M at *
  go_enter Tryd.func25, Tryd.ntmps25
  go_wp2_with fail
  refine (HM.out _ (Below.refl _ _)).mono ?_
  rintro e w2 ⟨v, rfl, o2, b2⟩
  obtain ⟨A2, c2, rfl, _, R2, _⟩ := own_rdp o2
  have HR := Lib.hid R2
  clear o2 R2
  obtain ⟨n, HMl⟩ : ∃ n, Hid (M.length = n) := ⟨_, Lib.hid rfl⟩
  rw [HMl.out] at hml ⊢
  go_wp2_with fail
  go_loopw [3, 5] (fun s q wr => ∃ (k : Nat), k ≤ n ∧ q = .int .i64 k ∧ (∃ z : Int, s = .int .i64 z ∧ Hid (z = cnt (M.take k)) ∧ 0 ≤ z ∧ z ≤ 99999 * k) ∧ Kp w2 wr) (fun _ q _ => n - (intOf q).toNat)
  case atStart => exact ⟨0, Nat.zero_le _, rfl, ⟨0, rfl, Lib.hid rfl, Int.le_refl _, by simp⟩, Kp.refl' _⟩
  case round =>
    obtain ⟨k, hk, rfl, ⟨z, rfl, HZ, hz0, hz1⟩, hkp⟩ := hrel
    by_cases hlt : k < n
    · have hkx : k < M.length := by rw [HMl.out]; exact hlt
      have hx? := List.getElem?_eq_getElem hkx
      obtain ⟨g, o, rfl, hg, c0, c1, c2⟩ := (HR.out.below hkp) k M[k] hx?
      have HT := Lib.hid (cnt_take hx?)
      obtain ⟨_, x1, x2, x3⟩ := okR_yes (HO.out _ (List.getElem_mem hkx))
      clear hx?
      generalize M[k] = x at *
      obtain ⟨l, f, t⟩ := x
      dsimp only at c0 c1 c2 x1 x2 x3 HT
      have hJ2 : (0 : Int) ≤ (k : Int) := Int.natCast_nonneg _
      have hJ3 : (k : Int) < (n : Int) := by omega
      have hw1 : IntKind.i64.wrap (z + t) = z + t := by rw [IntWalk.i64_in _ (by omega)]
      have hw2 : IntKind.i64.wrap (z + t - f) = z + t - f := by rw [IntWalk.i64_in _ (by omega)]
      have hw3 : IntKind.i64.wrap (z + t - f + 1) = z + t - f + 1 := by rw [IntWalk.i64_in _ (by omega)]
      go_wp2_with fail
      go_quiet (fail)
      go_wp2_with fail
      go_roundw
      case rel => exact ⟨k + 1, by omega, by go_num, ⟨_, rfl, Lib.hid (by rw [HT.out, ← HZ.out]; omega), by omega, by omega⟩, below_drewN' hkp _⟩
      case measure => (simp [intOf] <;> omega)
    · have HE : Hid (z = cnt M) := Lib.hid (by rw [HZ.out, List.take_of_length_le (by rw [HMl.out]; omega)])
      go_wp2_with fail
      go_ret
      exact ⟨by rw [← HE.out]; rfl, b2.trans (Below.mono hkp b2.size)⟩

set_option maxHeartbeats 1000000 in
theorem counts_i (A : Option Addr) (c N : Nat) (L : List Pr) (z : Bool) (r : Int) (w : World) (h : RdP w A L) (hn : L.length = N) (hN : N ≤ 1048576) (hz : okL L = z) (hr : ctn z L = r) :
    Calls Tryd.prog 9 #[.slice A N c] w fun e w' => e = .returned (.tuple #[.int .i64 r, .bool z]) ∧ Below w.heap.size w w' := by
  have HG := Lib.hid (pages_i A c N L z w h hn hN hz)
  cases z with
  | false =>
    obtain rfl : r = 0 := hr.symm
    clear h hz hr
    go_enter Tryd.func9, Tryd.ntmps9
    go_wp2_with fail
    refine HG.out.mono ?_
    rintro e w1 ⟨rfl, b1⟩
    go_wp2_with fail
    go_ret2
    exact ⟨rfl, b1⟩
  | true =>
    obtain ⟨h1, h8, hok⟩ := okL_yes hz
    have HR : Hid (cnt (mL L) = r) := Lib.hid hr
    have HM := Lib.hid (fun w' (hb : Below w.heap.size w w') => count_i A c N L w' (h.below hb) hn (by omega) (by omega) hok)
    rw [HR.out] at HM
    clear h hz hr h1 h8 hok
    go_enter Tryd.func9, Tryd.ntmps9
    go_wp2_with fail
    refine HG.out.mono ?_
    rintro e w1 ⟨rfl, b1⟩
    go_wp2_with fail
    refine (HM.out _ b1).mono ?_
    rintro e w2 ⟨rfl, b2⟩
    have hb := b1.trans (b2.mono b1.size)
    clear b1 b2
    go_wp2_with fail
    go_ret2
    exact ⟨rfl, hb⟩

end Go.Proofs.YtocgpoafhocbbaaDoor.PgM
