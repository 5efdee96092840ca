/-
  Several texts of one claim in one file: NumS, Num, Cs.
-/
import Derived.Test.YteccmlpibbchbaaGreatDoorRows
import Derived.Test.YteccmlpibbchbaaGreatDoorPlain
import Derived.WalkKit
import Derived.Below
import Derived.Lib.Hide
import Derived.Lib.ItoaNum
import Derived.Deep.QuietTactic
import Derived.BigQuiet
import Derived.IntWalk
import Derived.Test.YteccmlpibbchbaaGreatDoorShelf
import Derived.Maps.AppendAt
/-
  Contract of spec.l1Num.
-/
namespace Go.Proofs.YteccmlpibbchbaaGreatDoor.Num
open Go.RowKit Pl

theorem dec_len (u : Nat) : (Lib.decDigits u).length ≤ u + 1 := by
  induction u using Nat.strongRecOn with
  | _ u ih =>
    rw [Lib.decDigits]
    split
    · simp
    · have := ih (u / 10) (by omega)
      simp; omega
def tenD : ByteArray := ⟨#[48, 49, 50, 51, 52, 53, 54, 55, 56, 57]⟩
theorem tenD_cut (n : Nat) (h : n < 10) : (ByteArray.mk #[48, 49, 50, 51, 52, 53, 54, 55, 56, 57]).extract n (n + 1) = ba [UInt8.ofNat (48 + n)] := by
  have : ∀ m : Fin 10, (ByteArray.mk #[48, 49, 50, 51, 52, 53, 54, 55, 56, 57]).extract m.1 (m.1 + 1) = ba [UInt8.ofNat (48 + m.1)] := by decide
  exact this ⟨n, h⟩
/-- one digit, cut out of the ten -/
theorem cut1 (w : World) (i : Int) (n : Nat) (j : Int) (hi : i = n) (hj : j = n + 1) (h : n < 10) :
    (Instr.slice 9 (.string ⟨#[48, 49, 50, 51, 52, 53, 54, 55, 56, 57]⟩) (some (.int .i64 i)) (some (.int .i64 j)) none).run Tryz.prog w = .ok (.string (ba [UInt8.ofNat (48 + n)])) w := by
  have hs : (ByteArray.mk #[48, 49, 50, 51, 52, 53, 54, 55, 56, 57]).size = 10 := rfl
  have := run_slice_string (P := Tryz.prog) w 9 ⟨#[48, 49, 50, 51, 52, 53, 54, 55, 56, 57]⟩ .i64 .i64 i j Tryz.underlying9 (by omega) (by omega) (by rw [hs]; omega)
  rw [this, hi, hj]
  have e1 : ((n : Int)).toNat = n := by omega
  have e2 : ((n : Int) + 1).toNat = n + 1 := by omega
  rw [e1, e2, tenD_cut n h]
theorem ba_cat (a b : List UInt8) : ba a ++ ba b = ba (a ++ b) := by
  apply ByteArray.ext; simp [ba]

set_option maxRecDepth 100000 in
set_option maxHeartbeats 1000000 in
theorem l1Num_nat (u : Nat) : ∀ (_ : u ≤ 999999) (w : World),
    Calls Tryz.prog 91 #[.int .i64 u] w fun e w' => e = .returned (.string (ba (Lib.decDigits u))) ∧ ∃ q, w' = w.drewN q := by
  induction u using Nat.strongRecOn with
  | _ u ih =>
    intro hu w
    by_cases h10 : u < 10
    · have hcut := cut1 w u u (u + 1) rfl rfl h10
      have HD : Hid (ba (Lib.decDigits u) = ba [UInt8.ofNat (48 + u)]) := Lib.hid (by rw [Lib.decDigits, dif_pos h10])
      generalize ba [UInt8.ofNat (48 + u)] = dg at *
      clear ih
      go_enter Tryz.func91, Tryz.ntmps91
      go_wp2_with fail
      go_ret
      exact ⟨by rw [HD.out]; rfl, 0, rfl⟩
    · have ht : (u : Int).tmod 10 = ((u % 10 : Nat) : Int) := by rw [Int.tmod_eq_emod_of_nonneg (by omega)]; omega
      have hcut : ∀ q, (Instr.slice 9 (.string ⟨#[48, 49, 50, 51, 52, 53, 54, 55, 56, 57]⟩) (some (.int .i64 ((u : Int).tmod 10))) (some (.int .i64 (IntKind.i64.wrap ((u : Int).tmod 10 + 1)))) none).run Tryz.prog (w.drewN q) = .ok (.string (ba [UInt8.ofNat (48 + u % 10)])) (w.drewN q) :=
        fun q => cut1 _ _ (u % 10) _ ht (by rw [IntWalk.i64_in _ (by omega), ht]) (by omega)
      clear ht
      have HD : Hid (ba (Lib.decDigits (u / 10)) ++ ba [UInt8.ofNat (48 + u % 10)] = ba (Lib.decDigits u)) := Lib.hid (by rw [ba_cat]; conv => rhs; rw [Lib.decDigits, dif_neg h10])
      have HI := Lib.hid (ih (u / 10) (by omega) (by omega))
      have hlen := dec_len (u / 10)
      rw [← ba_size] at hlen
      clear ih
      generalize Lib.decDigits (u / 10) = D at *
      generalize ba D = o at *
      obtain ⟨v, HV⟩ : ∃ v : Int, Hid (v = ((u / 10 : Nat) : Int)) := ⟨_, Lib.hid rfl⟩
      rw [← HV.out] at HI
      have hq : IntKind.i64.wrap ((u : Int) / 10) = v := by rw [HV.out, IntWalk.i64_in _ (by omega)]; omega
      have hd1 : (ba [UInt8.ofNat (48 + u % 10)]).size ≤ 1 := by rw [ba_size]; simp
      generalize ba [UInt8.ofNat (48 + u % 10)] = dg at *
      have hL : ¬ 9223372036854775807 < o.size + dg.size := by omega
      go_enter Tryz.func91, Tryz.ntmps91
      go_wp2_with fail
      go_quiet ((go_at_call 91; exact Calls.quiet_of (HI.out _)))
      go_wp2_with fail
      go_ret
      exact ⟨by rw [← HD.out]; rfl, _, rfl⟩

theorem itoa_len (n : Int) (h : -999999 ≤ n ∧ n ≤ 999999) : (Lib.itoa n).length ≤ 1000001 := by
  unfold Lib.itoa
  split
  · have := dec_len n.natAbs
    simp; omega
  · have := dec_len n.toNat
    omega

set_option maxHeartbeats 1000000 in
theorem l1Num_any (n : Int) (w : World) (h0 : -999999 ≤ n) (h1 : n ≤ 999999) :
    Calls Tryz.prog 91 #[.int .i64 n] w fun e w' => e = .returned (.string (ba (Lib.itoa n))) ∧ ∃ q, w' = w.drewN q := by
  by_cases hneg : n < 0
  · obtain ⟨m, rfl⟩ : ∃ m : Nat, n = -(m : Int) := ⟨n.natAbs, by omega⟩
    have hm : m ≤ 999999 := by omega
    have HI := Lib.hid (l1Num_nat m hm)
    have HD : Hid (ba [45] ++ ba (Lib.decDigits m) = ba (Lib.itoa (-(m : Int)))) := Lib.hid (by rw [ba_cat, Lib.itoa, if_pos hneg]; simp)
    have hlen := dec_len m
    rw [← ba_size] at hlen
    generalize ba (Lib.decDigits m) = o at *
    have hL : ¬ 9223372036854775807 < (ByteArray.mk #[45]).size + o.size := by rw [show (ByteArray.mk #[45]).size = 1 from rfl]; omega
    go_enter Tryz.func91, Tryz.ntmps91
    go_wp2_with fail
    refine (HI.out _).mono ?_
    rintro e w' ⟨rfl, q, rfl⟩
    go_wp2_with fail
    go_ret
    exact ⟨by rw [← HD.out]; rfl, q, rfl⟩
  · obtain ⟨m, rfl⟩ := Int.eq_ofNat_of_zero_le (show 0 ≤ n by omega)
    have e : Lib.itoa (m : Int) = Lib.decDigits m := by rw [Lib.itoa, if_neg hneg]; simp
    rw [e]
    exact l1Num_nat m (by omega) w

end Go.Proofs.YteccmlpibbchbaaGreatDoor.Num
/-
  Contracts of spec.l1In, spec.l1Num, spec.FormatInt and impl.FormatInt.
-/
namespace Go.Proofs.YteccmlpibbchbaaGreatDoor.Num
open Go.RowKit Pl

theorem grow_below (w : World) (k : Nat) (os : Array Obj) : Below w.heap.size w (Sort.grow (w.drewN k) os) :=
  ⟨rfl, rfl, rfl, by simp [Sort.grow, World.drewN], fun i hi => by
    show (w.heap ++ os)[i]? = w.heap[i]?
    rw [Array.getElem?_append_left hi]⟩
theorem l1In_any (x a b : Int) (r : Bool) (w : World) (hr : decide (a ≤ x ∧ x ≤ b) = r) :
    Calls Tryz.prog 48 #[.int .i64 x, .int .i64 a, .int .i64 b] w fun e w' => e = .returned (.bool r) ∧ w = w' := by
  subst hr
  by_cases h1 : a ≤ x
  · have HE : Hid (decide (a ≤ x ∧ x ≤ b) = decide (x ≤ b)) := Lib.hid (by simp [h1])
    have hd : decide (a ≤ x) = true := by simpa using h1
    go_enter Tryz.func48, Tryz.ntmps48
    go_wp2_with fail
    go_ret
    exact ⟨by rw [HE.out]; rfl, rfl⟩
  · have HE : Hid (decide (a ≤ x ∧ x ≤ b) = false) := Lib.hid (by simp [h1])
    have hd : decide (a ≤ x) = false := by simpa using h1
    rw [HE.out]
    clear HE
    go_enter Tryz.func48, Tryz.ntmps48
    go_wp2_with fail
    go_ret
    exact ⟨rfl, rfl⟩

theorem below_drewN {w w1 : World} {B : Nat} (h : Below B w w1) (q : Nat) : Below B w (w1.drewN q) := ⟨h.os, h.tape, h.output, h.size, h.block⟩

/-- the library's table of powers of ten lies as its text lays it -/
def Tab (w : World) : Prop := Lib.TabIs Tryz.prog w "internal/strconv.uint64pow10" .u64 Lib.pow10Tab
theorem gTab : Tryz.prog.globalNamed "internal/strconv.uint64pow10" = some 3 := by kernel_rfl
theorem Tab.below {w w' : World} (h : Tab w) (hb : Below w.heap.size w w') : Tab w' := by
  unfold Tab Lib.TabIs World.var? at *
  simp only [gTab, Option.bind_some] at h ⊢
  have hlt : 3 < w.heap.size := by
    rcases Nat.lt_or_ge 3 w.heap.size with h' | h'
    · exact h'
    · rw [Array.getElem?_eq_none h'] at h; cases h
  rw [hb.block _ hlt]
  exact h

end Go.Proofs.YteccmlpibbchbaaGreatDoor.Num
/-
  Strings as the cells of a row.
-/
namespace Go.Proofs.YteccmlpibbchbaaGreatDoor.Cs
open Go.RowKit Pl
theorem infoStr : (Tryz.prog.info? 9).map (fun i => (i.zero, i.size, i.bytes)) = some (some (.string ByteArray.empty), 1, 16) := by kernel_rfl
def cs (l : List (List UInt8)) : List Value := l.map fun x => .string (ba x)
theorem cs_snoc (l : List (List UInt8)) (x : List UInt8) : cs (l ++ [x]) = cs l ++ [.string (ba x)] := by simp [cs]
theorem cs_len (l : List (List UInt8)) : (cs l).length = l.length := by simp [cs]
theorem own_below {w w1 : World} {base : Nat} {e : TypeId} {size : Nat} {v : Value} {n : Nat} {xs : List Value} (h : w.ownsRow base e size v n xs) (hb : Below w.heap.size w w1) : w1.ownsRow base e size v n xs := by
  refine ⟨h.1, ?_⟩
  rcases h.2 with h' | ⟨g, cap, cur, e1, e2, e3, e4⟩
  · exact .inl h'
  · refine .inr ⟨g, cap, cur, e1, e2, ?_, e4⟩
    have hg : g < w.heap.size := by
      rcases Nat.lt_or_ge g w.heap.size with hlt | hge
      · exact hlt
      · rw [Array.getElem?_eq_none hge] at e3; cases e3
    exact (hb.block g hg).trans e3
theorem row_base {w : World} {b b' : Nat} {e : TypeId} {size : Nat} {v : Value} {n : Nat} {xs : List Value} (h : b' ≤ b) (ho : w.ownsRow b e size v n xs) : w.ownsRow b' e size v n xs := by
  refine ⟨ho.1, ?_⟩
  rcases ho.2 with h' | ⟨g, cap, cur, e1, e2, e3⟩
  · exact .inl h'
  · exact .inr ⟨g, cap, cur, e1, Nat.le_trans h e2, e3⟩
/-- a row of strings: nothing, or cells in one block -/
theorem own_cells {w : World} {base : Nat} {e : TypeId} {v : Value} {l : List (List UInt8)} (h : w.ownsRow base e 1 v l.length (cs l)) :
    (v = .slice none 0 0 ∧ l = []) ∨ ∃ g c, v = .slice (some ⟨g, 0, none⟩) l.length c ∧ base ≤ g ∧ g < w.heap.size ∧ l.length ≤ c ∧ ∀ j x, l[j]? = some x → w.cell? ⟨g, j, none⟩ = some (.string (ba x)) := by
  rcases h.2 with ⟨rfl, h0⟩ | ⟨g, cap, cur, rfl, hb, hg, hc, _⟩
  · exact .inl ⟨rfl, List.eq_nil_of_length_eq_zero h0⟩
  · refine .inr ⟨g, cap, rfl, hb, (Array.getElem?_eq_some_iff.1 hg).1, hc, fun j x hx => ?_⟩
    have hj : j < l.length := (List.getElem?_eq_some_iff.1 hx).1
    rw [World.ownsRow.cellAt h j (by omega), cs, List.getElem?_map, hx]
    rfl
end Go.Proofs.YteccmlpibbchbaaGreatDoor.Cs
