/-
  Several texts of one claim in one file: Lr, Pll.
-/
import Derived.Test.YteccmlpibbchbaaGreatDoorGLv
import Derived.Test.YteccmlpibbchbaaGreatDoorNfC
import Derived.Test.YteccmlpibbchbaaGreatDoorMarks
import Derived.Deep.RegionHeld3
import Derived.Deep.Slices
import Derived.Deep.Fields
import Derived.ProofKit
import Derived.OpenShut
import Derived.ShutString
import Derived.ChangeOld
import Derived.Lib.SmallJoins
import Derived.Maps.AppendAt
import Derived.Laws.AppendOwn
import Derived.Test.YteccmlpibbchbaaGreatDoorGLb
import Derived.Test.YteccmlpibbchbaaGreatDoorGNu
/-
  Lists of labels: their cells, what a row reads as; eqLabelS, markLabelS, heldLabelS.
-/
namespace Go.Proofs.YteccmlpibbchbaaGreatDoor.Lbr
open Go.ChangeShapes Go.WideShapes Go.ChangeAt Go.RowKit Go.Joins Go.Deep
open NmPl Lab Kpz
open Strs (mkT markText_any grown_trans)
set_option linter.unusedSimpArgs false
set_option linter.unusedVariables false

/-- a label -/
structure Lb4 where
  k : ByteArray
  n : Int
  d : Int
  t : Int
def Lb4.cs (x : Lb4) : List Value := [.string x.k, .int .i64 x.n, .int .i64 x.d, .int .i64 x.t]
/-- the slice at A holds the labels L -/
def RdL (w : World) (A : Option Addr) (L : List Lb4) : Prop := ∀ (j : Nat) (x : Lb4), L[j]? = some x → ∃ g o, A = some ⟨g, o, none⟩ ∧ g < w.heap.size ∧ w.cell? ⟨g, o + j * 4, none⟩ = some (.string x.k) ∧ w.cell? ⟨g, o + j * 4 + 1, none⟩ = some (.int .i64 x.n) ∧ w.cell? ⟨g, o + j * 4 + 2, none⟩ = some (.int .i64 x.d) ∧ w.cell? ⟨g, o + j * 4 + 3, none⟩ = some (.int .i64 x.t)
theorem RdL.below {w w' : World} {A : Option Addr} {L : List Lb4} (h : RdL w A L) (hb : Below w.heap.size w w') : RdL w' A L := by
  intro j x hx
  obtain ⟨g, o, e, hg, c0, c1, c2, c3⟩ := h j x hx
  exact ⟨g, o, e, Nat.lt_of_lt_of_le hg hb.size, (hb.cell (p := ⟨g, o + j * 4, none⟩) hg).trans c0, (hb.cell (p := ⟨g, o + j * 4 + 1, none⟩) hg).trans c1, (hb.cell (p := ⟨g, o + j * 4 + 2, none⟩) hg).trans c2, (hb.cell (p := ⟨g, o + j * 4 + 3, none⟩) hg).trans c3⟩
/-- the four cells of each label -/
def lcells (L : List Lb4) : List Value := L.flatMap Lb4.cs
theorem lcells_cons (x : Lb4) (r : List Lb4) : lcells (x :: r) = .string x.k :: .int .i64 x.n :: .int .i64 x.d :: .int .i64 x.t :: lcells r := rfl
theorem lcells_len (L : List Lb4) : (lcells L).length = L.length * 4 := by
  induction L with
  | nil => rfl
  | cons x r ih => rw [lcells_cons]; simp only [List.length_cons, ih]; omega
theorem lcells_at {L : List Lb4} {j : Nat} {x : Lb4} (h : L[j]? = some x) : (lcells L)[j * 4]? = some (.string x.k) ∧ (lcells L)[j * 4 + 1]? = some (.int .i64 x.n) ∧ (lcells L)[j * 4 + 2]? = some (.int .i64 x.d) ∧ (lcells L)[j * 4 + 3]? = some (.int .i64 x.t) := by
  induction L generalizing j with
  | nil => simp at h
  | cons y r ih =>
    rw [lcells_cons]
    cases j with
    | zero =>
      simp at h
      subst h
      exact ⟨rfl, rfl, rfl, rfl⟩
    | succ j =>
      have := ih (j := j) (by simpa using h)
      rw [show (j + 1) * 4 = j * 4 + 1 + 1 + 1 + 1 by omega]
      simpa using this
theorem lcells_snoc (M : List Lb4) (y : Lb4) : lcells (M ++ [y]) = lcells M ++ y.cs := by
  unfold lcells
  rw [List.flatMap_append]
  simp
theorem lcells_app (M K : List Lb4) : lcells (M ++ K) = lcells M ++ lcells K := by
  unfold lcells
  rw [List.flatMap_append]
/-- the label at place k set -/
theorem lcells_set {L : List Lb4} {k : Nat} (y : Lb4) (h : k < L.length) : ((((lcells L).set (k * 4) (.string y.k)).set (k * 4 + 1) (.int .i64 y.n)).set (k * 4 + 2) (.int .i64 y.d)).set (k * 4 + 3) (.int .i64 y.t) = lcells (L.set k y) := by
  induction L generalizing k with
  | nil => simp at h
  | cons x r ih =>
    cases k with
    | zero => rfl
    | succ k =>
      rw [lcells_cons, show (x :: r).set (k + 1) y = x :: r.set k y from rfl, lcells_cons, ← ih (by simpa using h), show (k + 1) * 4 = k * 4 + 1 + 1 + 1 + 1 by omega]
      simp only [List.set_cons_succ]
/-- a row of the call's own reads as its labels -/
theorem own_rdl {w : World} {base : Nat} {e : TypeId} {v : Value} {n : Nat} {L : List Lb4} (h : w.ownsRow base e 4 v n (lcells L)) :
    ∃ A c, v = .slice A n c ∧ L.length = n ∧ RdL w A L ∧ n ≤ c := by
  have hl : L.length = n := by have := h.1; rw [lcells_len] at this; omega
  rcases h.2 with ⟨rfl, rfl⟩ | ⟨g, cap, cur, rfl, _, hg, hc, _⟩
  · refine ⟨none, 0, rfl, hl, fun j x hx => ?_, Nat.le_refl _⟩
    rw [List.eq_nil_of_length_eq_zero hl] at hx
    simp at hx
  · refine ⟨some ⟨g, 0, none⟩, cap, rfl, hl, fun j x hx => ?_, hc⟩
    have hj : j < L.length := (List.getElem?_eq_some_iff.1 hx).1
    obtain ⟨e0, e1, e2, e3⟩ := lcells_at hx
    have hcell : ∀ i, i < 4 → w.cell? ⟨g, j * 4 + i, none⟩ = (lcells L)[j * 4 + i]? := fun i hi => World.ownsRow.cellAt h (j * 4 + i) (by omega)
    refine ⟨g, 0, rfl, (Array.getElem?_eq_some_iff.1 hg).1, ?_, ?_, ?_, ?_⟩
    · rw [Nat.zero_add]; exact (hcell 0 (by decide)).trans e0
    · rw [Nat.zero_add]; exact (hcell 1 (by decide)).trans e1
    · rw [Nat.zero_add]; exact (hcell 2 (by decide)).trans e2
    · rw [Nat.zero_add]; exact (hcell 3 (by decide)).trans e3
theorem own_rd {w : World} {base : Nat} {e : TypeId} {A : Option Addr} {c n : Nat} {L : List Lb4} (h : w.ownsRow base e 4 (.slice A n c) n (lcells L)) : RdL w A L := by
  obtain ⟨A', c', he, _, hr, _⟩ := own_rdl h
  cases he
  exact hr
theorem infoLab : (Tryz.prog.info? 53).map (fun i => (i.zero, i.size, i.bytes)) = some (some (.agg #[.string ByteArray.empty, .int .i64 0, .int .i64 0, .int .i64 0]), 4, 40) := by kernel_rfl
theorem info_parts {P : Program} {t : TypeId} {z : Option Value} {a b : Nat} (h : (P.info? t).map (fun i => (i.zero, i.size, i.bytes)) = some (z, a, b)) : ∃ i, P.info? t = some i ∧ i.zero = z ∧ i.size = a ∧ i.bytes = b := by
  cases e : P.info? t with
  | none => rw [e] at h; cases h
  | some i => rw [e] at h; cases h; exact ⟨i, rfl, rfl, rfl, rfl⟩
/-- a literal label's cells -/
theorem four_new (w : World) (t : TypeId) (a b c d : Value) : ∀ (j : Nat) u, ([a, b, c, d] : List Value)[j]? = some u → (w.alloc (.cells #[a, b, c, d] t)).cell? ((⟨w.heap.size, 0, none⟩ : Addr).add j) = some u := by
  intro j u hj
  match j, hj with
  | 0, hj => simp at hj; subst hj; simp [Addr.add]
  | 1, hj => simp at hj; subst hj; simp [Addr.add]
  | 2, hj => simp at hj; subst hj; simp [Addr.add]
  | 3, hj => simp at hj; subst hj; simp [Addr.add]

theorem eqLab (k : ByteArray) (n d t : Int) (w : World) :
    Calls Tryz.prog 36 #[lbV k n d t, lbV k n d t] w fun e w' => e = .returned (.bool true) ∧ Below w.heap.size w w' := by
  go_enter Tryz.func36, Tryz.ntmps36
  go_wp2_with fail
  go_ret
  exact ⟨rfl, ((Below.refl _ _).alloc (Nat.le_refl _) _).alloc (by simp) _⟩

set_option maxHeartbeats 2000000 in
/-- two lists of labels that say the same -/
theorem eqLabs (A B : Option Addr) (c d' N : Nat) (L : List Lb4) (w : World) (h : RdL w A L) (h' : RdL w B L) (hn : L.length = N) (hm : N ≤ 1048576) :
    Calls Tryz.prog 13 #[.slice A N c, .slice B N d'] w fun e w' => e = .returned (.bool true) ∧ Kp w w' := by
  have H := Lib.hid h
  have H' := Lib.hid h'
  have HN := Lib.hid hn
  clear h h' hn
  go_enter Tryz.func13, Tryz.ntmps13
  go_wp2_with fail
  go_loopw [5] (fun i wr => ∃ k : Nat, k ≤ N ∧ i = .int .i64 k ∧ Below w.heap.size w wr) (fun i _ => N - (intOf i).toNat)
  case atStart => exact ⟨0, Nat.zero_le _, rfl, Below.refl _ _⟩
  case round =>
    obtain ⟨k, hk, rfl, hb⟩ := hrel
    by_cases hlt : k < N
    · have hkx : k < L.length := by rw [HN.out]; exact hlt
      have hx? := List.getElem?_eq_getElem hkx
      obtain ⟨g, o, rfl, hg, c0, c1, c2, c3⟩ := (H.out.below hb) k L[k] hx?
      obtain ⟨g', o', rfl, hg', d0, d1, d2, d3⟩ := (H'.out.below hb) k L[k] hx?
      clear hx?
      generalize L[k] = x at *
      obtain ⟨l, n, d, t⟩ := x
      dsimp only at *
      have HS : Hid (∀ w', Kp wr w' → ((w'.cell? ⟨g, o + k * 4, none⟩ = some (.string l) ∧ w'.cell? ⟨g, o + k * 4 + 1, none⟩ = some (.int .i64 n) ∧ w'.cell? ⟨g, o + k * 4 + 2, none⟩ = some (.int .i64 d) ∧ w'.cell? ⟨g, o + k * 4 + 3, none⟩ = some (.int .i64 t) ∧ w'.cell? ⟨g', o' + k * 4, none⟩ = some (.string l) ∧ w'.cell? ⟨g', o' + k * 4 + 1, none⟩ = some (.int .i64 n) ∧ w'.cell? ⟨g', o' + k * 4 + 2, none⟩ = some (.int .i64 d) ∧ w'.cell? ⟨g', o' + k * 4 + 3, none⟩ = some (.int .i64 t)) ∧ Kp wr w')) := Lib.hid (fun w' h => ⟨⟨(h.cell (p := ⟨g, o + k * 4, none⟩) hg).trans c0, (h.cell (p := ⟨g, o + k * 4 + 1, none⟩) hg).trans c1, (h.cell (p := ⟨g, o + k * 4 + 2, none⟩) hg).trans c2, (h.cell (p := ⟨g, o + k * 4 + 3, none⟩) hg).trans c3, (h.cell (p := ⟨g', o' + k * 4, none⟩) hg').trans d0, (h.cell (p := ⟨g', o' + k * 4 + 1, none⟩) hg').trans d1, (h.cell (p := ⟨g', o' + k * 4 + 2, none⟩) hg').trans d2, (h.cell (p := ⟨g', o' + k * 4 + 3, none⟩) hg').trans d3⟩, h⟩)
      have HK0 := Lib.hid (kdr (kre wr))
      clear c0 c1 c2 c3 d0 d1 d2 d3
      go_wp2_with fail
      go_region_held3 (fun w' => (w'.cell? ⟨g, o + k * 4, none⟩ = some (.string l) ∧ w'.cell? ⟨g, o + k * 4 + 1, none⟩ = some (.int .i64 n) ∧ w'.cell? ⟨g, o + k * 4 + 2, none⟩ = some (.int .i64 d) ∧ w'.cell? ⟨g, o + k * 4 + 3, none⟩ = some (.int .i64 t) ∧ w'.cell? ⟨g', o' + k * 4, none⟩ = some (.string l) ∧ w'.cell? ⟨g', o' + k * 4 + 1, none⟩ = some (.int .i64 n) ∧ w'.cell? ⟨g', o' + k * 4 + 2, none⟩ = some (.int .i64 d) ∧ w'.cell? ⟨g', o' + k * 4 + 3, none⟩ = some (.int .i64 t)) ∧ Kp wr w')
        (first | exact HS.out _ HK0.out | exact HS.out _ (by assumption))
        (first
          | (go_at_call 36; refine (eqLab l n d t _).mono ?_; rintro e w1 ⟨rfl, b1⟩; have hk1 : Kp wr w1 := ktr HK0.out b1))
      have hb1 := hb.trans (Below.mono hk1 hb.size)
      clear HS HK0 hk1 b1
      (try clear hHeld)
      go_wp2_with fail
      go_roundw
      case rel => exact ⟨k + 1, by omega, by go_num, hb1⟩
      case measure => simp [intOf]; omega
    · go_wp2_with fail
      go_ret
      exact ⟨rfl, hb⟩
theorem eqLabs_own {w : World} {b0 b1 : Nat} {e0 e1 : TypeId} {v0 v1 : Value} {n : Nat} {L : List Lb4} (h0 : w.ownsRow b0 e0 4 v0 n (lcells L)) (h1 : w.ownsRow b1 e1 4 v1 n (lcells L)) (hm : n ≤ 1048576) :
    Calls Tryz.prog 13 #[v0, v1] w fun e w' => e = .returned (.bool true) ∧ Kp w w' := by
  obtain ⟨A, c, rfl, hl, hr, _⟩ := own_rdl h0
  obtain ⟨B, c', rfl, _, hr', _⟩ := own_rdl h1
  exact eqLabs A B c c' n L w hr hr' hl hm
def mk1 (k i : Nat) : Lb4 := ⟨mkT (k + 4 * i), ((k + 4 * i + 1 : Nat) : Int), ((k + 4 * i + 2 : Nat) : Int), ((k + 4 * i + 3 : Nat) : Int)⟩
/-- the marks from k on, as labels -/
def mks (k n : Nat) : List Lb4 := (List.range n).map (mk1 k)
theorem mks_len (k n : Nat) : (mks k n).length = n := by simp [mks]
theorem mks_at {k n j : Nat} (h : j < n) : (mks k n)[j]? = some (mk1 k j) := by simp [mks, h]
theorem mks_set {k j : Nat} {L : List Lb4} (h : j < L.length) : (mks k j ++ L.drop j).set j (mk1 k j) = mks k (j + 1) ++ L.drop (j + 1) := by
  rw [List.set_append_right _ _ (by rw [mks_len]; exact Nat.le_refl _), mks_len, Nat.sub_self, List.drop_eq_getElem_cons h, List.set_cons_zero]
  unfold mks
  rw [List.range_succ, List.map_append, List.append_assoc]
  rfl
theorem grown_below {w w1 w2 : World} {row : Option Nat} (h : w.grownBy w1 row) (hb : Below w1.heap.size w1 w2) : w.grownBy w2 row :=
  ⟨hb.os.trans h.os, hb.tape.trans h.tape, hb.output.trans h.output, Nat.le_trans h.size hb.size, fun k hk hr => (hb.block k (Nat.lt_of_lt_of_le hk h.size)).trans (h.block k hk hr)⟩

set_option maxHeartbeats 4000000 in
theorem mark_own (base : Nat) (v : Value) (L : List Lb4) (k0 n : Nat) (w : World) (h : w.ownsRow base 53 4 v n (lcells L)) (h0 : 0 < k0) (hl : k0 + 4 * n ≤ 4194304) :
    Calls Tryz.prog 15 #[v, .int .i64 k0] w fun e w' => e = .returned (.int .i64 ((k0 + 4 * n : Nat) : Int)) ∧ w'.ownsRow base 53 4 v n (lcells (mks k0 n)) ∧ w.grownBy w' v.ownBlock := by
  have hn : L.length = n := by have := h.1; rw [lcells_len] at this; omega
  rcases h.2 with ⟨rfl, rfl⟩ | ⟨g, cap, cur, rfl, hrest⟩
  · obtain rfl : L = [] := List.eq_nil_of_length_eq_zero hn
    go_enter Tryz.func15, Tryz.ntmps15
    go_wp2_with fail
    go_loop [1, 5] (fun m i => m = .int .i64 k0 ∧ i = .int .i64 0) (fun _ _ => 0)
    case atStart => exact ⟨rfl, rfl⟩
    case round =>
      obtain ⟨rfl, rfl⟩ := hrel
      go_wp2_with fail
      go_ret
      exact ⟨by simp, World.ownsRow_nil _ _ _ _, World.grownBy.refl _ _⟩
  · clear hrest
    have HN := Lib.hid hn
    have H : Hid (w.ownsRow base 53 4 (.slice (some ⟨g, 0, none⟩) n cap) n (lcells (mks k0 0 ++ L.drop 0))) := Lib.hid (by simpa [mks] using h)
    clear hn h cur
    go_enter Tryz.func15, Tryz.ntmps15
    go_wp2_with fail
    go_loopw [1, 5] (fun m i wr => ∃ k : Nat, k ≤ n ∧ i = .int .i64 k ∧ (∃ q : Nat, q = k0 + 4 * k ∧ m = .int .i64 q) ∧ Hid (wr.ownsRow base 53 4 (.slice (some ⟨g, 0, none⟩) n cap) n (lcells (mks k0 k ++ L.drop k))) ∧ w.grownBy wr (some g)) (fun _ i _ => n - (intOf i).toNat)
    case atStart => exact ⟨0, Nat.zero_le _, rfl, ⟨k0, rfl, rfl⟩, H, World.grownBy.refl _ _⟩
    case round =>
      obtain ⟨k, hk, rfl, ⟨q, hq, rfl⟩, ho, hgr⟩ := hrel
      by_cases hlt : k < n
      · have hx : k < L.length := by rw [HN.out]; exact hlt
        have HSt := Lib.hid (mks_set (k := k0) hx)
        have hml : Hid ((mks k0 k ++ L.drop k).length = n) := Lib.hid (by rw [List.length_append, mks_len, List.length_drop, HN.out]; omega)
        have HQ := Lib.hid hq
        have HT := Lib.hid (fun w => markText_any q w (by omega) (by omega))
        have hqb : q + 4 ≤ 4194304 := by omega
        clear hx hq
        go_wp2_with fail
        refine (HT.out _).mono ?_
        rintro e w1 ⟨rfl, b1⟩
        have ho1 := own_kp ho.out b1
        have hpl : (lcells (mks k0 k ++ L.drop k)).length = n * 4 := by rw [lcells_len, hml.out]
        have f0 := World.ownsRow.frozenAt ho1 (k * 4)
        have f1 := World.ownsRow.frozenAt ho1 (k * 4 + 1)
        have f2 := World.ownsRow.frozenAt ho1 (k * 4 + 2)
        have f3 := World.ownsRow.frozenAt ho1 (k * 4 + 3)
        obtain ⟨u0, v0⟩ : ∃ u, w1.cell? ⟨g, k * 4, none⟩ = some u := by rw [World.ownsRow.cellAt ho1 (k * 4) (by omega)]; exact ⟨_, List.getElem?_eq_getElem (by omega)⟩
        obtain ⟨u1, v1⟩ : ∃ u, w1.cell? ⟨g, k * 4 + 1, none⟩ = some u := by rw [World.ownsRow.cellAt ho1 (k * 4 + 1) (by omega)]; exact ⟨_, List.getElem?_eq_getElem (by omega)⟩
        obtain ⟨u2, v2⟩ : ∃ u, w1.cell? ⟨g, k * 4 + 2, none⟩ = some u := by rw [World.ownsRow.cellAt ho1 (k * 4 + 2) (by omega)]; exact ⟨_, List.getElem?_eq_getElem (by omega)⟩
        obtain ⟨u3, v3⟩ : ∃ u, w1.cell? ⟨g, k * 4 + 3, none⟩ = some u := by rw [World.ownsRow.cellAt ho1 (k * 4 + 3) (by omega)]; exact ⟨_, List.getElem?_eq_getElem (by omega)⟩
        have s1 := ho1.stored (k * 4) (.string (mkT q))
        have s2 := s1.1.stored (k * 4 + 1) (.int .i64 ((q : Int) + 1))
        have s3 := s2.1.stored (k * 4 + 2) (.int .i64 ((q : Int) + 2))
        have s4 := s3.1.stored (k * 4 + 3) (.int .i64 ((q : Int) + 3))
        have HS4 := Lib.hid s4.1
        have HG4 := Lib.hid (grown_trans (grown_trans (grown_trans (grown_trans (grown_below hgr b1) s1.2) s2.2) s3.2) s4.2)
        clear s1 s2 s3 s4 ho ho1 b1 hgr hpl
        have e2 : ((q : Int) + 1 + 1) = (q : Int) + 2 := by omega
        have e3 : ((q : Int) + 2 + 1) = (q : Int) + 3 := by omega
        go_wp2_with fail
        go_roundw
        case rel =>
          refine ⟨k + 1, by omega, by go_num, ⟨q + 4, by have := HQ.out; omega, by go_num⟩, Lib.hid ?_, HG4.out⟩
          have hset := lcells_set (L := mks k0 k ++ L.drop k) (k := k) (mk1 k0 k) (by rw [hml.out]; exact hlt)
          rw [HSt.out] at hset
          rw [← hset]
          have hh := HS4.out
          have e0 : mkT q = (mk1 k0 k).k := by rw [HQ.out]; rfl
          have e1 : ((q : Int) + 1) = (mk1 k0 k).n := by rw [HQ.out]; unfold mk1; simp
          have e3 : ((q : Int) + 2) = (mk1 k0 k).d := by rw [HQ.out]; unfold mk1; simp
          have e4 : ((q : Int) + 3) = (mk1 k0 k).t := by rw [HQ.out]; unfold mk1; simp
          rw [e0, e1, e3, e4] at hh
          first | exact hh | (simpa [e0, e1, e3, e4] using hh)
        case measure => (simp [intOf] <;> omega)
      · obtain rfl : k = n := by omega
        have HE : Hid (mks k0 k ++ L.drop k = mks k0 k) := Lib.hid (by rw [List.drop_eq_nil_of_le (by rw [HN.out]; exact Nat.le_refl _), List.append_nil])
        subst hq
        go_wp2_with fail
        go_ret
        exact ⟨rfl, by rw [← HE.out]; exact ho.out, hgr⟩

set_option maxHeartbeats 4000000 in
theorem held_marks (A : Option Addr) (c k0 n : Nat) (w : World) (h : RdL w A (mks k0 n)) (h0 : 0 < k0) (hl : k0 + 4 * n ≤ 4194304) :
    Calls Tryz.prog 20 #[.slice A n c, .int .i64 k0] w fun e w' => e = .returned (.int .i64 ((k0 + 4 * n : Nat) : Int)) ∧ Kp w w' := by
  have H := Lib.hid h
  clear h
  go_enter Tryz.func20, Tryz.ntmps20
  go_wp2_with fail
  go_loopw [1, 5] (fun m i wr => ∃ k : Nat, k ≤ n ∧ i = .int .i64 k ∧ (∃ q : Nat, q = k0 + 4 * k ∧ m = .int .i64 q) ∧ Below w.heap.size w wr) (fun _ i _ => n - (intOf i).toNat)
  case atStart => exact ⟨0, Nat.zero_le _, rfl, ⟨k0, rfl, rfl⟩, Below.refl _ _⟩
  case round =>
    obtain ⟨k, hk, rfl, ⟨q, hq, rfl⟩, hb⟩ := hrel
    by_cases hlt : k < n
    · obtain ⟨g, o, rfl, hg, c0, c1, c2, c3⟩ := (H.out.below hb) k _ (mks_at hlt)
      have e0 : (mk1 k0 k).k = mkT q := by rw [hq]; rfl
      have e1 : (mk1 k0 k).n = (q : Int) + 1 := by rw [hq]; unfold mk1; simp
      have e2 : (mk1 k0 k).d = (q : Int) + 2 := by rw [hq]; unfold mk1; simp
      have e3 : (mk1 k0 k).t = (q : Int) + 3 := by rw [hq]; unfold mk1; simp
      rw [e0] at c0
      rw [e1] at c1
      rw [e2] at c2
      rw [e3] at c3
      have HT := Lib.hid (fun w => markText_any q w (by omega) (by omega))
      have HS : Hid (∀ w', Kp wr w' → (w'.cell? ⟨g, o + k * 4, none⟩ = some (.string (mkT q)) ∧ Kp wr w')) := Lib.hid (fun w' h => ⟨(h.cell (p := ⟨g, o + k * 4, none⟩) hg).trans c0, h⟩)
      have HC : Hid (∀ w', Kp wr w' → (w'.cell? ⟨g, o + k * 4 + 1, none⟩ = some (.int .i64 ((q : Int) + 1)) ∧ w'.cell? ⟨g, o + k * 4 + 2, none⟩ = some (.int .i64 ((q : Int) + 2)) ∧ w'.cell? ⟨g, o + k * 4 + 3, none⟩ = some (.int .i64 ((q : Int) + 3)))) := Lib.hid (fun w' h => ⟨(h.cell (p := ⟨g, o + k * 4 + 1, none⟩) hg).trans c1, (h.cell (p := ⟨g, o + k * 4 + 2, none⟩) hg).trans c2, (h.cell (p := ⟨g, o + k * 4 + 3, none⟩) hg).trans c3⟩)
      have HK0 := Lib.hid (kdr (kre wr))
      have HQ := Lib.hid hq
      have hI0 : (0 : Int) ≤ (k : Int) := Int.natCast_nonneg _
      have hI1 : (k : Int) < (n : Int) := by omega
      clear c0 c1 c2 c3 e0 e1 e2 e3 hq
      go_wp2_with fail
      go_region_held3 (fun w' => w'.cell? ⟨g, o + k * 4, none⟩ = some (.string (mkT q)) ∧ Kp wr w')
        (first | exact HS.out _ HK0.out | exact HS.out _ (by assumption))
        (first
          | (go_at_call 38; (with_reducible refine (HT.out _).mono ?_); rintro e w1 ⟨rfl, b1⟩; have hk1 : Kp wr w1 := ktr HK0.out b1)
          | fail)
      (try clear hHeld)
      obtain ⟨d1, d2, d3⟩ := HC.out _ hk1
      have hb1 := hb.trans (Below.mono hk1 hb.size)
      have hqb : q ≤ 4194304 := by have := HQ.out; omega
      have e2 : ((q : Int) + 1 + 1) = (q : Int) + 2 := by omega
      have e3 : ((q : Int) + 2 + 1) = (q : Int) + 3 := by omega
      clear hk1 b1 HS HC HK0
      go_wp2_with fail
      go_roundw
      case rel => exact ⟨k + 1, by omega, by go_num, ⟨q + 4, by have := HQ.out; omega, by go_num⟩, hb1⟩
      case measure => (simp [intOf] <;> omega)
    · obtain rfl : k = n := by omega
      subst hq
      go_wp2_with fail
      go_ret
      exact ⟨rfl, hb⟩
theorem held_own {w : World} {base : Nat} {v : Value} {n k0 : Nat} (h : w.ownsRow base 53 4 v n (lcells (mks k0 n))) (h0 : 0 < k0) (hl : k0 + 4 * n ≤ 4194304) :
    Calls Tryz.prog 20 #[v, .int .i64 k0] w fun e w' => e = .returned (.int .i64 ((k0 + 4 * n : Nat) : Int)) ∧ Kp w w' := by
  obtain ⟨A, c, rfl, _, hr, _⟩ := own_rdl h
  exact held_marks A c k0 n w hr h0 hl
end Go.Proofs.YteccmlpibbchbaaGreatDoor.Lbr
/-
  PlainLabels of both.
-/
namespace Go.Proofs.YteccmlpibbchbaaGreatDoor.Lbr
open Go.ChangeShapes Go.WideShapes Go.ChangeAt Go.RowKit Go.Joins Go.Deep
open NmPl Lab Kpz Strs Help Name Nms Ens Lbs
open Strs (mkT markText_any grown_trans)
set_option linter.unusedSimpArgs false
set_option linter.unusedVariables false

/-- the first labels -/
def plL (L : List En) (z : Int) : List Lb4 := L.map fun x => ⟨x.key, z, 1, 0⟩
theorem plL_len (L : List En) (z : Int) : (plL L z).length = L.length := by simp [plL]
theorem plL_take {L : List En} {z : Int} {k : Nat} {x : En} (h : L[k]? = some x) : (plL L z).take (k + 1) = (plL L z).take k ++ [⟨x.key, z, 1, 0⟩] := by
  rw [List.take_add_one]
  congr 1
  simp [plL, h]
theorem plL_k {L M : List En} (z : Int) (h : L.map En.key4 = M.map En.key4) : plL L z = plL M z := by
  have e : ∀ K : List En, plL K z = (K.map En.key4).map fun k => ⟨k.1, z, 1, 0⟩ := fun K => by
    unfold plL
    rw [List.map_map]
    rfl
  rw [e, e, h]
theorem empty_row (w : World) (base : Nat) (h : base ≤ w.heap.size) : (w.alloc (.cells #[] 53)).ownsRow base 53 4 (.slice (some ⟨w.heap.size, 0, none⟩) 0 0) 0 (lcells []) := by
  have h9 := World.ownsRow_lit (base := base) (e := 53) (size := 4) w #[] 0 h (Nat.zero_le _) rfl
  simpa [lcells] using h9

set_option maxRecDepth 100000 in
set_option maxHeartbeats 8000000 in
theorem plain_i (A : Option Addr) (c N : Nat) (L : List En) (z : Int) (w : World) (h : RdE w A L) (hn : L.length = N) (hm : N ≤ 1048576) :
    Calls Tryz.prog 59 #[.agg #[.slice A N c], .int .i64 z] w fun e w' => ∃ v, e = .returned v ∧ w'.ownsRow w.heap.size 53 4 v N (lcells (plL L z)) ∧ Kp w w' := by
  obtain ⟨i0, hi, hz0, hz1, hz2⟩ := info_parts infoLab
  have hb0 : Kp w (w.alloc (.cells #[.slice A N c] 33)) := kal (kre _) _
  have hc0 := (box1 w (.slice A N c) 33).1
  have hs0 : w.heap.size < (w.alloc (.cells #[.slice A N c] 33)).heap.size := by simp
  have H := Lib.hid h
  have HN := Lib.hid hn
  have HL : Hid ((plL L z).length = N) := Lib.hid (by rw [plL_len, hn])
  clear h hn
  go_enter Tryz.func59, Tryz.ntmps59
  go_upto_region 1 with fail
  generalize w.alloc (.cells #[.slice A N c] 33) = w0 at hb0 hc0 hs0 ⊢
  have ho0 := empty_row w0 w0.heap.size (Nat.le_refl _)
  have hb1 : Kp w0 (w0.alloc (.cells #[] 53)) := kal (kre _) _
  have HC : Hid (∀ W, Kp w0 W → W.cell? ⟨w.heap.size, 0, none⟩ = some (.slice A N c)) := Lib.hid (fun W h => (h.cell (p := ⟨w.heap.size, 0, none⟩) hs0).trans hc0)
  have hc1 := HC.out _ hb1
  go_upto_region 2 with fail
  generalize hW : w0.alloc (.cells #[] 53) = w1 at ho0 hb1 hc1 ⊢
  clear hW hc0
  go_wp2_with fail
  go_loopw [5, 12] (fun v i wr => ∃ k : Nat, k ≤ N ∧ i = .int .i64 k ∧ wr.ownsRow w0.heap.size 53 4 v k (lcells ((plL L z).take k)) ∧ Kp w0 wr) (fun _ i _ => N - (intOf i).toNat)
  case atStart => exact ⟨0, Nat.zero_le _, rfl, by simpa using ho0, hb1⟩
  case round =>
    obtain ⟨k, hk, rfl, hown, kw⟩ := hrel
    have hcw := HC.out _ kw
    by_cases hlt : k < N
    · have hkx : k < L.length := by rw [HN.out]; exact hlt
      have hx? := List.getElem?_eq_getElem hkx
      obtain ⟨_, g, o, rfl, hg, c0, c1, c2, c3, c4, c5, c6, c7, c8, c9, c10, c11, c12, c13⟩ := (H.out.below (ktr hb0 kw)) k L[k] hx?
      have HX := Lib.hid (plL_take (z := z) hx?)
      clear hx?
      generalize L[k] = x at *
      obtain ⟨key, kind, auA, auN, auc, auL, edA, edN, edc, edL, ti, co, pu, y, m, d, ci, vol, pa, cr⟩ := x
      dsimp only at c0 c1 c2 c3 c4 c5 c6 c7 c8 c9 c10 c11 c12 c13
      have HX2 : Hid ((plL L z).take (k + 1) = (plL L z).take k ++ [⟨key, z, 1, 0⟩]) := HX
      clear HX
      have b5 : Kp wr (wr.alloc (.cells #[.string key, .int .i64 kind, .slice auA auN auc, .slice edA edN edc, .string ti, .string co, .string pu, .int .i64 y, .int .i64 m, .int .i64 d, .bool ci, .int .i64 vol, .string pa, .string cr] 58)) := kal (kre _) _
      have e5 : (wr.alloc (.cells #[.string key, .int .i64 kind, .slice auA auN auc, .slice edA edN edc, .string ti, .string co, .string pu, .int .i64 y, .int .i64 m, .int .i64 d, .bool ci, .int .i64 vol, .string pa, .string cr] 58)).cell? ⟨wr.heap.size, 0, none⟩ = some (.string key) := by simp
      have hown2 := own_kp hown b5
      have kw2 := ktr kw b5
      have hcw2 := HC.out _ kw2
      go_upto_region 5 with fail
      generalize hW2 : wr.alloc (.cells #[.string key, .int .i64 kind, .slice auA auN auc, .slice edA edN edc, .string ti, .string co, .string pu, .int .i64 y, .int .i64 m, .int .i64 d, .bool ci, .int .i64 vol, .string pa, .string cr] 58) = w2 at hown2 kw2 e5 b5 hcw2 ⊢
      clear hW2 b5
      have hsz := ksz kw2
      clear hown
      go_wp2_with (first
        | (at_builtin; refine wpList_append_own _ rfl _ _ 35 rfl w0.heap.size 53 i0 _ 4 40 Tryz.underlying35 hi hz0 hz1 hz2 rfl (by decide) _ _ _ rfl (hown2.alloc _) ⟨w2.heap.size, 0, none⟩ 1 1 [.string key, .int .i64 z, .int .i64 1, .int .i64 0] rfl rfl (four_new _ _ _ _ _ _) (by simp [Value.oneCell']) (by unfold maxLen; omega) (by omega) (by simp; omega) ?_; intro v' w3 hown' hgrow _)
        | go_in)
      go_roundw
      case rel =>
        refine ⟨k + 1, by omega, by go_num, ?_, ?_⟩
        · rw [HX2.out, lcells_snoc]
          exact hown'
        · exact kgr (kal kw2 _) hgrow (fun j hj => by have := (hown2.lt j hj).1; omega)
      case measure => simp [intOf]; omega
    · obtain rfl : k = N := by omega
      have HT : Hid ((plL L z).take k = plL L z) := Lib.hid (List.take_of_length_le (by rw [HL.out]; exact Nat.le_refl _))
      rw [HT.out] at hown
      go_wp2_with fail
      go_ret
      exact ⟨_, rfl, Cs.row_base (Nat.le_of_lt hs0) hown, ktr hb0 kw⟩

set_option maxRecDepth 100000 in
set_option maxHeartbeats 8000000 in
theorem plain_s (A : Option Addr) (c N : Nat) (L : List En) (z : Int) (w : World) (h : RdE w A L) (hn : L.length = N) (hm : N ≤ 1048576) :
    Calls Tryz.prog 58 #[.agg #[.slice A N c], .int .i64 z] w fun e w' => ∃ v, e = .returned v ∧ w'.ownsRow w.heap.size 53 4 v N (lcells (plL L z)) ∧ Kp w w' := by
  obtain ⟨i0, hi, hz0, hz1, hz2⟩ := info_parts infoLab
  have hb0 : Kp w (w.alloc (.cells #[.slice A N c] 33)) := kal (kre _) _
  have hc0 := (box1 w (.slice A N c) 33).1
  have hs0 : w.heap.size < (w.alloc (.cells #[.slice A N c] 33)).heap.size := by simp
  have H := Lib.hid h
  have HN := Lib.hid hn
  have HL : Hid ((plL L z).length = N) := Lib.hid (by rw [plL_len, hn])
  clear h hn
  go_enter Tryz.func58, Tryz.ntmps58
  go_upto_region 1 with fail
  generalize w.alloc (.cells #[.slice A N c] 33) = w0 at hb0 hc0 hs0 ⊢
  have ho0 := empty_row w0 w0.heap.size (Nat.le_refl _)
  have hb1 : Kp w0 (w0.alloc (.cells #[] 53)) := kal (kre _) _
  have HC : Hid (∀ W, Kp w0 W → W.cell? ⟨w.heap.size, 0, none⟩ = some (.slice A N c)) := Lib.hid (fun W h => (h.cell (p := ⟨w.heap.size, 0, none⟩) hs0).trans hc0)
  have hc1 := HC.out _ hb1
  go_upto_region 2 with fail
  generalize hW : w0.alloc (.cells #[] 53) = w1 at ho0 hb1 hc1 ⊢
  clear hW hc0
  go_wp2_with fail
  go_loopw [5, 6] (fun v i wr => ∃ k : Nat, k ≤ N ∧ i = .int .i64 k ∧ wr.ownsRow w0.heap.size 53 4 v k (lcells ((plL L z).take k)) ∧ Kp w0 wr) (fun _ i _ => N - (intOf i).toNat)
  case atStart => exact ⟨0, Nat.zero_le _, rfl, by simpa using ho0, hb1⟩
  case round =>
    obtain ⟨k, hk, rfl, hown, kw⟩ := hrel
    have hcw := HC.out _ kw
    by_cases hlt : k < N
    · have hkx : k < L.length := by rw [HN.out]; exact hlt
      have hx? := List.getElem?_eq_getElem hkx
      obtain ⟨_, g, o, rfl, hg, c0, c1, c2, c3, c4, c5, c6, c7, c8, c9, c10, c11, c12, c13⟩ := (H.out.below (ktr hb0 kw)) k L[k] hx?
      have HX := Lib.hid (plL_take (z := z) hx?)
      clear hx?
      generalize L[k] = x at *
      obtain ⟨key, kind, auA, auN, auc, auL, edA, edN, edc, edL, ti, co, pu, y, m, d, ci, vol, pa, cr⟩ := x
      dsimp only at c0 c1 c2 c3 c4 c5 c6 c7 c8 c9 c10 c11 c12 c13
      have HX2 : Hid ((plL L z).take (k + 1) = (plL L z).take k ++ [⟨key, z, 1, 0⟩]) := HX
      clear HX
      have kw2 := kw
      have hown2 := hown
      have hcw2 := hcw
      generalize hW2 : wr = w2 at *
      clear hW2
      have hsz := ksz kw2
      clear hown
      go_wp2_with (first
        | (at_builtin; refine wpList_append_own _ rfl _ _ 35 rfl w0.heap.size 53 i0 _ 4 40 Tryz.underlying35 hi hz0 hz1 hz2 rfl (by decide) _ _ _ rfl (hown2.alloc _) ⟨w2.heap.size, 0, none⟩ 1 1 [.string key, .int .i64 z, .int .i64 1, .int .i64 0] rfl rfl (four_new _ _ _ _ _ _) (by simp [Value.oneCell']) (by unfold maxLen; omega) (by omega) (by simp; omega) ?_; intro v' w3 hown' hgrow _)
        | go_in)
      go_roundw
      case rel =>
        refine ⟨k + 1, by omega, by go_num, ?_, ?_⟩
        · rw [HX2.out, lcells_snoc]
          exact hown'
        · exact kgr (kal kw2 _) hgrow (fun j hj => by have := (hown2.lt j hj).1; omega)
      case measure => simp [intOf]; omega
    · obtain rfl : k = N := by omega
      have HT : Hid ((plL L z).take k = plL L z) := Lib.hid (List.take_of_length_le (by rw [HL.out]; exact Nat.le_refl _))
      rw [HT.out] at hown
      go_wp2_with fail
      go_ret
      exact ⟨_, rfl, Cs.row_base (Nat.le_of_lt hs0) hown, ktr hb0 kw⟩

/-- a valid library and limit -/
def asked (L : List En) (z : Int) : Bool := okLib L && decide (1 ≤ z ∧ z ≤ 4)
theorem asked_k {L M : List En} (z : Int) (h : L.map En.key4 = M.map En.key4) : asked L z = asked M z := by unfold asked; rw [okLib_k h]
/-- what PlainLabels answers -/
def plT (L : List En) (z : Int) : List Lb4 := if asked L z = true then plL L z else []
theorem plT_k {L M : List En} (z : Int) (h : L.map En.key4 = M.map En.key4) : plT L z = plT M z := by unfold plT; rw [asked_k z h, plL_k z h]
theorem plT_len (L : List En) (z : Int) : (plT L z).length ≤ L.length := by
  unfold plT
  split
  · rw [plL_len]; exact Nat.le_refl _
  · exact Nat.zero_le _
theorem len4_of {α : Type} {L : List En} {z : Int} {M : List α} (h : M.length ≤ L.length) (h0 : asked L z = false → M = []) : 1 + 4 * M.length ≤ 4194304 := by
  cases h1 : asked L z with
  | false => rw [h0 h1]; simp
  | true =>
    unfold asked at h1
    rw [Bool.and_eq_true] at h1
    have h2 := h1.1
    unfold okLib at h2
    rw [Bool.and_eq_true, decide_eq_true_eq] at h2
    omega
theorem plT_len4 (L : List En) (z : Int) : 1 + 4 * (plT L z).length ≤ 4194304 :=
  len4_of (z := z) (plT_len L z) (fun h => if_neg (by rw [h]; exact Bool.false_ne_true))
def PlP (L : List En) (z : Int) (w : World) (e : Ending) (w' : World) : Prop := ∃ v, e = .returned (.tuple #[v, .bool (asked L z)]) ∧ w'.ownsRow w.heap.size 53 4 v (plT L z).length (lcells (plT L z)) ∧ Kp w w'
set_option maxHeartbeats 1000000 in
theorem asked_s (A : Option Addr) (c N : Nat) (L : List En) (z : Int) (w : World) (h : RdE w A L) (hn : L.length = N) (hm : N ≤ 1048576) (hz : ∀ x ∈ L, x.sz ≤ 1048576) :
    Calls Tryz.prog 41 #[.agg #[.slice A N c], .int .i64 z] w fun e w' => e = .returned (.bool (asked L z)) ∧ Kp w w' := by
  have hb0 : Kp w (w.alloc (.cells #[.slice A N c] 33)) := kal (kre _) _
  have HV := Lib.hid (l4Good_any A c N L _ (h.below hb0) hn hm hz)
  have HI := Lib.hid (fun w => Dt.l1In_any z 1 4 _ w rfl)
  unfold asked
  generalize okLib L = r1 at *
  generalize decide (1 ≤ z ∧ z ≤ 4) = r2 at *
  clear h hn hz
  go_enter Tryz.func41, Tryz.ntmps41
  go_wp2_with fail
  refine HV.out.mono ?_
  rintro e w1 ⟨rfl, b1⟩
  cases r1 with
  | false =>
    go_wp2_with fail
    go_ret
    exact ⟨rfl, ktr hb0 b1⟩
  | true =>
    go_wp2_with fail
    refine (HI.out _).mono ?_
    rintro e w2 ⟨rfl, rfl⟩
    go_wp2_with fail
    go_ret
    exact ⟨by simp, ktr hb0 b1⟩

end Go.Proofs.YteccmlpibbchbaaGreatDoor.Lbr
