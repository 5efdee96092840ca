/-
  Contracts of MissingFields of both.
-/
import Derived.Test.YthndeflimmlcaaaGreatDoorFt
import Derived.Test.YthndeflimmlcaaaGreatDoorTmE
import Derived.Test.YthndeflimmlcaaaGreatDoorEn3
import Derived.Maps.AppendAt
namespace Go.Proofs.YthndeflimmlcaaaGreatDoor.Aps
open Go.RowKit Strs Name Nms Ens
set_option linter.unusedVariables false
set_option linter.unusedSimpArgs false

/-- since W0, when the row lay in row0, the row alone has been written; it lies there still, or in memory that is newer than W0 -/
structure Rw (W0 : World) (row0 : Option Nat) (w : World) (v : Value) : Prop where
  gr : W0.grownBy w row0
  own : v.ownBlock = row0 ∨ ∃ b, v.ownBlock = some b ∧ W0.heap.size ≤ b
theorem Rw.start (W0 : World) (v : Value) : Rw W0 v.ownBlock W0 v := ⟨World.grownBy.refl _ _, .inl rfl⟩
theorem Rw.below {W0 w w1 : World} {row0 : Option Nat} {v : Value} (h : Rw W0 row0 w v) (hb : Below w.heap.size w w1) : Rw W0 row0 w1 v := ⟨grown_below h.gr ⟨hb.os, hb.tape, hb.output, hb.size, hb.block⟩, h.own⟩
theorem Rw.appended {W0 w w' : World} {row0 : Option Nat} {v v' : Value} (h : Rw W0 row0 w v) (hg : w.grownBy w' v.ownBlock) (hat : v'.ownBlock = v.ownBlock ∨ v'.ownBlock = some w.heap.size) : Rw W0 row0 w' v' := by
  refine ⟨⟨hg.os.trans h.gr.os, hg.tape.trans h.gr.tape, hg.output.trans h.gr.output, Nat.le_trans h.gr.size hg.size, fun k hk hne => ?_⟩, ?_⟩
  · refine (hg.block k (Nat.lt_of_lt_of_le hk h.gr.size) ?_).trans (h.gr.block k hk hne)
    rcases h.own with h1 | ⟨b, h1, h2⟩
    · rw [h1]; exact hne
    · rw [h1]; intro e; cases e; omega
  · rcases hat with h1 | h1
    · rw [h1]; exact h.own
    · exact .inr ⟨_, h1, h.gr.size⟩
theorem Rw.block {W0 w : World} {row0 : Option Nat} {v : Value} (h : Rw W0 row0 w v) {k : Nat} (hk : k < W0.heap.size) (hne : row0 ≠ some k) : w.heap[k]? = W0.heap[k]? := h.gr.block k hk (fun e => hne e.symm)
theorem Rw.toBelow {W0 w : World} {row0 : Option Nat} {v : Value} (h : Rw W0 row0 w v) {B : Nat} (hB : B ≤ W0.heap.size) (hr : ∀ k, row0 = some k → B ≤ k) : Below B W0 w :=
  ⟨h.gr.os, h.gr.tape, h.gr.output, h.gr.size, fun k hk => h.block (by omega) (fun e => by have := hr k e; omega)⟩
theorem _root_.Go.Proofs.YthndeflimmlcaaaGreatDoor.Ens.E14.blk {W w' : World} {b : Nat} {e : En} (h : E14 W b e) (hb : w'.heap[b]? = W.heap[b]?) : E14 w' b e := by
  obtain ⟨hl, c0, c1, c2, c3, c4, c5, c6, c7, c8, c9, c10, c11, c12, c13⟩ := h
  have key : ∀ o, w'.cell? ⟨b, o, none⟩ = W.cell? ⟨b, o, none⟩ := fun o => World.cell?_of_block (a := ⟨b, o, none⟩) hb
  have hl' : b < w'.heap.size := by
    rcases Nat.lt_or_ge b w'.heap.size with h | h
    · exact h
    · rw [Array.getElem?_eq_none h] at hb
      rw [Array.getElem?_eq_getElem hl] at hb
      cases hb
  exact ⟨hl', (key _).trans c0, (key _).trans c1, (key _).trans c2, (key _).trans c3, (key _).trans c4, (key _).trans c5, (key _).trans c6, (key _).trans c7, (key _).trans c8, (key _).trans c9, (key _).trans c10, (key _).trans c11, (key _).trans c12, (key _).trans c13⟩
end Go.Proofs.YthndeflimmlcaaaGreatDoor.Aps

namespace Go.Proofs.YthndeflimmlcaaaGreatDoor.Fld
open Go.RowKit Pl Strs Help Name Stands SplitPl NmPl Word Part NGood Forms Nms Jn Kt Ens Aps
open Num (Tab Tab.below)
set_option linter.unusedSimpArgs false
set_option linter.unusedVariables false

/-- the fields that a kind needs -/
def need (k : Int) : List ByteArray := if k = 2 then [⟨#[97, 117, 116, 104, 111, 114, 115]⟩, ⟨#[116, 105, 116, 108, 101]⟩, ⟨#[99, 111, 110, 116, 97, 105, 110, 101, 114]⟩, ⟨#[100, 97, 116, 101]⟩, ⟨#[118, 111, 108, 117, 109, 101]⟩] else if k = 3 then [⟨#[97, 117, 116, 104, 111, 114, 115]⟩, ⟨#[116, 105, 116, 108, 101]⟩, ⟨#[99, 111, 110, 116, 97, 105, 110, 101, 114]⟩, ⟨#[101, 100, 105, 116, 111, 114, 115]⟩, ⟨#[100, 97, 116, 101]⟩] else [⟨#[97, 117, 116, 104, 111, 114, 115]⟩, ⟨#[116, 105, 116, 108, 101]⟩, ⟨#[112, 117, 98, 108, 105, 115, 104, 101, 114]⟩, ⟨#[100, 97, 116, 101]⟩]
/-- the fields that an entry needs -/
def reqW (e : En) : List ByteArray := if e.kind = 2 then [⟨#[97, 117, 116, 104, 111, 114, 115]⟩, ⟨#[116, 105, 116, 108, 101]⟩, ⟨#[99, 111, 110, 116, 97, 105, 110, 101, 114]⟩, ⟨#[100, 97, 116, 101]⟩, ⟨#[118, 111, 108, 117, 109, 101]⟩] else if e.kind = 3 then [⟨#[97, 117, 116, 104, 111, 114, 115]⟩, ⟨#[116, 105, 116, 108, 101]⟩, ⟨#[99, 111, 110, 116, 97, 105, 110, 101, 114]⟩, ⟨#[101, 100, 105, 116, 111, 114, 115]⟩, ⟨#[100, 97, 116, 101]⟩] else if e.kind = 1 ∧ 0 < e.edN then [⟨#[116, 105, 116, 108, 101]⟩, ⟨#[112, 117, 98, 108, 105, 115, 104, 101, 114]⟩, ⟨#[100, 97, 116, 101]⟩] else [⟨#[97, 117, 116, 104, 111, 114, 115]⟩, ⟨#[116, 105, 116, 108, 101]⟩, ⟨#[112, 117, 98, 108, 105, 115, 104, 101, 114]⟩, ⟨#[100, 97, 116, 101]⟩]
def emp (e : En) (f : ByteArray) : Bool := (fldS e f).toList == []
/-- does the model take the field for missing -/
def misB (e : En) (f : ByteArray) : Bool := emp e f && (!(f.toList == [97, 117, 116, 104, 111, 114, 115]) || (!(e.kind == 1) || (e.edN == 0)))
theorem miss_eq (e : En) : (need e.kind).filter (misB e) = (reqW e).filter (emp e) := by
  unfold need reqW
  by_cases h2 : e.kind = 2
  · rw [if_pos h2, if_pos h2]
    congr 1
    funext f
    simp [misB, h2]
  · rw [if_neg h2, if_neg h2]
    by_cases h3 : e.kind = 3
    · rw [if_pos h3, if_pos h3]
      congr 1
      funext f
      simp [misB, h3]
    · rw [if_neg h3, if_neg h3]
      by_cases h1 : e.kind = 1 ∧ 0 < e.edN
      · rw [if_pos h1]
        have he : (e.edN == 0) = false := by simp; omega
        have e0 : misB e ⟨#[97, 117, 116, 104, 111, 114, 115]⟩ = false := by
          have hl : (ByteArray.toList ⟨#[97, 117, 116, 104, 111, 114, 115]⟩ == [97, 117, 116, 104, 111, 114, 115]) = true := (lit_iff _ _).2 rfl
          unfold misB
          rw [hl, he, h1.1]
          simp
        have en : ∀ f : ByteArray, f ≠ ⟨#[97, 117, 116, 104, 111, 114, 115]⟩ → misB e f = emp e f := fun f hf => by
          have hl : (f.toList == [97, 117, 116, 104, 111, 114, 115]) = false := by
            cases h : (f.toList == [97, 117, 116, 104, 111, 114, 115]) with
            | false => rfl
            | true => exact absurd ((lit_iff _ _).1 h) hf
          unfold misB
          rw [hl]
          simp
        rw [List.filter_cons_of_neg (by rw [e0]; decide)]
        apply List.filter_congr
        intro f hf
        apply en
        rintro rfl
        simp only [List.mem_cons, List.not_mem_nil, or_false, ByteArray.mk.injEq] at hf
        revert hf
        decide
      · rw [if_neg h1]
        congr 1
        funext f
        have hb : ((!(e.kind == 1)) || (e.edN == 0)) = true := by
          simp
          omega
        unfold misB
        rw [hb]
        simp
/-- what MissingFields answers -/
def msL (e : En) : List ByteArray := if okE e then (reqW e).filter (emp e) else []
theorem reqW_len (e : En) : (reqW e).length ≤ 5 := by
  unfold reqW
  split
  · decide
  · split
    · decide
    · split <;> decide
theorem need_len (k : Int) : (need k).length ≤ 5 := by
  unfold need
  split
  · decide
  · split <;> decide
theorem msL_len (e : En) : (msL e).length ≤ 5 := by
  unfold msL
  split
  · exact Nat.le_trans (List.length_filter_le _ _) (reqW_len e)
  · decide
theorem filter_take {α : Type} (p : α → Bool) {l : List α} {k : Nat} {x : α} (h : l[k]? = some x) : (l.take (k + 1)).filter p = (l.take k).filter p ++ (if p x then [x] else []) := by
  rw [List.take_add_one, h, List.filter_append]
  congr 1
  simp only [Option.toList]
  cases hp : p x <;> simp [hp]
theorem msL_kk {x y : En} (h : x.key4 = y.key4) (hl : x.edL.length = x.edN) (hl' : y.edL.length = y.edN) : msL x = msL y := by
  have hf : emp x = emp y := by funext f; unfold emp; rw [fldS_kk f h]
  obtain ⟨h1, h2, h3, h4, h5⟩ := key4_parts h
  have hd : x.edN = y.edN := by rw [← hl, ← hl', len_of_key h4]
  unfold msL reqW
  rw [okE_kk h, hf, h2, hd]
theorem rds_at1 {w : World} {g : Nat} {cs : Array Value} {t : TypeId} {xs : List ByteArray} (hg : g = w.heap.size) (h : cs = (xs.map Value.string).toArray) : RdS (w.alloc (.cells cs t)) (some ⟨g, 0, none⟩) xs := by
  subst hg
  exact rds_lit h
theorem rds_at2 {w : World} {g : Nat} {o : Obj} (hg : g = w.heap.size) : g < (w.alloc o).heap.size := by
  subst hg
  simp

set_option maxHeartbeats 2000000 in
theorem requiredFields (key : ByteArray) (kind : Int) (auA : Option Addr) (auN auc : Nat) (auL : List Nm) (edA : Option Addr) (edN edc : Nat) (edL : List Nm) (ti : ByteArray) (co : ByteArray) (pu : ByteArray) (y : Int) (m : Int) (d : Int) (ci : Bool) (vol : Int) (pa : ByteArray) (cr : ByteArray) (w : World) :
    Calls Tryz.prog 59 #[.agg #[.string key, .int .i64 kind, .slice auA auN auc, .slice edA edN edc, .string ti, .string co, .string pu, .int .i64 y, .int .i64 m, .int .i64 d, .bool ci, .int .i64 vol, .string pa, .string cr]] w fun e w' => ∃ g, e = .returned (.slice (some ⟨g, 0, none⟩) (reqW (⟨key, kind, auA, auN, auc, auL, edA, edN, edc, edL, ti, co, pu, y, m, d, ci, vol, pa, cr⟩ : En)).length (reqW (⟨key, kind, auA, auN, auc, auL, edA, edN, edc, edL, ti, co, pu, y, m, d, ci, vol, pa, cr⟩ : En)).length) ∧ RdS w' (some ⟨g, 0, none⟩) (reqW (⟨key, kind, auA, auN, auc, auL, edA, edN, edc, edL, ti, co, pu, y, m, d, ci, vol, pa, cr⟩ : En)) ∧ w.heap.size ≤ g ∧ g < w'.heap.size ∧ Below w.heap.size w w' := by
  have HB := Lib.hid ((Below.refl _ w).alloc (Nat.le_refl _) (.cells #[.string key, .int .i64 kind, .slice auA auN auc, .slice edA edN edc, .string ti, .string co, .string pu, .int .i64 y, .int .i64 m, .int .i64 d, .bool ci, .int .i64 vol, .string pa, .string cr] 34))
  have hbl : ∀ (w : World) (o : Obj), Below w.heap.size w (w.alloc o) := fun w o => (Below.refl _ w).alloc (Nat.le_refl _) o
  have HBL := Lib.hid hbl
  clear hbl
  by_cases h2 : kind = 2
  · have HR : Hid (reqW (⟨key, kind, auA, auN, auc, auL, edA, edN, edc, edL, ti, co, pu, y, m, d, ci, vol, pa, cr⟩ : En) = [⟨#[97, 117, 116, 104, 111, 114, 115]⟩, ⟨#[116, 105, 116, 108, 101]⟩, ⟨#[99, 111, 110, 116, 97, 105, 110, 101, 114]⟩, ⟨#[100, 97, 116, 101]⟩, ⟨#[118, 111, 108, 117, 109, 101]⟩]) := Lib.hid (if_pos h2)
    subst h2
    go_enter Tryz.func59, Tryz.ntmps59
    go_wp2_with fail
    go_ret
    rw [HR.out]
    exact ⟨_, rfl, rds_at1 (by simp) rfl, by omega, rds_at2 (by simp), HB.out.trans ((HBL.out _ _).mono HB.out.size)⟩
  · by_cases h3 : kind = 3
    · have HR : Hid (reqW (⟨key, kind, auA, auN, auc, auL, edA, edN, edc, edL, ti, co, pu, y, m, d, ci, vol, pa, cr⟩ : En) = [⟨#[97, 117, 116, 104, 111, 114, 115]⟩, ⟨#[116, 105, 116, 108, 101]⟩, ⟨#[99, 111, 110, 116, 97, 105, 110, 101, 114]⟩, ⟨#[101, 100, 105, 116, 111, 114, 115]⟩, ⟨#[100, 97, 116, 101]⟩]) := Lib.hid ((if_neg h2).trans (if_pos h3))
      subst h3
      clear h2
      go_enter Tryz.func59, Tryz.ntmps59
      go_wp2_with fail
      go_ret
      rw [HR.out]
      exact ⟨_, rfl, rds_at1 (by simp) rfl, by omega, rds_at2 (by simp), HB.out.trans ((HBL.out _ _).mono HB.out.size)⟩
    · have hk2 : (kind == 2) = false := by simpa using h2
      have hk3 : (kind == 3) = false := by simpa using h3
      by_cases h1 : kind = 1
      · by_cases hp : 0 < edN
        · have HR : Hid (reqW (⟨key, kind, auA, auN, auc, auL, edA, edN, edc, edL, ti, co, pu, y, m, d, ci, vol, pa, cr⟩ : En) = [⟨#[116, 105, 116, 108, 101]⟩, ⟨#[112, 117, 98, 108, 105, 115, 104, 101, 114]⟩, ⟨#[100, 97, 116, 101]⟩]) := Lib.hid ((if_neg h2).trans ((if_neg h3).trans (if_pos ⟨h1, hp⟩)))
          subst h1
          clear h2 h3 hk2 hk3
          go_enter Tryz.func59, Tryz.ntmps59
          go_wp2_with fail
          go_ret
          rw [HR.out]
          exact ⟨_, rfl, rds_at1 (by simp) rfl, by omega, rds_at2 (by simp), HB.out.trans ((HBL.out _ _).mono HB.out.size)⟩
        · have HR : Hid (reqW (⟨key, kind, auA, auN, auc, auL, edA, edN, edc, edL, ti, co, pu, y, m, d, ci, vol, pa, cr⟩ : En) = [⟨#[97, 117, 116, 104, 111, 114, 115]⟩, ⟨#[116, 105, 116, 108, 101]⟩, ⟨#[112, 117, 98, 108, 105, 115, 104, 101, 114]⟩, ⟨#[100, 97, 116, 101]⟩]) := Lib.hid ((if_neg h2).trans ((if_neg h3).trans (if_neg (fun h => hp h.2))))
          obtain rfl : edN = 0 := by omega
          subst h1
          clear h2 h3 hk2 hk3 hp
          go_enter Tryz.func59, Tryz.ntmps59
          go_wp2_with fail
          go_ret
          rw [HR.out]
          exact ⟨_, rfl, rds_at1 (by simp) rfl, by omega, rds_at2 (by simp), HB.out.trans ((HBL.out _ _).mono HB.out.size)⟩
      · have HR : Hid (reqW (⟨key, kind, auA, auN, auc, auL, edA, edN, edc, edL, ti, co, pu, y, m, d, ci, vol, pa, cr⟩ : En) = [⟨#[97, 117, 116, 104, 111, 114, 115]⟩, ⟨#[116, 105, 116, 108, 101]⟩, ⟨#[112, 117, 98, 108, 105, 115, 104, 101, 114]⟩, ⟨#[100, 97, 116, 101]⟩]) := Lib.hid ((if_neg h2).trans ((if_neg h3).trans (if_neg (fun h => h1 h.1))))
        have hk1 : (kind == 1) = false := by simpa using h1
        clear h1 h2 h3
        go_enter Tryz.func59, Tryz.ntmps59
        go_wp2_with fail
        go_ret
        rw [HR.out]
        exact ⟨_, rfl, rds_at1 (by simp) rfl, by omega, rds_at2 (by simp), HB.out.trans ((HBL.out _ _).mono HB.out.size)⟩
set_option maxHeartbeats 2000000 in
theorem l4Needed (kind : Int) (w : World) :
    Calls Tryz.prog 122 #[.int .i64 kind] w fun e w' => ∃ g, e = .returned (.slice (some ⟨g, 0, none⟩) (need kind).length (need kind).length) ∧ RdS w' (some ⟨g, 0, none⟩) (need kind) ∧ w.heap.size ≤ g ∧ g < w'.heap.size ∧ Below w.heap.size w w' := by
  have hbl : ∀ (w : World) (o : Obj), Below w.heap.size w (w.alloc o) := fun w o => (Below.refl _ w).alloc (Nat.le_refl _) o
  have HBL := Lib.hid hbl
  clear hbl
  by_cases h2 : kind = 2
  · have HR : Hid (need kind = [⟨#[97, 117, 116, 104, 111, 114, 115]⟩, ⟨#[116, 105, 116, 108, 101]⟩, ⟨#[99, 111, 110, 116, 97, 105, 110, 101, 114]⟩, ⟨#[100, 97, 116, 101]⟩, ⟨#[118, 111, 108, 117, 109, 101]⟩]) := Lib.hid (if_pos h2)
    subst h2
    go_enter Tryz.func122, Tryz.ntmps122
    go_wp2_with fail
    go_ret
    rw [HR.out]
    exact ⟨_, rfl, rds_at1 (by simp) rfl, by omega, rds_at2 (by simp), HBL.out _ _⟩
  · by_cases h3 : kind = 3
    · have HR : Hid (need kind = [⟨#[97, 117, 116, 104, 111, 114, 115]⟩, ⟨#[116, 105, 116, 108, 101]⟩, ⟨#[99, 111, 110, 116, 97, 105, 110, 101, 114]⟩, ⟨#[101, 100, 105, 116, 111, 114, 115]⟩, ⟨#[100, 97, 116, 101]⟩]) := Lib.hid ((if_neg h2).trans (if_pos h3))
      subst h3
      clear h2
      go_enter Tryz.func122, Tryz.ntmps122
      go_wp2_with fail
      go_ret
      rw [HR.out]
      exact ⟨_, rfl, rds_at1 (by simp) rfl, by omega, rds_at2 (by simp), HBL.out _ _⟩
    · have HR : Hid (need kind = [⟨#[97, 117, 116, 104, 111, 114, 115]⟩, ⟨#[116, 105, 116, 108, 101]⟩, ⟨#[112, 117, 98, 108, 105, 115, 104, 101, 114]⟩, ⟨#[100, 97, 116, 101]⟩]) := Lib.hid ((if_neg h2).trans (if_neg h3))
      have hk2 : (kind == 2) = false := by simpa using h2
      have hk3 : (kind == 3) = false := by simpa using h3
      clear h2 h3
      go_enter Tryz.func122, Tryz.ntmps122
      go_wp2_with fail
      go_ret
      rw [HR.out]
      exact ⟨_, rfl, rds_at1 (by simp) rfl, by omega, rds_at2 (by simp), HBL.out _ _⟩
set_option maxRecDepth 100000 in
set_option maxHeartbeats 8000000 in
theorem iMissing (key : ByteArray) (kind : Int) (auA : Option Addr) (auN auc : Nat) (auL : List Nm) (edA : Option Addr) (edN edc : Nat) (edL : List Nm) (ti : ByteArray) (co : ByteArray) (pu : ByteArray) (y : Int) (m : Int) (d : Int) (ci : Bool) (vol : Int) (pa : ByteArray) (cr : ByteArray) (w : World) (hr : (⟨key, kind, auA, auN, auc, auL, edA, edN, edc, edL, ti, co, pu, y, m, d, ci, vol, pa, cr⟩ : En).Rd w) (hz : (⟨key, kind, auA, auN, auc, auL, edA, edN, edc, edL, ti, co, pu, y, m, d, ci, vol, pa, cr⟩ : En).sz ≤ 1048576) (hcp : (⟨key, kind, auA, auN, auc, auL, edA, edN, edc, edL, ti, co, pu, y, m, d, ci, vol, pa, cr⟩ : En).Cp) (ht : Tab w) :
    Calls Tryz.prog 13 #[.agg #[.string key, .int .i64 kind, .slice auA auN auc, .slice edA edN edc, .string ti, .string co, .string pu, .int .i64 y, .int .i64 m, .int .i64 d, .bool ci, .int .i64 vol, .string pa, .string cr]] w fun e w' => ∃ v, e = .returned (.tuple #[v, .bool (okE (⟨key, kind, auA, auN, auc, auL, edA, edN, edc, edL, ti, co, pu, y, m, d, ci, vol, pa, cr⟩ : En))]) ∧ w'.ownsRow w.heap.size 9 1 v (msL (⟨key, kind, auA, auN, auc, auL, edA, edN, edc, edL, ti, co, pu, y, m, d, ci, vol, pa, cr⟩ : En)).length ((msL (⟨key, kind, auA, auN, auc, auL, edA, edN, edc, edL, ti, co, pu, y, m, d, ci, vol, pa, cr⟩ : En)).map Value.string) ∧ Below w.heap.size w w' := by
  have HB := Lib.hid ((Below.refl _ w).alloc (Nat.le_refl _) (.cells #[.string key, .int .i64 kind, .slice auA auN auc, .slice edA edN edc, .string ti, .string co, .string pu, .int .i64 y, .int .i64 m, .int .i64 d, .bool ci, .int .i64 vol, .string pa, .string cr] 34))
  have HX := Lib.hid (E14.new w (⟨key, kind, auA, auN, auc, auL, edA, edN, edc, edL, ti, co, pu, y, m, d, ci, vol, pa, cr⟩ : En) 34)
  have HV := Lib.hid (isValidE_any key kind auA auN auc auL edA edN edc edL ti co pu y m d ci vol pa cr _ (hr.below HB.out) hz)
  cases hok : okE (⟨key, kind, auA, auN, auc, auL, edA, edN, edc, edL, ti, co, pu, y, m, d, ci, vol, pa, cr⟩ : En) with
  | false =>
    rw [hok] at HV
    have HF : Hid (msL (⟨key, kind, auA, auN, auc, auL, edA, edN, edc, edL, ti, co, pu, y, m, d, ci, vol, pa, cr⟩ : En) = []) := Lib.hid (by unfold msL; rw [hok]; rfl)
    clear hr hz hok HX hcp ht
    rw [HF.out]
    go_enter Tryz.func13, Tryz.ntmps13
    go_wp2_with fail
    generalize w.alloc _ = w0 at HB HV ⊢
    refine HV.out.mono ?_
    rintro e w1 ⟨rfl, b1⟩
    have k1 := HB.out.trans (b1.mono HB.out.size)
    clear HV b1
    go_wp2_with fail
    go_ret2
    exact ⟨_, rfl, World.ownsRow_lit w1 #[] 0 (k1.size) (Nat.zero_le _) rfl, k1.trans ((Below.refl _ w1).alloc k1.size _)⟩
  | true =>
    rw [hok] at HV
    have HF : Hid (msL (⟨key, kind, auA, auN, auc, auL, edA, edN, edc, edL, ti, co, pu, y, m, d, ci, vol, pa, cr⟩ : En) = (reqW (⟨key, kind, auA, auN, auc, auL, edA, edN, edc, edL, ti, co, pu, y, m, d, ci, vol, pa, cr⟩ : En)).filter (emp (⟨key, kind, auA, auN, auc, auL, edA, edN, edc, edL, ti, co, pu, y, m, d, ci, vol, pa, cr⟩ : En))) := Lib.hid (by unfold msL; rw [hok]; rfl)
    have HW := Lib.hid (fun f w' (hk : Below w.heap.size w w') => fieldText_any key kind auA auN auc auL edA edN edc edL ti co pu y m d ci vol pa cr f w' (hr.below hk) hcp hok (ht.below hk))
    have HRq := Lib.hid (fun w' => requiredFields key kind auA auN auc auL edA edN edc edL ti co pu y m d ci vol pa cr w')
    have HLn := Lib.hid (reqW_len (⟨key, kind, auA, auN, auc, auL, edA, edN, edc, edL, ti, co, pu, y, m, d, ci, vol, pa, cr⟩ : En))
    clear hr hz hok hcp ht
    obtain ⟨ws, HWs⟩ : ∃ ws, Hid (reqW (⟨key, kind, auA, auN, auc, auL, edA, edN, edc, edL, ti, co, pu, y, m, d, ci, vol, pa, cr⟩ : En) = ws) := ⟨_, Lib.hid rfl⟩
    rw [HF.out]
    rw [HWs.out] at HRq HLn ⊢
    clear HF HWs
    obtain ⟨i0, hi, hz0, hz1, hz2⟩ := info_parts Split.infoStr
    go_enter Tryz.func13, Tryz.ntmps13
    go_wp2_with fail
    generalize w.alloc _ = w0 at HB HX HV ⊢
    refine HV.out.mono ?_
    rintro e w1 ⟨rfl, b1⟩
    have k1 := Lib.hid (HB.out.trans (b1.mono HB.out.size))
    have HX1 := Lib.hid ((HX.out.below b1).below ((Below.refl _ w1).alloc (Nat.le_refl _) (.cells #[] 9)))
    have HO1 := Lib.hid (World.ownsRow_lit (base := w.heap.size) (e := 9) (size := 1) w1 #[] 0 (k1.out.size) (Nat.zero_le _) rfl)
    have k2 := Lib.hid (k1.out.trans ((Below.refl _ w1).alloc k1.out.size (.cells #[] 9)))
    obtain ⟨hl, c0, c1, c2, c3, c4, c5, c6, c7, c8, c9, c10, c11, c12, c13⟩ := HX.out.below b1
    dsimp only at c0 c1 c2 c3 c4 c5 c6 c7 c8 c9 c10 c11 c12 c13
    clear HV HX b1
    go_wp2_with fail
    generalize hwa : w1.alloc (.cells #[] 9) = wa at k2 HX1 HO1 ⊢
    have hwa' : w1.heap.size < wa.heap.size := by rw [← hwa]; simp
    have hbw : w.heap.size < w1.heap.size := hl
    clear hwa
    refine (HRq.out _).mono ?_
    rintro e w2 ⟨g, rfl, hrd, hga, hg, b2⟩
    have kk2 := Lib.hid (k2.out.trans (b2.mono k2.out.size))
    have HX2 := Lib.hid (HX1.out.below b2)
    have HO2 := Lib.hid (own_kept HO1.out b2)
    have HRd := Lib.hid hrd
    have h12 : w1.heap.size < w2.heap.size := Nat.lt_of_lt_of_le hwa' b2.size
    generalize w1.heap.size = r1 at *
    clear hrd HX1 HO1 k2 b2 hl c0 c1 c2 c3 c4 c5 c6 c7 c8 c9 c10 c11 c12 c13 k1
    have h5 := HLn.out
    go_wp2_with fail
    go_loopw [4, 15] (fun v i wr => ∃ k : Nat, k ≤ ws.length ∧ i = .int .i64 k ∧ Hid (wr.ownsRow w.heap.size 9 1 v ((ws.take k).filter (emp (⟨key, kind, auA, auN, auc, auL, edA, edN, edc, edL, ti, co, pu, y, m, d, ci, vol, pa, cr⟩ : En))).length (((ws.take k).filter (emp (⟨key, kind, auA, auN, auc, auL, edA, edN, edc, edL, ti, co, pu, y, m, d, ci, vol, pa, cr⟩ : En))).map Value.string)) ∧ Hid (Rw w2 (some r1) wr v)) (fun _ i _ => ws.length - (intOf i).toNat)
    case atStart => exact ⟨0, Nat.zero_le _, rfl, Lib.hid HO2.out, Lib.hid (Rw.start w2 (.slice (some ⟨r1, 0, none⟩) 0 0))⟩
    case round =>
      obtain ⟨k, hk, rfl, hown, hrw⟩ := hrel
      have hb := Lib.hid (kk2.out.trans (hrw.out.toBelow (B := w.heap.size) kk2.out.size (fun k' e => by cases e; exact Nat.le_of_lt hbw)))
      by_cases hlt : k < ws.length
      · have hx? := List.getElem?_eq_getElem hlt
        have HT := Lib.hid (filter_take (emp (⟨key, kind, auA, auN, auc, auL, edA, edN, edc, edL, ti, co, pu, y, m, d, ci, vol, pa, cr⟩ : En)) hx?)
        obtain ⟨g', o', e0, hc⟩ := (HRd.out.of (w' := wr) (fun _ a ha => by cases ha; exact hrw.out.block hg (fun e => by have e' : r1 = g := Option.some.inj e; omega))) k _ hx?
        cases e0
        rw [Nat.zero_add] at hc
        have HTl : ((ws.take k).filter (emp (⟨key, kind, auA, auN, auc, auL, edA, edN, edc, edL, ti, co, pu, y, m, d, ci, vol, pa, cr⟩ : En))).length ≤ 5 := Nat.le_trans (List.length_filter_le _ _) (by rw [List.length_take]; have := HLn.out; omega)
        clear hx?
        generalize ws[k] = f at *
        generalize (ws.take k).filter (emp (⟨key, kind, auA, auN, auc, auL, edA, edN, edc, edL, ti, co, pu, y, m, d, ci, vol, pa, cr⟩ : En)) = fs at *
        obtain ⟨hl, c0, c1, c2, c3, c4, c5, c6, c7, c8, c9, c10, c11, c12, c13⟩ := HX2.out.blk (w' := wr) (hrw.out.block HX2.out.1 (fun e => by cases e; omega))
        dsimp only at c0 c1 c2 c3 c4 c5 c6 c7 c8 c9 c10 c11 c12 c13
        have HF := Lib.hid (HW.out f wr hb.out)
        have HE : Hid (emp (⟨key, kind, auA, auN, auc, auL, edA, edN, edc, edL, ti, co, pu, y, m, d, ci, vol, pa, cr⟩ : En) f = ((fldS (⟨key, kind, auA, auN, auc, auL, edA, edN, edc, edL, ti, co, pu, y, m, d, ci, vol, pa, cr⟩ : En) f).toList == [])) := Lib.hid rfl
        generalize fldS (⟨key, kind, auA, auN, auc, auL, edA, edN, edc, edL, ti, co, pu, y, m, d, ci, vol, pa, cr⟩ : En) f = yy at *
        generalize emp (⟨key, kind, auA, auN, auc, auL, edA, edN, edc, edL, ti, co, pu, y, m, d, ci, vol, pa, cr⟩ : En) f = pp at *
        cases hp : (yy.toList == []) with
        | true =>
          have HT2 : Hid ((ws.take (k + 1)).filter (emp (⟨key, kind, auA, auN, auc, auL, edA, edN, edc, edL, ti, co, pu, y, m, d, ci, vol, pa, cr⟩ : En)) = fs ++ [f]) := Lib.hid (by rw [HT.out, HE.out, hp]; rfl)
          clear HT HE
          go_wp2_with fail
          refine HF.out.mono ?_
          rintro e w3 ⟨rfl, b3⟩
          have own3 := own_kept hown.out b3
          have rw3 := Lib.hid (hrw.out.below b3)
          have hs3 : w.heap.size ≤ w3.heap.size := Nat.le_trans hb.out.size b3.size
          clear b3 HF hown hrw c0 c1 c2 c3 c4 c5 c6 c7 c8 c9 c10 c11 c12 c13 hl hc
          go_wp2_with (first
            | (at_builtin; refine wpList_append_own_at _ rfl _ _ 28 rfl w.heap.size 9 i0 (.string ByteArray.empty) 1 16 Tryz.underlying28 hi hz0 hz1 hz2 rfl (by decide) _ _ _ rfl (own3.alloc _) ⟨w3.heap.size, 0, none⟩ 1 1 [.string f] rfl rfl (cell_one_new _ _ _) (by simp [Value.oneCell']) (by unfold maxLen; omega) (by omega) (by simp; omega) ?_; intro v' w4 hown' hgrow _ hat)
            | go_in)
          go_roundw
          case rel =>
            refine ⟨k + 1, by omega, by go_num, ?_, Lib.hid ((rw3.out.below ((Below.refl _ w3).alloc (Nat.le_refl _) _)).appended hgrow hat)⟩
            rw [HT2.out]
            refine Lib.hid ?_
            simpa using hown'
          case measure => simp [intOf]; omega
        | false =>
          have HT2 : Hid ((ws.take (k + 1)).filter (emp (⟨key, kind, auA, auN, auc, auL, edA, edN, edc, edL, ti, co, pu, y, m, d, ci, vol, pa, cr⟩ : En)) = fs) := Lib.hid (by rw [HT.out, HE.out, hp]; simp)
          clear HT HE
          go_wp2_with fail
          refine HF.out.mono ?_
          rintro e w3 ⟨rfl, b3⟩
          have own3 := own_kept hown.out b3
          have rw3 := Lib.hid (hrw.out.below b3)
          clear b3 HF hown hrw c0 c1 c2 c3 c4 c5 c6 c7 c8 c9 c10 c11 c12 c13 hl hc
          go_wp2_with fail
          go_roundw
          case rel => exact ⟨k + 1, by omega, by go_num, by rw [HT2.out]; exact own3, rw3⟩
          case measure => simp [intOf]; omega
      · obtain rfl : k = ws.length := by omega
        rw [List.take_length] at hown
        go_wp2_with fail
        go_ret2
        exact ⟨_, rfl, hown.out, hb.out⟩
end Go.Proofs.YthndeflimmlcaaaGreatDoor.Fld
