/-
  Contracts of the drawing cursor: next, pick, one, of.
-/
import Derived.Test.YtljbbmefemfjpaaRows
import Derived.Test.YtljbbmefemfjpaaPlain
import Derived.WalkKit
import Derived.LoopTactic
import Derived.Lib.Hide
import Derived.Deep.QuietTactic
import Derived.BigQuiet
import Derived.RegionTactic
import Derived.ChangeAlike
import Derived.Laws.Bits64b
import Derived.Laws.IdiomStrings
namespace Go.Proofs.Ytljbbmefemfjpaa.Cur
open Go.RowKit Pl

/-- the slice of bytes at A: each of its n cells is a byte -/
def RdB (w : World) (A : Option Addr) (n : Nat) : Prop :=
  ∀ j, j < n → ∃ g o z, A = some ⟨g, o, none⟩ ∧ w.cell? ⟨g, o + j, none⟩ = some (.int .u8 z) ∧ 0 ≤ z ∧ z ≤ 255

/-- block g is a cursor over the slice A, n, c, at place k -/
def IsCur (w : World) (g : Nat) (A : Option Addr) (n c k : Nat) (s : Int) : Prop := w.heap[g]? = some (.cells #[.slice A n c, .int .i64 k, .int .u64 s] 62 (0, 0))
section
variable {w : World} {g : Nat} {A : Option Addr} {n c k : Nat} {s : Int}
theorem IsCur.lt (h : IsCur w g A n c k s) : g < w.heap.size := (Array.getElem?_eq_some_iff.1 h).1
theorem IsCur.c0 (h : IsCur w g A n c k s) : w.cell? ⟨g, 0, none⟩ = some (.slice A n c) := by unfold IsCur at h; simp [World.cell?, h]
theorem IsCur.c1 (h : IsCur w g A n c k s) : w.cell? ⟨g, 1, none⟩ = some (.int .i64 k) := by unfold IsCur at h; simp [World.cell?, h]
theorem IsCur.c2 (h : IsCur w g A n c k s) : w.cell? ⟨g, 2, none⟩ = some (.int .u64 s) := by unfold IsCur at h; simp [World.cell?, h]
theorem IsCur.f (h : IsCur w g A n c k s) (i : Nat) : w.frozen? ⟨g, i, none⟩ = false := by unfold IsCur at h; simp [World.frozen?, h]
theorem IsCur.step (h : IsCur w g A n c k s) (s' : Int) : IsCur ((w.setCell ⟨g, 1, none⟩ (.int .i64 ((k : Int) + 1))).setCell ⟨g, 2, none⟩ (.int .u64 s')) g A n c (k + 1) s' := by
  unfold IsCur at h ⊢
  simp [World.setCell, Array.getElem?_modify, h]
theorem step_grown (w : World) (g : Nat) (u v : Value) : w.grownBy ((w.setCell ⟨g, 1, none⟩ u).setCell ⟨g, 2, none⟩ v) (some g) :=
  ⟨rfl, rfl, rfl, by simp [World.setCell], fun k _ hk => (Below.heap_setCell _ _ _ k (fun e => hk (by rw [e]))).trans (Below.heap_setCell _ _ _ k (fun e => hk (by rw [e])))⟩
theorem grown_drewN {w w' : World} {row : Option Nat} {q : Nat} (h : (w.drewN q).grownBy w' row) : w.grownBy w' row := ⟨h.os, h.tape, h.output, h.size, h.block⟩
theorem grown_drewN' {w w' : World} {row : Option Nat} (q : Nat) (h : w.grownBy w' row) : w.grownBy (w'.drewN q) row := ⟨h.os, h.tape, h.output, h.size, h.block⟩
theorem IsCur.drewN (h : IsCur w g A n c k s) (q : Nat) : IsCur (w.drewN q) g A n c k s := h
end

theorem wrap_bd (x : Int) : 0 ≤ IntKind.u64.wrap x ∧ IntKind.u64.wrap x < 18446744073709551616 := by
  simp only [IntKind.wrap, IntKind.signed, IntKind.bits]
  refine ⟨?_, ?_⟩ <;> simp <;> omega
theorem draw_bd (s : Int) (h : 0 ≤ s ∧ s < 18446744073709551616) : 0 ≤ wrap64 (bits BinOp.and IntKind.u64 (s / 1099511627776) 255) ∧ wrap64 (bits BinOp.and IntKind.u64 (s / 1099511627776) 255) ≤ 255 := by
  obtain ⟨m, hm⟩ : ∃ m : Nat, s / 1099511627776 = (m : Int) := ⟨(s / 1099511627776).toNat, by omega⟩
  have hb : m < 18446744073709551616 := by omega
  have e := bits_and_u64_nat m 255 hb (by omega)
  rw [hm]
  have e' : bits BinOp.and IntKind.u64 (m : Int) 255 = ((m &&& 255 : Nat) : Int) := e
  rw [e']
  have hle : m &&& 255 ≤ 255 := Nat.and_le_right
  unfold wrap64
  omega

set_option maxHeartbeats 1000000 in
theorem next_raw (g : Nat) (A : Option Addr) (n c k : Nat) (s : Int) (w : World) (hk : k ≤ 1048576) (_hn : n ≤ 1048576) (hcur : IsCur w g A n c k s) (hr : RdB w A n) :
    Calls Try.prog 70 #[.pointer (some ⟨g, 0, none⟩)] w fun e w' => ∃ r s', e = .returned (.int .i64 r) ∧ 0 ≤ r ∧ r ≤ 255 ∧ IsCur w' g A n c (k + 1) s' ∧ w.grownBy w' (some g) := by
  have HR := Lib.hid hr
  clear hr
  have h0 := hcur.c0
  have h1 := hcur.c1
  have h2 := hcur.c2
  have f1 := hcur.f 1
  have f2 := hcur.f 2
  by_cases hlt : k < n
  · obtain ⟨gb, ob, z, rfl, hc, hz0, hz1⟩ := HR.out k hlt
    go_enter Try.func70, Try.ntmps70
    go_wp2
    go_quiet (fail)
    go_wp2
    go_quiet (fail)
    go_wp2
    generalize IntKind.u64.wrap (IntKind.u64.wrap (IntKind.u64.wrap (s * 6364136223846793005) + z) + 896896) = s'
    generalize hwq : w.drewN _ = wq
    have hst : IsCur wq g (some ⟨gb, ob, none⟩) n c k s := by rw [← hwq]; exact hcur.drewN _
    replace hst := hst.step s'
    have hgr : w.grownBy ((wq.setCell ⟨g, 1, none⟩ (.int .i64 ((k : Int) + 1))).setCell ⟨g, 2, none⟩ (.int .u64 s')) (some g) := by
      rw [← hwq]; exact grown_drewN (step_grown _ g _ _)
    clear hwq
    generalize (wq.setCell ⟨g, 1, none⟩ (.int .i64 ((k : Int) + 1))).setCell ⟨g, 2, none⟩ (.int .u64 s') = W2 at *
    clear h0 h1 h2 f1 f2 hcur hc
    have h0 := hst.c0
    have h1 := hst.c1
    have h2 := hst.c2
    go_quiet (fail)
    go_wp2
    go_ret
    exact ⟨z, s', rfl, hz0, hz1, hst.drewN _, grown_drewN' _ hgr⟩
  · go_enter Try.func70, Try.ntmps70
    go_wp2
    go_quiet (fail)
    go_wp2
    have HB := Lib.hid (wrap_bd (IntKind.u64.wrap (IntKind.u64.wrap (s * 6364136223846793005)) + 896896))
    generalize IntKind.u64.wrap (IntKind.u64.wrap (IntKind.u64.wrap (s * 6364136223846793005)) + 896896) = s' at *
    generalize hwq : w.drewN _ = wq
    have hst : IsCur wq g A n c k s := by rw [← hwq]; exact hcur.drewN _
    replace hst := hst.step s'
    have hgr : w.grownBy ((wq.setCell ⟨g, 1, none⟩ (.int .i64 ((k : Int) + 1))).setCell ⟨g, 2, none⟩ (.int .u64 s')) (some g) := by
      rw [← hwq]; exact grown_drewN (step_grown _ g _ _)
    clear hwq
    generalize (wq.setCell ⟨g, 1, none⟩ (.int .i64 ((k : Int) + 1))).setCell ⟨g, 2, none⟩ (.int .u64 s') = W2 at *
    clear h0 h1 h2 f1 f2 hcur
    have h0 := hst.c0
    have h1 := hst.c1
    have h2 := hst.c2
    go_quiet (fail)
    go_wp2
    go_ret
    exact ⟨_, s', rfl, (draw_bd s' HB.out).1, (draw_bd s' HB.out).2, hst.drewN _, grown_drewN' _ hgr⟩

/-- what a method of the cursor leaves -/
def LeftC (w : World) (g : Nat) (A : Option Addr) (n c k : Nat) (m : Nat) (w' : World) : Prop := (∃ k' s', k' ≤ k + m ∧ IsCur w' g A n c k' s') ∧ w.grownBy w' (some g)
theorem grown_trans {w w1 w2 : World} {row : Option Nat} (h : w.grownBy w1 row) (hb : w1.grownBy w2 row) : w.grownBy w2 row :=
  ⟨hb.os.trans h.os, hb.tape.trans h.tape, hb.output.trans h.output, Nat.le_trans h.size hb.size, fun k hk hr => (hb.block k (Nat.lt_of_lt_of_le hk h.size) hr).trans (h.block k hk hr)⟩
/-- the bytes lie elsewhere -/
def Apart (A : Option Addr) (n g : Nat) : Prop := 0 < n → ∀ a, A = some a → a.block < g
theorem RdB.grown {w w' : World} {A : Option Addr} {n g : Nat} (h : RdB w A n) (ha : Apart A n g) (hg : w.grownBy w' (some g)) : RdB w' A n := by
  intro j hj
  obtain ⟨b, o, z, rfl, hc, hz⟩ := h j hj
  refine ⟨b, o, z, rfl, hg.cell hc ?_, hz⟩
  have := ha (by omega) _ rfl
  simp at this ⊢
  omega

def SomeInt (lo hi : Int) (w : World) (g : Nat) (A : Option Addr) (n c k m : Nat) (e : Ending) (w' : World) : Prop := ∃ r, e = .returned (.int .i64 r) ∧ lo ≤ r ∧ r ≤ hi ∧ LeftC w g A n c k m w'
theorem next_any (g : Nat) (A : Option Addr) (n c k : Nat) (s : Int) (w : World) (hk : k ≤ 1048576) (hn : n ≤ 1048576) (hcur : IsCur w g A n c k s) (hr : RdB w A n) :
    Calls Try.prog 70 #[.pointer (some ⟨g, 0, none⟩)] w (SomeInt 0 255 w g A n c k 1) :=
  (next_raw g A n c k s w hk hn hcur hr).mono fun _ _ ⟨r, s', he, h1, h2, h3, h4⟩ => ⟨r, he, h1, h2, ⟨k + 1, s', Nat.le_refl _, h3⟩, h4⟩

set_option maxHeartbeats 1000000 in
theorem pick_any (m : Nat) (hm0 : 1 ≤ m) (hm : m ≤ 65536) (g : Nat) (A : Option Addr) (n c k : Nat) (s : Int) (w : World) (hk : k ≤ 1048570) (hn : n ≤ 1048576) (hcur : IsCur w g A n c k s) (hr : RdB w A n) (ha : Apart A n g) :
    Calls Try.prog 56 #[.pointer (some ⟨g, 0, none⟩), .int .i64 m] w (SomeInt 0 ((m : Int) - 1) w g A n c k 2) := by
  by_cases h1 : m ≤ 1
  · go_enter Try.func56, Try.ntmps56
    go_wp2_with fail
    go_ret
    exact ⟨0, rfl, by omega, by omega, ⟨k, s, by omega, hcur⟩, World.grownBy.refl _ _⟩
  · have HR := Lib.hid hr
    have HA := Lib.hid ha
    clear hr ha
    go_enter Try.func56, Try.ntmps56
    go_wp2_with fail
    refine (next_any g A n c k s _ (by omega) hn hcur HR.out).mono ?_
    rintro e w1 ⟨r, rfl, hr0, hr1, ⟨k1, s1, hk1, hcur1⟩, hg1⟩
    have HR1 := Lib.hid (HR.out.grown HA.out hg1)
    by_cases h2 : 200 < m
    · go_wp2_with fail
      refine (next_any g A n c k1 s1 _ (by omega) hn hcur1 HR1.out).mono ?_
      rintro e w2 ⟨r2, rfl, hr20, hr21, ⟨k2, s2, hk2, hcur2⟩, hg2⟩
      go_wp2_with fail
      go_ret
      have e1 := Int.emod_nonneg (r * 256 + r2) (show (m : Int) ≠ 0 by omega)
      have e2 := Int.emod_lt_of_pos (r * 256 + r2) (show (0 : Int) < m by omega)
      exact ⟨_, rfl, e1, by omega, ⟨k2, s2, by omega, hcur2⟩, grown_trans hg1 hg2⟩
    · go_wp2_with fail
      go_ret
      have e1 := Int.emod_nonneg r (show (m : Int) ≠ 0 by omega)
      have e2 := Int.emod_lt_of_pos r (show (0 : Int) < m by omega)
      exact ⟨_, rfl, e1, by omega, ⟨k1, s1, by omega, hcur1⟩, hg1⟩

def SomeBool (w : World) (g : Nat) (A : Option Addr) (n c k m : Nat) (e : Ending) (w' : World) : Prop := ∃ r, e = .returned (.bool r) ∧ LeftC w g A n c k m w'
def SomeStr (P : ByteArray → Prop) (w : World) (g : Nat) (A : Option Addr) (n c k m : Nat) (e : Ending) (w' : World) : Prop := ∃ r, P r ∧ e = .returned (.string r) ∧ LeftC w g A n c k m w'
/-- the cells of a list of texts -/
def Txt (w : World) (gl : Nat) (xs : List ByteArray) : Prop := ∀ j x, xs[j]? = some x → w.cell? ⟨gl, j, none⟩ = some (.string x)
theorem Txt.lit {w : World} {cs : Array Value} {t : TypeId} {xs : List ByteArray} (h : cs = (xs.map Value.string).toArray) : Txt (w.alloc (.cells cs t)) w.heap.size xs := by
  intro j x hx
  subst h
  rw [World.cell?_alloc_mark]
  simp [hx]
theorem IsCur.alloc {w : World} {g : Nat} {A : Option Addr} {n c k : Nat} {s : Int} (h : IsCur w g A n c k s) (o : Obj) : IsCur (w.alloc o) g A n c k s := (Below.heap_alloc w o g h.lt).trans h
theorem RdB.alloc {w : World} {A : Option Addr} {n g : Nat} (h : RdB w A n) (ha : Apart A n g) (hg : g < w.heap.size) (o : Obj) : RdB (w.alloc o) A n := by
  intro j hj
  obtain ⟨b, of, z, rfl, hc, hz⟩ := h j hj
  refine ⟨b, of, z, rfl, ?_, hz⟩
  have := ha (by omega) _ rfl
  simp at this
  rw [World.cell?_alloc_lt w o ⟨b, of + j, none⟩ (by simp; omega)]
  exact hc
theorem LeftC.alloc {w : World} {g : Nat} {A : Option Addr} {n c k m : Nat} {o : Obj} {w' : World} (h : LeftC (w.alloc o) g A n c k m w') : LeftC w g A n c k m w' :=
  ⟨h.1, grown_trans (World.grownBy_alloc w o _) h.2⟩

end Go.Proofs.Ytljbbmefemfjpaa.Cur
